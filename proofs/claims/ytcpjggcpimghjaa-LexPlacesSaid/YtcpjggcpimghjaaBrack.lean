/- Brackets and signs, by the program. -/
import Derived.Test.YtcpjggcpimghjaaText
namespace Go.Proofs.Ytcpjggcpimghjaa
open Go.RowKit
set_option linter.unusedVariables false

def Ends (b : Nat) (s : ByteArray) (beg : Int) (w : World) (r : Except Int (Value × Nat × Int)) (e : Ending) (w' : World) : Prop :=
  match r with
  | .ok (v, k, op) => e = .returned v ∧ Rd w' b s beg (k : Nat) op ∧ Off b w w'
  | .error c => e = flt beg c ∧ Off b w w'
theorem ends_ok {b : Nat} {s : ByteArray} {beg : Int} {w : World} {r : Except Int (Value × Nat × Int)} {v : Value} {k : Nat} {op : Int} {e : Ending} {w' : World} (h : r = .ok (v, k, op)) (he : e = .returned v) (hr : Rd w' b s beg (k : Nat) op) (ho : Off b w w') : Ends b s beg w r e w' := by
  subst h; exact ⟨he, hr, ho⟩
theorem ends_err {b : Nat} {s : ByteArray} {beg : Int} {w : World} {r : Except Int (Value × Nat × Int)} {c : Int} {e : Ending} {w' : World} (h : r = .error c) (he : e = flt beg c) (ho : Off b w w') : Ends b s beg w r e w' := by
  subst h; exact ⟨he, ho⟩
def opB (P : List UInt8) (op : Int) : Int := if opens P = true then op + 1 else if shuts P = true then max (op - 1) 0 else op
def brackR (P : List UInt8) (k : Nat) (op : Int) : Except Int (Value × Nat × Int) := if opens P = true ∧ op = 240 then .error 6 else .ok (.tuple #[], k, opB P op)
theorem gl_true {g : ByteArray} {l : List UInt8} (h : g.data.toList = l) : (g.toList == l) = true := by rw [list_eq_iff]; simpa using h
theorem gl_false {g : ByteArray} {l : List UInt8} (h : ¬ g.data.toList = l) : (g.toList == l) = false := by rw [list_eq_iff]; simpa using h

set_option maxRecDepth 100000 in
set_option maxHeartbeats 4000000 in
theorem bracket_any (b : Nat) (s g : ByteArray) (beg op : Int) (h0 : 0 ≤ op) (h1 : op ≤ 240) (k : Nat) (w : World) (h : Rd w b s beg k op) :
    Calls Try.prog 57 #[.pointer (some ⟨b, 0, none⟩), .string g] w (Ends b s beg w (brackR g.data.toList k op)) := by
  have H := Lib.hid h
  have c3 := h.c3
  have f3 := h.fz 3
  clear h
  have HR : Hid (brackR g.data.toList k op = if opens g.data.toList = true ∧ op = 240 then .error 6 else .ok (.tuple #[], k, opB g.data.toList op)) := rfl
  generalize brackR g.data.toList k op = R at *
  by_cases e123 : g.data.toList = [123]
  · have q123 := gl_true e123
    rw [e123] at HR
    clear e123
    by_cases hop : op = 240
    · have E := Lib.hid (HR.out.trans (by rw [if_pos ⟨rfl, hop⟩]))
      have hq : (op == 240) = true := by rw [hop]; rfl
      have G := Lib.hid (fun w h => giveUp_any b s beg k op 6 w h)
      clear hop
      go_enter Try.func57, Try.ntmps57
      go_wp2_with fail
      refine (G.out _ H.out).mono ?_; rintro e w' ⟨rfl, rfl⟩
      unfold flt
      go_wp2_with fail
      exact bodyPost_panic rfl (ends_err E.out rfl (Off.refl _ _))
    · have E := Lib.hid (HR.out.trans (by rw [if_neg (fun h => hop h.2)]))
      have hq : (op == 240) = false := by rw [beq_eq_false_iff_ne]; exact hop
      clear hop
      go_enter Try.func57, Try.ntmps57
      go_wp2_with fail
      go_end0
      exact ends_ok E.out rfl (H.out.s3 _) ((Off.refl _ _).set _ _)
  by_cases e40 : g.data.toList = [40]
  · have q40 := gl_true e40
    have q123 := gl_false e123
    rw [e40] at HR
    clear e123 e40
    by_cases hop : op = 240
    · have E := Lib.hid (HR.out.trans (by rw [if_pos ⟨rfl, hop⟩]))
      have hq : (op == 240) = true := by rw [hop]; rfl
      have G := Lib.hid (fun w h => giveUp_any b s beg k op 6 w h)
      clear hop
      go_enter Try.func57, Try.ntmps57
      go_wp2_with fail
      refine (G.out _ H.out).mono ?_; rintro e w' ⟨rfl, rfl⟩
      unfold flt
      go_wp2_with fail
      exact bodyPost_panic rfl (ends_err E.out rfl (Off.refl _ _))
    · have E := Lib.hid (HR.out.trans (by rw [if_neg (fun h => hop h.2)]))
      have hq : (op == 240) = false := by rw [beq_eq_false_iff_ne]; exact hop
      clear hop
      go_enter Try.func57, Try.ntmps57
      go_wp2_with fail
      go_end0
      exact ends_ok E.out rfl (H.out.s3 _) ((Off.refl _ _).set _ _)
  by_cases e91 : g.data.toList = [91]
  · have q91 := gl_true e91
    have q123 := gl_false e123
    have q40 := gl_false e40
    rw [e91] at HR
    clear e123 e40 e91
    by_cases hop : op = 240
    · have E := Lib.hid (HR.out.trans (by rw [if_pos ⟨rfl, hop⟩]))
      have hq : (op == 240) = true := by rw [hop]; rfl
      have G := Lib.hid (fun w h => giveUp_any b s beg k op 6 w h)
      clear hop
      go_enter Try.func57, Try.ntmps57
      go_wp2_with fail
      refine (G.out _ H.out).mono ?_; rintro e w' ⟨rfl, rfl⟩
      unfold flt
      go_wp2_with fail
      exact bodyPost_panic rfl (ends_err E.out rfl (Off.refl _ _))
    · have E := Lib.hid (HR.out.trans (by rw [if_neg (fun h => hop h.2)]))
      have hq : (op == 240) = false := by rw [beq_eq_false_iff_ne]; exact hop
      clear hop
      go_enter Try.func57, Try.ntmps57
      go_wp2_with fail
      go_end0
      exact ends_ok E.out rfl (H.out.s3 _) ((Off.refl _ _).set _ _)
  by_cases e125 : g.data.toList = [125]
  · have q125 := gl_true e125
    have q123 := gl_false e123
    have q40 := gl_false e40
    have q91 := gl_false e91
    rw [e125] at HR
    clear e123 e40 e91 e125
    have E := Lib.hid (HR.out.trans (by rw [if_neg (fun h => by cases h.1)]))
    go_enter Try.func57, Try.ntmps57
    go_wp2_with fail
    go_end0
    exact ends_ok E.out rfl (H.out.s3 _) ((Off.refl _ _).set _ _)
  by_cases e41 : g.data.toList = [41]
  · have q41 := gl_true e41
    have q123 := gl_false e123
    have q40 := gl_false e40
    have q91 := gl_false e91
    have q125 := gl_false e125
    rw [e41] at HR
    clear e123 e40 e91 e125 e41
    have E := Lib.hid (HR.out.trans (by rw [if_neg (fun h => by cases h.1)]))
    go_enter Try.func57, Try.ntmps57
    go_wp2_with fail
    go_end0
    exact ends_ok E.out rfl (H.out.s3 _) ((Off.refl _ _).set _ _)
  by_cases e93 : g.data.toList = [93]
  · have q93 := gl_true e93
    have q123 := gl_false e123
    have q40 := gl_false e40
    have q91 := gl_false e91
    have q125 := gl_false e125
    have q41 := gl_false e41
    rw [e93] at HR
    clear e123 e40 e91 e125 e41 e93
    have E := Lib.hid (HR.out.trans (by rw [if_neg (fun h => by cases h.1)]))
    go_enter Try.func57, Try.ntmps57
    go_wp2_with fail
    go_end0
    exact ends_ok E.out rfl (H.out.s3 _) ((Off.refl _ _).set _ _)
  have ho : opens g.data.toList = false := by unfold opens; simp [e123, e40, e91]
  have hs : shuts g.data.toList = false := by unfold shuts; simp [e125, e41, e93]
  have E := Lib.hid (HR.out.trans (by unfold opB; rw [ho, hs, if_neg (fun h => by cases h.1), if_neg (by decide), if_neg (by decide)]))
  have q123 := gl_false e123
  have q40 := gl_false e40
  have q91 := gl_false e91
  have q125 := gl_false e125
  have q41 := gl_false e41
  have q93 := gl_false e93
  clear ho hs e123 e40 e91 e125 e41 e93
  go_enter Try.func57, Try.ntmps57
  go_wp2_with fail
  go_end0
  exact ends_ok E.out rfl H.out (Off.refl _ _)
end Go.Proofs.Ytcpjggcpimghjaa
