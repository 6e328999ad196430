/- The face: Tokens, and what catches a reader that gives up. -/
import Derived.Test.YtcpjggcpimghjaaToks
import Derived.Test.YtcpjggcpimghjaaUWalk
import Derived.Defers
import Derived.Recover
import Derived.RegionTactic
namespace Go.Proofs.Ytcpjggcpimghjaa
open Go.RowKit
set_option linter.unusedVariables false

set_option maxRecDepth 100000 in
set_option maxHeartbeats 1000000 in
theorem catch_idle (pl pa pe : Nat) (w : World) :
    CallsD Try.prog 15 #[.pointer (some ⟨pl, 0, none⟩), .pointer (some ⟨pa, 0, none⟩), .pointer (some ⟨pe, 0, none⟩)] .returning w fun e u' w' =>
      e = .returned (.tuple #[]) ∧ u' = .returning ∧ w' = w := by
  refine callsD_of_wpS Try.func15 rfl fun c₀ cs hu => ?_
  rw [show ((#[.pointer (some ⟨pl, 0, none⟩), .pointer (some ⟨pa, 0, none⟩), .pointer (some ⟨pe, 0, none⟩)] : Array Value) ++ Array.replicate (Try.f15.ntmps - (#[.pointer (some ⟨pl, 0, none⟩), .pointer (some ⟨pa, 0, none⟩), .pointer (some ⟨pe, 0, none⟩)] : Array Value).size) undef) = #[.pointer (some ⟨pl, 0, none⟩), .pointer (some ⟨pa, 0, none⟩), .pointer (some ⟨pe, 0, none⟩), undef, undef, undef, undef, undef, undef, undef, undef, undef, undef, undef, undef, undef] from rfl]
  apply wpS_seq
  apply wpS_region
  simp [wpOpsS, go_sem, recoverD, hu, Exit.thenS]
  have hq : ∀ w, (binOp .eql 20 .nilIface .nilIface).run Try.prog w = .ok (.bool true) w := fun _ => rfl
  refine wpS_of_wp ?_
  go_wp2_with fail
  refine ⟨rfl, .returning, ?_, _, results_none rfl _ _ _, rfl, rfl, rfl⟩
  rw [← hu]

/-- A variable of the call's own: block g holds the one value x. -/
def B1 (w : World) (g : Nat) (T : TypeId) (x : Value) : Prop := w.heap[g]? = some (.cells #[x] T (0, 0))
section
variable {w w' : World} {g : Nat} {T : TypeId} {x : Value}
theorem B1.lt (h : B1 w g T x) : g < w.heap.size := by
  rcases Nat.lt_or_ge g w.heap.size with hlt | hge
  · exact hlt
  · unfold B1 at h; rw [Array.getElem?_eq_none hge] at h; cases h
theorem B1.c (h : B1 w g T x) : w.cell? ⟨g, 0, none⟩ = some x := by unfold B1 at h; simp [World.cell?, h]
theorem B1.fz (h : B1 w g T x) : w.frozen? ⟨g, 0, none⟩ = false := by unfold B1 at h; simp [World.frozen?, h]
theorem B1.s (h : B1 w g T x) (u : Value) : B1 (w.setCell ⟨g, 0, none⟩ u) g T u := by unfold B1 at h ⊢; simp [World.setCell, Array.getElem?_modify, h]
theorem B1.far (h : B1 w g T x) {p : Addr} (hp : g ≠ p.block) (u : Value) : B1 (w.setCell p u) g T x := (Below.heap_setCell w p u g hp).trans h
theorem B1.alloc (h : B1 w g T x) (o : Obj) : B1 (w.alloc o) g T x := (Below.heap_alloc w o g h.lt).trans h
theorem B1.drew (h : B1 w g T x) : B1 w.drew g T x := h
theorem B1.off {b : Nat} (h : B1 w g T x) (o : Off b w w') (hg : g ≠ b) : B1 w' g T x := (o.block g h.lt hg).trans h
theorem B1.below {B : Nat} (h : B1 w g T x) (hb : Below B w w') (hg : g < B) : B1 w' g T x := (hb.block g hg).trans h
theorem B1.new (w : World) (T : TypeId) (x : Value) : B1 (w.alloc (.cells #[x] T)) w.heap.size T x := heap_alloc_new w _
end

set_option maxRecDepth 100000 in
set_option maxHeartbeats 1000000 in
theorem catch_fault (N : Nat) (x0 x1 x2 : Value) (a c : Int) (w : World) (h0 : B1 w N 22 x0) (h1 : B1 w (N + 1) 3 x1) (h2 : B1 w (N + 2) 23 x2) :
    CallsD Try.prog 15 #[.pointer (some ⟨N, 0, none⟩), .pointer (some ⟨N + 1, 0, none⟩), .pointer (some ⟨N + 2, 0, none⟩)] (.panicking [{ v := .iface 40 (.agg #[.int .i64 a, .int .i64 c]), recovered := false }]) w fun e u' w' =>
      e = .returned (.tuple #[]) ∧ u' = .panicking [{ v := .iface 40 (.agg #[.int .i64 a, .int .i64 c]), recovered := true }] ∧
        B1 w' N 22 (.slice none 0 0) ∧ B1 w' (N + 1) 3 (.int .i64 a) ∧ B1 w' (N + 2) 23 (.int .i64 c) ∧ Below N w w' := by
  have H0 := Lib.hid h0
  have H1 := Lib.hid h1
  have H2 := Lib.hid h2
  have hlt := h2.lt
  clear h0 h1 h2
  refine callsD_of_wpS Try.func15 rfl fun c₀ cs hu => ?_
  rw [show ((#[.pointer (some ⟨N, 0, none⟩), .pointer (some ⟨N + 1, 0, none⟩), .pointer (some ⟨N + 2, 0, none⟩)] : Array Value) ++ Array.replicate (Try.f15.ntmps - (#[.pointer (some ⟨N, 0, none⟩), .pointer (some ⟨N + 1, 0, none⟩), .pointer (some ⟨N + 2, 0, none⟩)] : Array Value).size) undef) = #[.pointer (some ⟨N, 0, none⟩), .pointer (some ⟨N + 1, 0, none⟩), .pointer (some ⟨N + 2, 0, none⟩), undef, undef, undef, undef, undef, undef, undef, undef, undef, undef, undef, undef, undef] from rfl]
  apply wpS_seq
  apply wpS_region
  simp [wpOpsS, go_sem, recoverD, hu, Exit.thenS]
  have hq : ∀ w, (binOp .eql 20 (.iface 40 (.agg #[.int .i64 a, .int .i64 c])) .nilIface).run Try.prog w = .ok (.bool false) w := fun _ => rfl
  have hta : ∀ w, (Instr.typeAssert (.iface 40 (.agg #[.int .i64 a, .int .i64 c])) 20 40 true).run Try.prog w = .ok (.tuple #[.agg #[.int .i64 a, .int .i64 c], .bool true]) w := fun _ => by kernel_rfl
  have HU := Lib.hid hu
  clear hu
  refine wpS_of_wp ?_
  go_wp2_with fail
  obtain ⟨wq, hwq⟩ : ∃ wq, wq = (w.alloc (.cells #[.int .i64 a, .int .i64 c] 40)) := ⟨_, rfl⟩
  rw [← hwq]
  have Q0 := Lib.hid (hwq ▸ (H0.out.alloc _))
  have Q1 := Lib.hid (hwq ▸ (H1.out.alloc _))
  have Q2 := Lib.hid (hwq ▸ (H2.out.alloc _))
  have QB : Hid (Below N w wq) := hwq ▸ ((Below.refl N w).alloc (by omega) _)
  have g0 : wq.cell? ⟨w.heap.size, 0, none⟩ = some (.int .i64 a) := by rw [hwq]; simp [go_sem]
  have g1 : wq.cell? ⟨w.heap.size, 1, none⟩ = some (.int .i64 c) := by rw [hwq]; simp [go_sem]
  clear hwq hq hta
  have a0 := Q0.out.c
  have a1 := Q1.out.c
  have a2 := Q2.out.c
  have z0 := Q0.out.fz
  have z1 := Q1.out.fz
  have z2 := Q2.out.fz
  have n0 : ¬ w.heap.size = N := by omega
  have n1 : ¬ w.heap.size = N + 1 := by omega
  have n2 : ¬ w.heap.size = N + 2 := by omega
  go_region
  have e01 : N ≠ N + 1 := by omega
  have e02 : N ≠ N + 2 := by omega
  have e12 : N + 1 ≠ N + 2 := by omega
  refine ⟨rfl, _, rfl, _, results_none rfl _ _ _, rfl, rfl, ?_, ?_, ?_, ?_⟩
  · exact (((Q0.out.s _).far (p := ⟨N + 1, 0, none⟩) e01 _).far (p := ⟨N + 2, 0, none⟩) e02 _).drew
  · exact (((Q1.out.far (p := ⟨N, 0, none⟩) e01.symm _).s _).far (p := ⟨N + 2, 0, none⟩) e12 _).drew
  · exact (((Q2.out.far (p := ⟨N, 0, none⟩) e02.symm _).far (p := ⟨N + 1, 0, none⟩) e12.symm _).s _).drew
  · exact (((QB.out.setCell (p := ⟨N, 0, none⟩) (Nat.le_refl _) _).setCell (p := ⟨N + 1, 0, none⟩) (by simp) _).setCell (p := ⟨N + 2, 0, none⟩) (by simp) _).drew

theorem own_slice {w : World} {B : Nat} {e : TypeId} {size n : Nat} {v : Value} {xs : List Value} (h : w.ownsRow B e size v n xs) : ∃ ao c, v = .slice ao n c := by
  rcases h.2 with ⟨rfl, rfl⟩ | ⟨g, cap, cur, rfl, _⟩ <;> exact ⟨_, _, rfl⟩
theorem own_mono {w : World} {B B' : Nat} {e : TypeId} {size n : Nat} {v : Value} {xs : List Value} (h : w.ownsRow B e size v n xs) (hB : B' ≤ B) : w.ownsRow B' e size v n xs := by
  refine ⟨h.1, ?_⟩
  rcases h.2 with h2 | ⟨g, cap, cur, hv, hg, hh⟩
  · exact .inl h2
  · exact .inr ⟨g, cap, cur, hv, by omega, hh⟩
theorem own_far {w : World} {B : Nat} {e : TypeId} {size n : Nat} {v : Value} {xs : List Value} (h : w.ownsRow B e size v n xs) {p : Addr} (hp : p.block < B) (u : Value) : (w.setCell p u).ownsRow B e size v n xs := ownsRow_setCell_below h hp u

def FacePost (w : World) (x : Except (Int × Int) (List Tk)) (e : Ending) (w' : World) : Prop := match x with
  | .error (a, c) => e = .returned (.tuple #[.slice none 0 0, .int .i64 a, .int .i64 c]) ∧ Below w.heap.size w w'
  | .ok l => ∃ v, e = .returned (.tuple #[v, .int .i64 0, .int .i64 0]) ∧ w'.ownsRow w.heap.size 35 4 v l.length (cellsOf l) ∧ Below w.heap.size w w'
theorem fp_err {w w' : World} {x : Except (Int × Int) (List Tk)} {a c : Int} {e : Ending} (h : x = .error (a, c)) (he : e = .returned (.tuple #[.slice none 0 0, .int .i64 a, .int .i64 c])) (hb : Below w.heap.size w w') : FacePost w x e w' := by subst h; exact ⟨he, hb⟩
theorem fp_ok {w w' : World} {x : Except (Int × Int) (List Tk)} {l : List Tk} {v : Value} {e : Ending} (h : x = .ok l) (he : e = .returned (.tuple #[v, .int .i64 0, .int .i64 0])) (ho : w'.ownsRow w.heap.size 35 4 v l.length (cellsOf l)) (hb : Below w.heap.size w w') : FacePost w x e w' := by subst h; exact ⟨v, he, ho, hb⟩
theorem face_res {wf : World} {N : Nat} {v0 v1 v2 : Value} (h0 : B1 wf N 22 v0) (h1 : B1 wf (N + 1) 3 v1) (h2 : B1 wf (N + 2) 23 v2) (tmps : Array Value) (t0 : tmps[2]?.getD undef = .pointer (some ⟨N, 0, none⟩)) (t1 : tmps[3]?.getD undef = .pointer (some ⟨N + 1, 0, none⟩)) (t2 : tmps[4]?.getD undef = .pointer (some ⟨N + 2, 0, none⟩)) :
    (results Try.f8 tmps).run Try.prog wf = .ok (.tuple #[v0, v1, v2]) wf := by
  have e0 := h0.c
  have e1 := h1.c
  have e2 := h2.c
  simp [results, Try.results8, go_sem, t0, t1, t2, e0, e1, e2]

theorem three (w : World) (x0 x1 x2 : Value) :
    B1 (((w.alloc (.cells #[x0] 22)).alloc (.cells #[x1] 3)).alloc (.cells #[x2] 23)) w.heap.size 22 x0 ∧
    B1 (((w.alloc (.cells #[x0] 22)).alloc (.cells #[x1] 3)).alloc (.cells #[x2] 23)) (w.heap.size + 1) 3 x1 ∧
    B1 (((w.alloc (.cells #[x0] 22)).alloc (.cells #[x1] 3)).alloc (.cells #[x2] 23)) (w.heap.size + 2) 23 x2 ∧
    Below w.heap.size w (((w.alloc (.cells #[x0] 22)).alloc (.cells #[x1] 3)).alloc (.cells #[x2] 23)) := by
  refine ⟨((B1.new w _ x0).alloc _).alloc _, ?_, ?_, (((Below.refl _ w).alloc (Nat.le_refl _) _).alloc (by simp) _).alloc (by simp; omega) _⟩
  · have := (B1.new (w.alloc (.cells #[x0] 22)) 3 x1).alloc (.cells #[x2] 23)
    simpa using this
  · have := B1.new ((w.alloc (.cells #[x0] 22)).alloc (.cells #[x1] 3)) 23 x2
    simpa using this

set_option maxRecDepth 100000 in
set_option maxHeartbeats 4000000 in
theorem tokens_long (s : ByteArray) (hs : s.size ≤ 100000) (hl : 4096 < s.size) (w : World) :
    Calls Try.prog 8 #[.string s] w (FacePost w (lexL s.data.toList)) := by
  have E : Hid (lexL s.data.toList = .error (0, 3)) := by show _ = _; unfold lexL; rw [list_size', if_pos hl]
  generalize lexL s.data.toList = G at *
  go_enter_defers Try.func8, Try.ntmps8
  go_wp2_with fail
  obtain ⟨t0, t1, t2, tb⟩ := three w (.slice none 0 0) (.int .i64 0) (.int .i64 3)
  exact ⟨_, face_res t0 t1 t2 _ rfl rfl rfl, fp_err E.out rfl tb⟩

set_option maxRecDepth 100000 in
set_option maxHeartbeats 4000000 in
theorem tokens_form (s : ByteArray) (hs : s.size ≤ 4096) (k : Nat) (hk : chk s.data.toList 0 = some k) (w : World) :
    Calls Try.prog 8 #[.string s] w (FacePost w (lexL s.data.toList)) := by
  have E : Hid (lexL s.data.toList = .error ((k : Int), 4)) := by show _ = _; unfold lexL; rw [list_size', if_neg (by omega), hk]
  have C := Lib.hid (fun w => check_any s (by omega) w)
  rw [show chkA s.data.toList = (k : Int) by unfold chkA; rw [hk], show chkE s.data.toList = 4 by unfold chkE; rw [hk]] at C
  generalize lexL s.data.toList = G at *
  clear hk
  have hlt : ¬ (4096 : Int) < (s.size : Int) := by omega
  go_enter_defers Try.func8, Try.ntmps8
  go_wp2_with fail
  refine (C.out _).mono ?_; rintro e w' ⟨rfl, rfl⟩
  go_wp2_with fail
  obtain ⟨t0, t1, t2, tb⟩ := three w (.slice none 0 0) (.int .i64 (k : Int)) (.int .i64 4)
  exact ⟨_, face_res t0 t1 t2 _ rfl rfl rfl, fp_err E.out rfl tb⟩

set_option maxRecDepth 100000 in
set_option maxHeartbeats 4000000 in
theorem tokens_good (s : ByteArray) (hs : s.size ≤ 4096) (hk : chk s.data.toList 0 = none) (w : World) (hm : ∃ m, w.cell? ⟨1, 0, none⟩ = some (.int .i64 m)) (hG : 1 < w.heap.size) :
    Calls Try.prog 8 #[.string s] w (FacePost w (lexL s.data.toList)) := by
  have E : Hid (lexL s.data.toList = lexA s.data.toList 0 0) := by show _ = _; unfold lexL; rw [list_size', if_neg (by omega), hk]
  have C := Lib.hid (fun w => check_any s (by omega) w)
  rw [show chkA s.data.toList = 0 by unfold chkA; rw [hk], show chkE s.data.toList = 0 by unfold chkE; rw [hk]] at C
  generalize lexL s.data.toList = G at *
  clear hk
  have hlt : ¬ (4096 : Int) < (s.size : Int) := by omega
  have hmf : ∀ (fn : Fn) (first cap : Array Value) (w : World), (Instr.makeFunc fn first cap).run Try.prog w = .ok (.func fn first cap) w := fun _ _ _ _ => rfl
  go_enter_defers Try.func8, Try.ntmps8
  go_wp2_with fail
  refine (C.out _).mono ?_; rintro e w' ⟨rfl, rfl⟩
  go_wp2_with fail
  obtain ⟨t0, t1, t2, tb⟩ := three w (.slice none 0 0) (.int .i64 0) (.int .i64 0)
  have hz : (((w.alloc (.cells #[.slice none 0 0] 22)).alloc (.cells #[.int .i64 0] 3)).alloc (.cells #[.int .i64 0] 23)).heap.size = w.heap.size + 1 + 1 + 1 := by simp
  generalize ((w.alloc (.cells #[.slice none 0 0] 22)).alloc (.cells #[.int .i64 0] 3)).alloc (.cells #[.int .i64 0] 23) = w3 at *
  have HRd : Hid (Rd (w3.alloc (.cells #[.string s, .int .i64 0, .int .i64 0, .int .i64 0] 42)) (w.heap.size + 1 + 1 + 1) s 0 (0 : Nat) 0) := by
    show Rd _ _ _ _ _ _
    rw [← hz]; exact heap_alloc_new w3 _
  have hb4 : Below w.heap.size w (w3.alloc (.cells #[.string s, .int .i64 0, .int .i64 0, .int .i64 0] 42)) := tb.alloc (by rw [hz]; omega) _
  have HML : Hid (ML (w.heap.size + 1 + 1 + 1) (w3.alloc (.cells #[.string s, .int .i64 0, .int .i64 0, .int .i64 0] 42))) := by
    obtain ⟨m, hm⟩ := hm
    exact ⟨by omega, m, (hb4.cell (p := ⟨1, 0, none⟩) hG).trans hm⟩
  have s0 := t0.alloc (.cells #[.string s, .int .i64 0, .int .i64 0, .int .i64 0] 42)
  have s1 := t1.alloc (.cells #[.string s, .int .i64 0, .int .i64 0, .int .i64 0] 42)
  have s2 := t2.alloc (.cells #[.string s, .int .i64 0, .int .i64 0, .int .i64 0] 42)
  have hz4 : w.heap.size ≤ (w3.alloc (.cells #[.string s, .int .i64 0, .int .i64 0, .int .i64 0] 42)).heap.size := by simp; omega
  have T := tokens_any (w.heap.size + 1 + 1 + 1) s (by omega) 0 0 (by decide) (by decide) 0 (Nat.zero_le _) _ HRd.out HML.out
  rw [List.drop_zero] at T
  have HT := Lib.hid T
  have S0 := Lib.hid s0
  have S1 := Lib.hid s1
  have S2 := Lib.hid s2
  have HB4 := Lib.hid hb4
  have HZ4 := Lib.hid hz4
  clear T t0 t1 t2 tb hm hz s0 s1 s2 hb4 hz4
  generalize w3.alloc (.cells #[.string s, .int .i64 0, .int .i64 0, .int .i64 0] 42) = w4 at *
  rw [show ((0 : Nat) : Int) = 0 from rfl] at HT
  generalize lexA s.data.toList 0 0 = X at *
  refine HT.out.mono ?_; rintro e w5 hp
  rcases X with ⟨a, c⟩ | l
  · obtain ⟨rfl, hO⟩ := hp
    have p0 := S0.out.off hO (by omega)
    have p1 := S1.out.off hO (by omega)
    have p2 := S2.out.off hO (by omega)
    have P0 := Lib.hid p0
    have P1 := Lib.hid p1
    have P2 := Lib.hid p2
    have HO := Lib.hid hO
    clear p0 p1 p2 hO
    unfold flt
    go_wp2_with fail
    refine leaves_cons (f := 15) (args := #[.pointer (some ⟨w.heap.size, 0, none⟩), .pointer (some ⟨w.heap.size + 1, 0, none⟩), .pointer (some ⟨w.heap.size + 2, 0, none⟩)]) (by simp) (by simp [go_sem]) ?_
    refine (catch_fault w.heap.size _ _ _ a c _ P0.out P1.out P2.out).mono ?_
    rintro e u' w'' ⟨rfl, rfl, q0, q1, q2, qb⟩
    exact ⟨_, face_res q0 q1 q2 _ rfl rfl rfl, fp_err E.out rfl ((HB4.out.trans (HO.out.toBelow (by omega) HZ4.out)).trans qb)⟩
  · obtain ⟨v, rfl, hw, hO⟩ := hp
    obtain ⟨ao, cp, rfl⟩ := own_slice hw
    have p0 := S0.out.off hO (by omega)
    have p1 := S1.out.off hO (by omega)
    have p2 := S2.out.off hO (by omega)
    have P0 := Lib.hid p0
    have P1 := Lib.hid p1
    have P2 := Lib.hid p2
    have HO := Lib.hid hO
    have HW := Lib.hid hw
    have a0 := p0.c
    have a1 := p1.c
    have a2 := p2.c
    have z0 := p0.fz
    have z1 := p1.fz
    have z2 := p2.fz
    clear p0 p1 p2 hO hw
    have a2' : w5.cell? ⟨w.heap.size + 1 + 1, 0, none⟩ = _ := a2
    have z2' : w5.frozen? ⟨w.heap.size + 1 + 1, 0, none⟩ = _ := z2
    go_wp2_with fail
    have hrl := HRd.out.lt
    have e01 : w.heap.size ≠ w.heap.size + 1 := by omega
    have e02 : w.heap.size ≠ w.heap.size + 2 := by omega
    have e12 : w.heap.size + 1 ≠ w.heap.size + 2 := by omega
    refine leaves_cons (f := 15) (args := #[.pointer (some ⟨w.heap.size, 0, none⟩), .pointer (some ⟨w.heap.size + 1, 0, none⟩), .pointer (some ⟨w.heap.size + 2, 0, none⟩)]) (by simp) (by simp [go_sem]) ?_
    refine (catch_idle _ _ _ _).mono ?_
    rintro e u' w'' ⟨rfl, rfl, rfl⟩
    exact ⟨_, face_res (((P0.out.s _).far (p := ⟨w.heap.size + 1, 0, none⟩) e01 _).far (p := ⟨w.heap.size + 2, 0, none⟩) e02 _) (((P1.out.far (p := ⟨w.heap.size, 0, none⟩) e01.symm _).s _).far (p := ⟨w.heap.size + 2, 0, none⟩) e12 _) (((P2.out.far (p := ⟨w.heap.size, 0, none⟩) e02.symm _).far (p := ⟨w.heap.size + 1, 0, none⟩) e12.symm _).s _) _ rfl rfl rfl,
      fp_ok E.out rfl (own_mono (own_far (own_far (own_far HW.out (p := ⟨w.heap.size, 0, none⟩) (by simp; omega) _) (p := ⟨w.heap.size + 1, 0, none⟩) (by simp; omega) _) (p := ⟨w.heap.size + 2, 0, none⟩) (by simp; omega) _) HZ4.out)
        ((((HB4.out.trans (HO.out.toBelow (by omega) HZ4.out)).setCell (p := ⟨w.heap.size, 0, none⟩) (Nat.le_refl _) _).setCell (p := ⟨w.heap.size + 1, 0, none⟩) (by simp) _).setCell (p := ⟨w.heap.size + 2, 0, none⟩) (by simp) _)⟩

/-- MaxLen, in whatever world a statement begins. -/
def MLw (w : World) : Prop := (∃ m, w.cell? ⟨1, 0, none⟩ = some (.int .i64 m)) ∧ 1 < w.heap.size
theorem MLw.below {w w' : World} (h : MLw w) (hb : Below w.heap.size w w') : MLw w' := by
  obtain ⟨⟨m, hm⟩, hl⟩ := h
  exact ⟨⟨m, (hb.cell (p := ⟨1, 0, none⟩) hl).trans hm⟩, Nat.lt_of_lt_of_le hl hb.size⟩
theorem Tokens_any (s : ByteArray) (hs : s.size ≤ 100000) (w : World) (hm : MLw w) : Calls Try.prog 8 #[.string s] w (FacePost w (lexL s.data.toList)) := by
  by_cases hl : 4096 < s.size
  · exact tokens_long s hs hl w
  · cases hk : chk s.data.toList 0 with
    | none => exact tokens_good s (by omega) hk w hm.1 hm.2
    | some k => exact tokens_form s (by omega) k hk w
end Go.Proofs.Ytcpjggcpimghjaa
