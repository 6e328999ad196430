/- Part of a proof that the program keeps SynDeep: contracts of its functions and of the document's. -/
import Derived.Test.YtnkfodelgpidkaaGreatDoorW7
import Derived.Deep.Quiet
set_option maxRecDepth 100000
set_option maxHeartbeats 4000000
set_option linter.unusedVariables false
set_option linter.unusedSimpArgs false
namespace Go.Proofs.YtnkfodelgpidkaaGreatDoor
open Go.RowKit
structure Cr where
 b : Nat
 g : Nat
 cap : Nat
 ao : Option Addr
 o : Obj
 ts : List Tk
 E : Int
structure Ss where
 i : Nat
 bad : Int
def Cr.p (c : Cr) : Value := .pointer (some ⟨c.b, 0, none⟩)
def Cr.R (c : Cr) (k : Nat) : List Tk := c.ts.drop k
def Cr.T (c : Cr) (k : Nat) : Tk := hd c.E (c.ts.drop k)
structure Cr.ok (c : Cr) : Prop where
 ne : c.b ≠ c.g
 few : c.ts.length ≤ 5000
 form : 0 < c.ts.length → c.ao = some ⟨c.g, 0, none⟩
 cells : ∀ w : World, w.heap[c.g]? = some c.o → ∀ k, k < c.ts.length → w.cell? ⟨c.g, k * 4, none⟩ = some (.int .i64 (c.T k).kind) ∧ w.cell? ⟨c.g, k * 4 + 1, none⟩ = some (.int .i64 (c.T k).pos) ∧ w.cell? ⟨c.g, k * 4 + 2, none⟩ = some (.string (bs (c.T k).text)) ∧ w.cell? ⟨c.g, k * 4 + 3, none⟩ = some (.int .u64 (c.T k).bits)
 bits : ∀ t ∈ c.ts, 0 ≤ t.bits ∧ t.bits < 18446744073709551616
 pos : ∀ t ∈ c.ts, 0 ≤ t.pos ∧ t.pos ≤ 1000000
 fin : 0 ≤ c.E ∧ c.E ≤ 1000000
structure Sd (c : Cr) (w : World) (s : Ss) : Prop where
 rd : w.heap[c.b]? = some (.cells #[.slice c.ao c.ts.length c.cap, .int .i64 (s.i : Int), .int .i64 c.E, .int .i64 s.bad] 65 (0, 0))
 row : c.ts.length = 0 ∨ w.heap[c.g]? = some c.o
 le : s.i ≤ c.ts.length
 ok : c.ok
section
variable {c : Cr} {w w' : World} {s : Ss}
theorem Sd.lt (h : Sd c w s) : c.b < w.heap.size := lt_of_get h.rd
theorem Sd.c0 (h : Sd c w s) : w.cell? ⟨c.b, 0, none⟩ = some (.slice c.ao c.ts.length c.cap) := by have := h.rd; simp [World.cell?, this]
theorem Sd.c1 (h : Sd c w s) : w.cell? ⟨c.b, 1, none⟩ = some (.int .i64 (s.i : Int)) := by have := h.rd; simp [World.cell?, this]
theorem Sd.c2 (h : Sd c w s) : w.cell? ⟨c.b, 2, none⟩ = some (.int .i64 c.E) := by have := h.rd; simp [World.cell?, this]
theorem Sd.c3 (h : Sd c w s) : w.cell? ⟨c.b, 3, none⟩ = some (.int .i64 s.bad) := by have := h.rd; simp [World.cell?, this]
theorem Sd.fz (h : Sd c w s) (i : Nat) : w.frozen? ⟨c.b, i, none⟩ = false := by have := h.rd; simp [World.frozen?, this]
theorem Sd.at (h : Sd c w s) (k : Nat) (hk : k < c.ts.length) : w.cell? ⟨c.g, k * 4, none⟩ = some (.int .i64 (c.T k).kind) ∧ w.cell? ⟨c.g, k * 4 + 1, none⟩ = some (.int .i64 (c.T k).pos) ∧ w.cell? ⟨c.g, k * 4 + 2, none⟩ = some (.string (bs (c.T k).text)) ∧ w.cell? ⟨c.g, k * 4 + 3, none⟩ = some (.int .u64 (c.T k).bits) := by
 rcases h.row with h1 | h1
 ·omega
 ·exact h.ok.cells w h1 k hk
theorem Sd.below (h : Sd c w s) (hb : Below w.heap.size w w') : Sd c w' s := ⟨(hb.block _ h.lt).trans h.rd, h.row.imp id fun h1 => (hb.block _ (lt_of_get h1)).trans h1, h.le, h.ok⟩
theorem Sd.setI (h : Sd c w s) {j : Nat} (hj : j ≤ c.ts.length) : Sd c (w.setCell ⟨c.b, 1, none⟩ (.int .i64 (j : Int))) ⟨j, s.bad⟩ := by
 refine ⟨?_, h.row.imp id fun h1 => (Below.heap_setCell w _ _ c.g (fun e => h.ok.ne e.symm)).trans h1, hj, h.ok⟩
 have := h.rd
 simp [World.setCell, Array.getElem?_modify, this]
theorem Sd.setB (h : Sd c w s) (x : Int) : Sd c (w.setCell ⟨c.b, 3, none⟩ (.int .i64 x)) ⟨s.i, x⟩ := by
 refine ⟨?_, h.row.imp id fun h1 => (Below.heap_setCell w _ _ c.g (fun e => h.ok.ne e.symm)).trans h1, h.le, h.ok⟩
 have := h.rd
 simp [World.setCell, Array.getElem?_modify, this]
end
theorem Cr.T_end (c : Cr) {k : Nat} (h : c.ts.length ≤ k) : c.T k = ⟨0, c.E, [], 0⟩ := by unfold Cr.T hd; rw [List.drop_eq_nil_of_le h]; rfl
theorem Cr.T_at (c : Cr) {k : Nat} (h : k < c.ts.length) : c.T k = c.ts[k] := by unfold Cr.T hd; rw [List.drop_eq_getElem_cons h]; rfl
theorem Cr.T_pos {c : Cr} (hc : c.ok) (k : Nat) : 0 ≤ (c.T k).pos ∧ (c.T k).pos ≤ 1000000 := by
 rcases Nat.lt_or_ge k c.ts.length with h | h
 ·rw [c.T_at h]; exact hc.pos _ (List.getElem_mem h)
 ·rw [c.T_end h]; exact hc.fin
def isS (c : Cr) (s : Ss) (q : List UInt8) : Bool := fx (c.T s.i) == q
def stopS (c : Cr) (s : Ss) : Ss := ⟨c.ts.length, if s.bad < 0 then (c.T s.i).pos else s.bad⟩
def St2 (c : Cr) (w : World) (s' : Ss) (w' : World) : Prop := Sd c w' s' ∧ Off c.b w w'
theorem isS_in {c : Cr} {s : Ss} {q : List UInt8} (hq : q ≠ []) (h : isS c s q = true) : s.i < c.ts.length := by
 rcases Nat.lt_or_ge s.i c.ts.length with h1 | h1
 ·exact h1
 ·unfold isS at h; rw [c.T_end h1] at h
  exact absurd (by simpa [fx] using h) (fun e : [] = q => hq e.symm)
theorem dis_any (c : Cr) (s : Ss) (q : ByteArray) (hq : q.data.toList ≠ []) (w : World) (h : Sd c w s) :
  Calls Tryz.prog 97 #[.pointer (some ⟨c.b, 0, none⟩), .string q] w fun e w' => e = .returned (.bool (isS c s q.data.toList)) ∧ Below w.heap.size w w' := by
 have c0 := h.c0
 have c1 := h.c1
 have HI : Hid (isS c s q.data.toList = (fx (c.T s.i) == q.data.toList)) := rfl
 rcases Nat.lt_or_ge s.i c.ts.length with hi | hi
 ·obtain ⟨d0, d1, d2, d3⟩ := h.at s.i hi
  rw [h.ok.form (by omega)] at c0
  have hie : (s.i : Int) < (c.ts.length : Int) := by omega
  generalize isS c s q.data.toList = G at *
  generalize c.T s.i = t at *
  obtain ⟨tk, tp, tx, tb⟩ := t
  simp only at d0 d1 d2 d3
  have HK : tk = 2 ∨ tk = 5 ∨ ((tk == 2) = false ∧ (tk == 5) = false) := by simp only [beq_eq_false_iff_ne]; omega
  have HQ := Lib.hid hq
  clear h hq
  rcases HK with rfl | rfl | ⟨k2, k5⟩
  ·have hx : ((bs tx).toList == q.toList) = G := by rw [HI.out, str_eq]; rfl
   go_enter Tryz.func97, Tryz.ntmps97
   go_wp2_with fail
   go_quiet (fail)
   go_wp2_with fail
   go_ret
   exact ⟨rfl, below_drewN (Below.refl _ _) _⟩
  ·have hx : ((bs tx).toList == q.toList) = G := by rw [HI.out, str_eq]; rfl
   go_enter Tryz.func97, Tryz.ntmps97
   go_wp2_with fail
   go_quiet (fail)
   go_wp2_with fail
   go_ret
   exact ⟨rfl, below_drewN (Below.refl _ _) _⟩
  ·have hx : G = false := by
    rw [HI.out]
    simp only [beq_eq_false_iff_ne] at k2 k5
    unfold fx; rw [if_neg (by simp only; omega)]
    exact beq_eq_false_iff_ne.2 (fun e => HQ.out e.symm)
   subst hx
   go_enter Tryz.func97, Tryz.ntmps97
   go_wp2_with fail
   go_quiet (fail)
   go_wp2_with fail
   go_ret
   exact ⟨rfl, below_drewN (Below.refl _ _) _⟩
 ·have hx : isS c s q.data.toList = false := by
   rw [HI.out, c.T_end hi]
   exact beq_eq_false_iff_ne.2 (fun e => hq (by simpa [fx] using e.symm))
  rw [hx]
  have hie : ¬ (s.i : Int) < (c.ts.length : Int) := by omega
  have hin : ¬ s.i < c.ts.length := by omega
  clear h hq hx HI
  go_enter Tryz.func97, Tryz.ntmps97
  go_wp2_with fail
  go_quiet (fail)
  go_wp2_with fail
  go_ret
  exact ⟨rfl, below_drewN (Below.refl _ _) _⟩
theorem deat_yes (c : Cr) (s : Ss) (q : ByteArray) (hq : q.data.toList ≠ []) (w : World) (h : Sd c w s) (hy : isS c s q.data.toList = true) :
  Calls Tryz.prog 51 #[.pointer (some ⟨c.b, 0, none⟩), .string q] w fun e w' => e = .returned (.bool true) ∧ St2 c w ⟨s.i + 1, s.bad⟩ w' := by
 have T := Lib.hid (dis_any c s q hq w h)
 have hk := isS_in hq hy
 have hf := h.ok.few
 rw [hy] at T
 have H := Lib.hid h
 clear h hy hq
 go_enter Tryz.func51, Tryz.ntmps51
 go_wp2_with fail
 refine T.out.mono ?_; rintro e w1 ⟨rfl, hB1⟩
 have H1 := Lib.hid (H.out.below hB1)
 have HO := Lib.hid ((Off.refl c.b w).below hB1)
 have c1 := H1.out.c1
 have f1 := H1.out.fz 1
 clear hB1
 go_wp2_with fail
 go_ret
 exact ⟨rfl, H1.out.setI (j := s.i + 1) (by omega), HO.out.set 1 _⟩
theorem deat_no (c : Cr) (s : Ss) (q : ByteArray) (hq : q.data.toList ≠ []) (w : World) (h : Sd c w s) (hy : isS c s q.data.toList = false) :
  Calls Tryz.prog 51 #[.pointer (some ⟨c.b, 0, none⟩), .string q] w fun e w' => e = .returned (.bool false) ∧ St2 c w s w' := by
 have T := Lib.hid (dis_any c s q hq w h)
 rw [hy] at T
 have H := Lib.hid h
 clear h hy hq
 go_enter Tryz.func51, Tryz.ntmps51
 go_wp2_with fail
 refine T.out.mono ?_; rintro e w1 ⟨rfl, hB1⟩
 have H1 := Lib.hid (H.out.below hB1)
 have HO := Lib.hid ((Off.refl c.b w).below hB1)
 clear hB1
 go_wp2_with fail
 go_ret
 exact ⟨rfl, H1.out, HO.out⟩
end Go.Proofs.YtnkfodelgpidkaaGreatDoor
namespace Go.Proofs.YtnkfodelgpidkaaGreatDoor
open Go.RowKit
theorem dstop_any (c : Cr) (s : Ss) (w : World) (h : Sd c w s) :
  Calls Tryz.prog 102 #[.pointer (some ⟨c.b, 0, none⟩)] w fun e w' => e = .returned (.tuple #[]) ∧ St2 c w (stopS c s) w' := by
 have c0 := h.c0
 have c1 := h.c1
 have c2 := h.c2
 have c3 := h.c3
 have f1 := h.fz 1
 have f3 := h.fz 3
 have H := Lib.hid h
 have hne : ¬ c.g = c.b := fun e => H.out.ok.ne e.symm
 by_cases hb : s.bad < 0
 ·have hS : Hid (stopS c s = ⟨c.ts.length, (c.T s.i).pos⟩) := by show _ = _; unfold stopS; rw [if_pos hb]
  have S1 := H.out.setB c.E
  have O1 := (Off.refl c.b w).set 3 (.int .i64 c.E)
  clear h
  go_enter Tryz.func102, Tryz.ntmps102
  go_wp2_with fail
  generalize w.setCell ⟨c.b, 3, none⟩ (.int .i64 c.E) = w1 at *
  have a0 := S1.c0
  have a1 := S1.c1
  have z1 := S1.fz 1
  have HS1 := Lib.hid S1
  have HO1 := Lib.hid O1
  rcases Nat.lt_or_ge s.i c.ts.length with hi | hi
  ·have hie : (s.i : Int) < (c.ts.length : Int) := by omega
   obtain ⟨e0, e1, e2, e3⟩ := S1.at s.i hi
   rw [H.out.ok.form (by omega)] at a0
   clear S1 O1
   go_quiet (fail)
   go_wp2_with fail
   have S2 := HS1.out.below (below_drewN (Below.refl _ _) nq)
   have O2 := HO1.out.below (below_drewN (Below.refl w1.heap.size w1) nq)
   generalize w1.drewN nq = w2 at *
   have b0 := S2.c0
   have b1 := S2.c1
   have b3 := S2.c3
   have z3 := S2.fz 3
   rw [H.out.ok.form (by omega)] at b0
   obtain ⟨q0, q1, q2, q3⟩ := S2.at s.i hi
   have S3 := (S2.setB (c.T s.i).pos).below (Below.refl _ _).drew
   have O3 := (O2.set 3 (.int .i64 (c.T s.i).pos)).below (Below.refl _ _).drew
   clear S2 O2
   go_region
   generalize (w2.setCell ⟨c.b, 3, none⟩ (.int .i64 (c.T s.i).pos)).drew = w3 at *
   have x0 := S3.c0
   have x1 := S3.fz 1
   have x2 := S3.c1
   rw [H.out.ok.form (by omega)] at x0
   have HS3 := Lib.hid S3
   have HO3 := Lib.hid O3
   clear S3 O3
   go_wp2_with fail
   go_end0
   rw [hS.out]
   exact ⟨rfl, HS3.out.setI (Nat.le_refl _), HO3.out.set 1 _⟩
  ·have hie : ¬ (s.i : Int) < (c.ts.length : Int) := by omega
   have hin : ¬ s.i < c.ts.length := by omega
   have hE : Hid ((c.T s.i).pos = c.E) := by show _ = _; rw [c.T_end hi]
   clear S1 O1
   go_quiet (fail)
   go_wp2_with fail
   go_end0
   rw [hS.out, hE.out]
   exact ⟨rfl, (HS1.out.below (below_drewN (Below.refl _ _) nq)).setI (Nat.le_refl _), (HO1.out.below (below_drewN (Below.refl w1.heap.size w1) nq)).set 1 _⟩
 ·have hS : Hid (stopS c s = ⟨c.ts.length, s.bad⟩) := by show _ = _; unfold stopS; rw [if_neg hb]
  have S3 := Lib.hid (h.setI (Nat.le_refl _))
  have O3 := Lib.hid ((Off.refl c.b w).set 1 (.int .i64 (c.ts.length : Int)))
  clear h
  go_enter Tryz.func102, Tryz.ntmps102
  go_wp2_with fail
  go_end0
  rw [hS.out]
  exact ⟨rfl, S3.out, O3.out⟩
end Go.Proofs.YtnkfodelgpidkaaGreatDoor
namespace Go.Proofs.YtnkfodelgpidkaaGreatDoor
open Go.RowKit
def eatS (c : Cr) (s : Ss) (q : List UInt8) : Ss := if isS c s q then ⟨s.i + 1, s.bad⟩ else s
def needS (c : Cr) (s : Ss) (q : List UInt8) : Ss := if isS c s q then ⟨s.i + 1, s.bad⟩ else stopS c s
theorem St2.trans {c : Cr} {w w1 w2 : World} {s s' : Ss} (h : St2 c w s w1) (g : St2 c w1 s' w2) : St2 c w s' w2 := ⟨g.1, h.2.trans g.2⟩
theorem St2.refl {c : Cr} {w : World} {s : Ss} (h : Sd c w s) : St2 c w s w := ⟨h, Off.refl _ _⟩
theorem St2.below {c : Cr} {w w1 w2 : World} {s : Ss} (h : St2 c w s w1) (hb : Below w1.heap.size w1 w2) : St2 c w s w2 := ⟨h.1.below hb, h.2.below hb⟩
theorem dneed_any (c : Cr) (s : Ss) (q : ByteArray) (hq : q.data.toList ≠ []) (w : World) (h : Sd c w s) :
  Calls Tryz.prog 100 #[.pointer (some ⟨c.b, 0, none⟩), .string q] w fun e w' => e = .returned (.tuple #[]) ∧ St2 c w (needS c s q.data.toList) w' := by
 cases hy : isS c s q.data.toList
 ·have T := Lib.hid (deat_no c s q hq w h hy)
  have HN : Hid (needS c s q.data.toList = stopS c s) := by show _ = _; unfold needS; rw [hy]; rfl
  clear h hy hq
  go_enter Tryz.func100, Tryz.ntmps100
  go_wp2_with fail
  refine T.out.mono ?_; rintro e w1 ⟨rfl, hS⟩
  have HS := Lib.hid hS
  clear hS
  go_wp2_with fail
  refine (dstop_any c s _ HS.out.1).mono ?_; rintro e w2 ⟨rfl, hS2⟩
  have HS2 := Lib.hid (HS.out.trans hS2)
  clear hS2
  go_wp2_with fail
  go_end0
  rw [HN.out]; exact ⟨rfl, HS2.out⟩
 ·have T := Lib.hid (deat_yes c s q hq w h hy)
  have HN : Hid (needS c s q.data.toList = ⟨s.i + 1, s.bad⟩) := by show _ = _; unfold needS; rw [hy]; rfl
  clear h hy hq
  go_enter Tryz.func100, Tryz.ntmps100
  go_wp2_with fail
  refine T.out.mono ?_; rintro e w1 ⟨rfl, hS⟩
  have HS := Lib.hid hS
  clear hS
  go_wp2_with fail
  go_end0
  rw [HN.out]; exact ⟨rfl, HS.out⟩
theorem dkind_any (c : Cr) (s : Ss) (w : World) (h : Sd c w s) :
  Calls Tryz.prog 98 #[.pointer (some ⟨c.b, 0, none⟩)] w fun e w' => e = .returned (.int .i64 (c.T s.i).kind) ∧ Below w.heap.size w w' := by
 have c0 := h.c0
 have c1 := h.c1
 rcases Nat.lt_or_ge s.i c.ts.length with hi | hi
 ·obtain ⟨d0, d1, d2, d3⟩ := h.at s.i hi
  rw [h.ok.form (by omega)] at c0
  have hie : (s.i : Int) < (c.ts.length : Int) := by omega
  generalize c.T s.i = t at *
  clear h d1 d2 d3
  go_enter Tryz.func98, Tryz.ntmps98
  go_wp2_with fail
  go_quiet (fail)
  go_wp2_with fail
  go_quiet (fail)
  go_wp2_with fail
  go_ret
  exact ⟨rfl, below_drewN (below_drewN (Below.refl _ _) _) _⟩
 ·have hE : (c.T s.i).kind = 0 := by rw [c.T_end hi]
  rw [hE]
  have hie : ¬ (s.i : Int) < (c.ts.length : Int) := by omega
  have hin : ¬ s.i < c.ts.length := by omega
  clear h hE
  go_enter Tryz.func98, Tryz.ntmps98
  go_wp2_with fail
  go_quiet (fail)
  go_wp2_with fail
  go_ret
  exact ⟨rfl, below_drewN (Below.refl _ _) _⟩
def nameS (c : Cr) (s : Ss) : List UInt8 × Ss := if (c.T s.i).kind = 1 then ((c.T s.i).text, ⟨s.i + 1, s.bad⟩) else ([], stopS c s)
def keyS (c : Cr) (s : Ss) : List UInt8 × Ss := if (c.T s.i).kind = 1 ∨ (c.T s.i).kind = 2 then ((c.T s.i).text, ⟨s.i + 1, s.bad⟩) else ([], stopS c s)
theorem kind_inR {c : Cr} {k : Nat} (h : (c.T k).kind ≠ 0) : k < c.ts.length := by
 rcases Nat.lt_or_ge k c.ts.length with h1 | h1
 ·exact h1
 ·rw [c.T_end h1] at h; exact absurd rfl h
end Go.Proofs.YtnkfodelgpidkaaGreatDoor
namespace Go.Proofs.YtnkfodelgpidkaaGreatDoor
open Go.RowKit
theorem dkey_any (c : Cr) (s : Ss) (w : World) (h : Sd c w s) :
  Calls Tryz.prog 248 #[.pointer (some ⟨c.b, 0, none⟩)] w fun e w' => e = .returned (.string (bs (keyS c s).1)) ∧ St2 c w (keyS c s).2 w' := by
 have T := Lib.hid (dkind_any c s w h)
 have H := Lib.hid h
 have hf := h.ok.few
 by_cases hk : (c.T s.i).kind = 1
 ·have hi := kind_inR (c := c) (k := s.i) (by omega)
  have HN : Hid (keyS c s = ((c.T s.i).text, ⟨s.i + 1, s.bad⟩)) := by show _ = _; unfold keyS; rw [if_pos (.inl hk)]
  rw [hk] at T
  clear h hk
  go_enter Tryz.func248, Tryz.ntmps248
  go_wp2_with fail
  refine T.out.mono ?_; rintro e w1 ⟨rfl, hB1⟩
  have H1 := Lib.hid (H.out.below hB1)
  have HO := Lib.hid ((Off.refl c.b w).below hB1)
  have c1 := H1.out.c1
  have f1 := H1.out.fz 1
  clear hB1
  go_wp2_with fail
  have S2 := Lib.hid (H1.out.setI (j := s.i + 1) (by omega))
  have O2 := Lib.hid (HO.out.set 1 (.int .i64 ((s.i + 1 : Nat) : Int)))
  rw [show ((s.i + 1 : Nat) : Int) = (s.i : Int) + 1 from by omega] at S2 O2
  generalize w1.setCell ⟨c.b, 1, none⟩ (.int .i64 ((s.i : Int) + 1)) = w2 at *
  have a0 := S2.out.c0
  have a1 := S2.out.c1
  rw [H.out.ok.form (by omega)] at a0
  obtain ⟨d0, d1, d2, d3⟩ := S2.out.at s.i hi
  rw [show ((s.i + 1 : Nat) : Int) = (s.i : Int) + 1 from by omega] at a1
  go_quiet (fail)
  go_wp2_with fail
  go_ret
  rw [HN.out]
  exact ⟨rfl, S2.out.below (below_drewN (Below.refl _ _) _), O2.out.below (below_drewN (Below.refl _ _) _)⟩
 by_cases hkk : (c.T s.i).kind = 2
 ·have hi := kind_inR (c := c) (k := s.i) (by omega)
  have HN : Hid (keyS c s = ((c.T s.i).text, ⟨s.i + 1, s.bad⟩)) := by show _ = _; unfold keyS; rw [if_pos (.inr hkk)]
  have T2 := Lib.hid (fun w' (h' : Sd c w' s) => dkind_any c s w' h')
  rw [hkk] at T T2
  clear h hk hkk
  go_enter Tryz.func248, Tryz.ntmps248
  go_wp2_with fail
  refine T.out.mono ?_; rintro e w0 ⟨rfl, hB1⟩
  have H0 := Lib.hid (H.out.below hB1)
  have HO0 := Lib.hid ((Off.refl c.b w).below hB1)
  clear hB1
  go_wp2_with fail
  refine (T2.out _ H0.out).mono ?_; rintro e w1 ⟨rfl, hB1⟩
  have H1 := Lib.hid (H0.out.below hB1)
  have HO := Lib.hid (HO0.out.below hB1)
  have c1 := H1.out.c1
  have f1 := H1.out.fz 1
  clear hB1
  go_wp2_with fail
  have S2 := Lib.hid (H1.out.setI (j := s.i + 1) (by omega))
  have O2 := Lib.hid (HO.out.set 1 (.int .i64 ((s.i + 1 : Nat) : Int)))
  rw [show ((s.i + 1 : Nat) : Int) = (s.i : Int) + 1 from by omega] at S2 O2
  generalize w1.setCell ⟨c.b, 1, none⟩ (.int .i64 ((s.i : Int) + 1)) = w2 at *
  have a0 := S2.out.c0
  have a1 := S2.out.c1
  rw [H.out.ok.form (by omega)] at a0
  obtain ⟨d0, d1, d2, d3⟩ := S2.out.at s.i hi
  rw [show ((s.i + 1 : Nat) : Int) = (s.i : Int) + 1 from by omega] at a1
  go_quiet (fail)
  go_wp2_with fail
  go_ret
  rw [HN.out]
  exact ⟨rfl, S2.out.below (below_drewN (Below.refl _ _) _), O2.out.below (below_drewN (Below.refl _ _) _)⟩
 ·have hk1 : ((c.T s.i).kind != 1) = true := bne_iff_ne.2 hk
  have hk2 : ((c.T s.i).kind != 2) = true := bne_iff_ne.2 hkk
  have HN : Hid (keyS c s = ([], stopS c s)) := by show _ = _; unfold keyS; rw [if_neg (by rintro (h | h); exact hk h; exact hkk h)]
  clear h hk hkk
  go_enter Tryz.func248, Tryz.ntmps248
  go_wp2_with fail
  refine T.out.mono ?_; rintro e w0 ⟨rfl, hB1⟩
  have H0 := Lib.hid (H.out.below hB1)
  have HO0 := Lib.hid ((Off.refl c.b w).below hB1)
  clear hB1
  go_wp2_with fail
  refine (dkind_any c s _ H0.out).mono ?_; rintro e w1 ⟨rfl, hB1⟩
  have H1 := Lib.hid (H0.out.below hB1)
  have HO := Lib.hid (HO0.out.below hB1)
  clear hB1
  go_wp2_with fail
  refine (dstop_any c s _ H1.out).mono ?_; rintro e w2 ⟨rfl, hS⟩
  have HS : Hid (St2 c w (stopS c s) w2) := ⟨hS.1, HO.out.trans hS.2⟩
  clear hS
  go_wp2_with fail
  go_ret
  rw [HN.out]
  exact ⟨rfl, HS.out⟩
end Go.Proofs.YtnkfodelgpidkaaGreatDoor
namespace Go.Proofs.YtnkfodelgpidkaaGreatDoor
open Go.RowKit
theorem dhere_any (c : Cr) (s : Ss) (w : World) (h : Sd c w s) :
  Calls Tryz.prog 203 #[.pointer (some ⟨c.b, 0, none⟩)] w fun e w' => e = .returned (.string (bs (fx (c.T s.i)))) ∧ Below w.heap.size w w' := by
 have T := Lib.hid (fun w' (h' : Sd c w' s) => dkind_any c s w' h')
 have H := Lib.hid h
 by_cases hk : (c.T s.i).kind = 2 ∨ (c.T s.i).kind = 5
 ·have hi := kind_inR (c := c) (k := s.i) (by omega)
  have HN : Hid (fx (c.T s.i) = (c.T s.i).text) := by show _ = _; unfold fx; rw [if_pos hk]
  rcases hk with hk | hk
  ·rw [hk] at T
   clear h hk
   go_enter Tryz.func203, Tryz.ntmps203
   go_wp2_with fail
   refine (T.out _ H.out).mono ?_; rintro e w1 ⟨rfl, hB1⟩
   have H1 := Lib.hid (H.out.below hB1)
   have HB1 := Lib.hid hB1
   have a0 := H1.out.c0
   have a1 := H1.out.c1
   rw [H.out.ok.form (by omega)] at a0
   obtain ⟨d0, d1, d2, d3⟩ := H1.out.at s.i hi
   clear hB1
   go_wp2_with fail
   go_quiet (fail)
   go_wp2_with fail
   go_ret
   rw [HN.out]
   exact ⟨rfl, below_drewN HB1.out _⟩
  ·rw [hk] at T
   clear h hk
   go_enter Tryz.func203, Tryz.ntmps203
   go_wp2_with fail
   refine (T.out _ H.out).mono ?_; rintro e w0 ⟨rfl, hB0⟩
   have H0 := Lib.hid (H.out.below hB0)
   have HB0 := Lib.hid hB0
   clear hB0
   go_wp2_with fail
   refine (T.out _ H0.out).mono ?_; rintro e w1 ⟨rfl, hB1⟩
   have H1 := Lib.hid (H0.out.below hB1)
   have HB1 := Lib.hid (below_trans HB0.out hB1 HB0.out.size)
   have a0 := H1.out.c0
   have a1 := H1.out.c1
   rw [H.out.ok.form (by omega)] at a0
   obtain ⟨d0, d1, d2, d3⟩ := H1.out.at s.i hi
   clear hB1
   go_wp2_with fail
   go_quiet (fail)
   go_wp2_with fail
   go_ret
   rw [HN.out]
   exact ⟨rfl, below_drewN HB1.out _⟩
 ·have HN : Hid (fx (c.T s.i) = []) := by show _ = _; unfold fx; rw [if_neg hk]
  have hk1 : ((c.T s.i).kind == 2) = false := beq_eq_false_iff_ne.2 fun e => hk (.inl e)
  have hk2 : ((c.T s.i).kind == 5) = false := beq_eq_false_iff_ne.2 fun e => hk (.inr e)
  clear h hk
  go_enter Tryz.func203, Tryz.ntmps203
  go_wp2_with fail
  refine (T.out _ H.out).mono ?_; rintro e w0 ⟨rfl, hB0⟩
  have H0 := Lib.hid (H.out.below hB0)
  have HB0 := Lib.hid hB0
  clear hB0
  go_wp2_with fail
  refine (T.out _ H0.out).mono ?_; rintro e w1 ⟨rfl, hB1⟩
  have HB1 := Lib.hid (below_trans HB0.out hB1 HB0.out.size)
  clear hB1
  go_wp2_with fail
  go_ret
  rw [HN.out]
  exact ⟨rfl, HB1.out⟩
theorem ninfo : (Tryz.prog.info? 33).map (fun i => (i.zero, i.size, i.bytes)) = some (some (.agg #[.int .i64 0, .int .i64 0, .int .i64 0, .string ⟨#[]⟩, .int .u64 0]), 5, 48) := by kernel_rfl
def NO (w : World) (B : Nat) (v : Value) (L : List LN) : Prop := w.ownsRow B 33 5 v L.length (cellsL L)
theorem NO.slice {w : World} {B : Nat} {v : Value} {L : List LN} (h : NO w B v L) : ∃ ao cp, v = .slice ao L.length cp := own_slice h
theorem NO.below {w w' : World} {B : Nat} {v : Value} {L : List LN} (h : NO w B v L) (hb : Below w.heap.size w w') : NO w' B v L := own_below h hb
theorem NO.mono {w : World} {B B' : Nat} {v : Value} {L : List LN} (h : NO w B v L) (hb : B' ≤ B) : NO w B' v L := own_mono h hb
theorem NO.nil (w : World) (B : Nat) : NO w B (.slice none 0 0) [] := World.ownsRow_nil _ _ _ _
theorem cellsL_len (L : List LN) : (cellsL L).length = L.length * 5 := by
 induction L with
 | nil => rfl
 | cons l r ih => rw [show cellsL (l :: r) = l.cells ++ cellsL r from rfl, List.length_append, ih, List.length_cons]; show 5 + _ = _; omega
theorem cellsL_one (L : List LN) : ∀ u ∈ cellsL L, u.oneCell' = true := by
 intro u hu
 obtain ⟨t, _, h⟩ := List.mem_flatMap.1 hu
 simp [LN.cells] at h
 rcases h with rfl | rfl | rfl | rfl | rfl <;> rfl
section
variable {P : Program} {ops : Array Oper} {rest : List Oper} {o : Oper} {a : Act} {w : World} {Q : Exit → Act → World → Prop}
theorem wpList_do2 (hw : Region.wanted o (yielded ops a.tmps) = true) (h : ∀ K : Act → World → Prop, (∀ a w, wpList P ops Q rest a w → K a w) → o.wp P a w K Q) : wpList P ops Q (o :: rest) a w :=
 wpList_step fun K hK => by rw [if_pos hw]; exact h K hK
theorem wpList_append_own2 (w : World) (hw : Region.wanted o (yielded ops a.tmps) = true) (s x : Operand) (t : TypeId)
  (ho : o.op = .call { callee := .builtin .append, args := #[s, x], argTypes := #[t, t] })
  (base : Nat) (e : TypeId) (i : TypeInfo) (z : Value) (size bytes : Nat) (ht : P.underlying t = some (.slice e)) (hi : P.info? e = some i) (hz : i.zero = some z)
  (hsize : i.size = size) (hby : i.bytes = bytes) (hzs : z.cells.size = size) (hsz : 0 < size)
  (v : Value) (n : Nat) (xs : List Value) (hs : a.eval s = v) (hown : w.ownsRow base e size v n xs)
  (ad : Addr) (m c : Nat) (news : List Value) (hx : a.eval x = .slice (some ad) m c) (hl : news.length = m * size) (hnews : ∀ j u, news[j]? = some u → w.cell? (ad.add j) = some u) (h1 : ∀ u ∈ news, u.oneCell' = true)
  (h63 : n + m ≤ maxLen) (hbytes : (n + m) * bytes ≤ 140737488355328) (hbase : base ≤ w.heap.size)
  (h : ∀ v' w', w'.ownsRow base e size v' (n + m) (xs ++ news) → w.grownBy w' v.ownBlock → (v' = .slice none 0 0 ↔ v = .slice none 0 0 ∧ m = 0) → wpList P ops Q rest (a.put o.dst v') w') : wpList P ops Q (o :: rest) a w :=
 wpList_do2 hw fun K hK => wp_append_own w s x t ho base e i z size bytes ht hi hz hsize hby hzs hsz v n xs hs hown ad m c news hx hl hnews h1 h63 hbytes hbase fun v' w' h2 h3 h4 => hK _ _ (h v' w' h2 h3 h4)
theorem wpList_append_none2 (w : World) (hw : Region.wanted o (yielded ops a.tmps) = true) (s x : Operand) (t : TypeId)
  (ho : o.op = .call { callee := .builtin .append, args := #[s, x], argTypes := #[t, t] })
  (base : Nat) (e : TypeId) (i : TypeInfo) (size : Nat) (ht : P.underlying t = some (.slice e)) (hi : P.info? e = some i)
  (v : Value) (n : Nat) (xs : List Value) (hs : a.eval s = v) (hown : w.ownsRow base e size v n xs) (hx : a.eval x = .slice none 0 0)
  (h : wpList P ops Q rest (a.put o.dst v) w) : wpList P ops Q (o :: rest) a w :=
 wpList_do2 hw fun K hK => by
  have hrun := run_append_owned_none (P := P) (w := w) base t o.type e i size ht hi v n xs hown
  unfold Oper.wp
  simp [execOp, ho, resolve, invoke, builtin, hs, hx, hrun, Result.andThen]
  exact hK _ _ h
end
theorem dmake_any (k : Int) (x : List UInt8) (n : Nat) (hn : n ≤ 10000000) (v : Value) (L : List LN) (hl : L.length ≤ 10000000) (B : Nat) (w : World) (h : NO w B v L) :
  Calls Tryz.prog 31 #[.int .i64 k, .string (bs x), .int .i64 (n : Int), v] w fun e w' => ∃ v', e = .returned v' ∧ NO w' w.heap.size v' (⟨k, n, L.length + 1, x, 0⟩ :: L) ∧ Below w.heap.size w w' := by
 obtain ⟨i0, hi, hz0, hz1, hz2⟩ := info_parts ninfo
 have HLIT : Hid ((w.alloc (.cells #[.int .i64 k, .int .i64 (n : Int), .int .i64 (1 + (L.length : Int)), .string (bs x), .int .u64 0] 33)).ownsRow w.heap.size 33 5 (.slice (some ⟨w.heap.size, 0, none⟩) 1 1) 1 [.int .i64 k, .int .i64 (n : Int), .int .i64 (1 + (L.length : Int)), .string (bs x), .int .u64 0]) :=
  World.ownsRow_lit w #[.int .i64 k, .int .i64 (n : Int), .int .i64 (1 + (L.length : Int)), .string (bs x), .int .u64 0] 1 (Nat.le_refl _) (by decide) rfl
 have hb1 : Below w.heap.size w (w.alloc (.cells #[.int .i64 k, .int .i64 (n : Int), .int .i64 (1 + (L.length : Int)), .string (bs x), .int .u64 0] 33)) := (Below.refl _ _).alloc (Nat.le_refl _) _
 have hcs : ∀ M : List LN, cellsL (⟨k, n, L.length + 1, x, 0⟩ :: M) = Value.int .i64 k :: .int .i64 (n : Int) :: .int .i64 (1 + (L.length : Int)) :: .string (bs x) :: .int .u64 0 :: cellsL M := fun M => by
  show _ :: _ :: Value.int .i64 ((L.length + 1 : Nat) : Int) :: _ = _
  rw [show ((L.length + 1 : Nat) : Int) = 1 + (L.length : Int) by omega]; rfl
 have HCS := Lib.hid hcs
 clear hcs
 rcases h.2 with ⟨rfl, h0⟩ | ⟨g, cp, cur, rfl, _⟩
 ·have hL : L = [] := List.eq_nil_of_length_eq_zero h0
  subst hL
  go_enter Tryz.func31, Tryz.ntmps31
  go_wp2_with (at_builtin; refine wpList_append_none2 _ rfl _ _ 22 rfl w.heap.size 33 i0 5 Tryz.underlying22 hi _ _ _ rfl HLIT.out rfl ?_)
  go_ret
  exact ⟨_, rfl, by unfold NO; exact HLIT.out, hb1⟩
 ·have hsrc := (h.alloc (.cells #[.int .i64 k, .int .i64 (n : Int), .int .i64 (1 + (L.length : Int)), .string (bs x), .int .u64 0] 33)).cells (g := g) rfl
  have hc5 := cellsL_len L
  have hc1 := cellsL_one L
  have HSRC := Lib.hid hsrc
  have HC5 := Lib.hid hc5
  have HC1 := Lib.hid hc1
  clear hsrc hc5 hc1
  go_enter Tryz.func31, Tryz.ntmps31
  go_wp2_with (at_builtin; refine wpList_append_own _ rfl _ _ 22 rfl w.heap.size 33 i0 _ 5 48 Tryz.underlying22 hi hz0 hz1 hz2 rfl (by decide) _ _ _ rfl HLIT.out ⟨g, 0, none⟩ L.length cp (cellsL L) rfl HC5.out HSRC.out HC1.out ?c3 ?c4 ?c5 ?_)
  case c3 => unfold maxLen; omega
  case c4 => omega
  case c5 => simp
  intro v' w3 hown' hgrow _
  have hbel : Below w.heap.size w w3 := hb1.grown hgrow (by simp) (fun k hk => by have := (HLIT.out.lt k hk).1; exact this)
  rw [← HCS.out L, Nat.add_comm 1 L.length] at hown'
  have HW3 := Lib.hid hown'
  clear hown' hgrow
  go_wp2_with fail
  go_ret
  exact ⟨_, rfl, by unfold NO; exact HW3.out, hbel⟩
theorem wpList_append_NO {ops : Array Oper} {rest : List Oper} {o : Oper} {a : Act} {Q : Exit → Act → World → Prop} (w : World) (hw : Region.wanted o (yielded ops a.tmps) = true) (s x : Operand)
  (ho : o.op = .call { callee := .builtin .append, args := #[s, x], argTypes := #[22, 22] })
  (base : Nat) (v : Value) (M : List LN) (hs : a.eval s = v) (hown : NO w base v M) (B : Nat) (xv : Value) (L : List LN) (hx : a.eval x = xv) (hsrc : NO w B xv L) (hM : M.length ≤ 10000000) (hL : L.length ≤ 10000000) (hbase : base ≤ w.heap.size)
  (h : ∀ v' w', NO w' base v' (M ++ L) → Below base w w' → wpList Tryz.prog ops Q rest (a.put o.dst v') w') : wpList Tryz.prog ops Q (o :: rest) a w := by
 obtain ⟨i0, hi, hz0, hz1, hz2⟩ := info_parts ninfo
 have ht : Tryz.prog.underlying 22 = some (.slice 33) := Tryz.underlying22
 rcases hsrc.2 with ⟨rfl, h0⟩ | ⟨g, cp, cur, rfl, _⟩
 ·have hLn : L = [] := List.eq_nil_of_length_eq_zero h0
  subst hLn
  refine wpList_append_none2 w hw s x 22 ho base 33 i0 5 ht hi v M.length (cellsL M) hs hown hx (h v w ?_ (Below.refl _ _))
  rw [List.append_nil]; exact hown
 ·refine wpList_append_own2 w hw s x 22 ho base 33 i0 _ 5 48 ht hi hz0 hz1 hz2 rfl (by decide) v M.length (cellsL M) hs hown ⟨g, 0, none⟩ L.length cp (cellsL L) hx (cellsL_len L) (hsrc.cells (g := g) rfl) (cellsL_one L) (by unfold maxLen; omega) (by omega) hbase ?_
  intro v' w' h1 h2 _
  refine h v' w' ?_ ((Below.refl _ _).grown h2 hbase fun k hk => (hown.lt k hk).1)
  unfold NO; rw [List.length_append, cellsL_append]; exact h1
theorem djoin_any (va vb : Value) (A B : List LN) (hA : A.length ≤ 4000000) (hB : B.length ≤ 4000000) (Ba Bb : Nat) (w : World) (ha : NO w Ba va A) (hb : NO w Bb vb B) :
  Calls Tryz.prog 29 #[va, vb] w fun e w' => ∃ v', e = .returned v' ∧ NO w' w.heap.size v' (A ++ B) ∧ Below w.heap.size w w' := by
 have HLIT : Hid (NO (w.alloc (.cells #[] 33)) w.heap.size (.slice (some ⟨w.heap.size, 0, none⟩) 0 0) []) := World.ownsRow_lit w #[] 0 (Nat.le_refl _) (by decide) rfl
 have hb1 : Below w.heap.size w (w.alloc (.cells #[] 33)) := (Below.refl _ _).alloc (Nat.le_refl _) _
 have HA := Lib.hid (ha.below hb1)
 have HB := Lib.hid hb
 obtain ⟨aa, ca, rfl⟩ := ha.slice
 obtain ⟨ab, cb, rfl⟩ := hb.slice
 clear ha hb
 go_enter Tryz.func29, Tryz.ntmps29
 go_wp2_with (at_builtin; refine wpList_append_NO _ rfl _ _ rfl w.heap.size _ [] rfl HLIT.out _ _ A rfl HA.out (by simp) (by omega) (by simp) ?_)
 intro v1 w1 h1 hB1
 have H1 := Lib.hid h1
 obtain ⟨a1, c1, rfl⟩ := h1.slice
 have HB1 := Lib.hid (hb1.trans hB1)
 have HB2 := Lib.hid (HB.out.below HB1.out)
 have hsz : w.heap.size ≤ w1.heap.size := HB1.out.size
 clear h1 hB1
 go_wp2_with (at_builtin; refine wpList_append_NO _ rfl _ _ rfl w.heap.size _ A rfl H1.out _ _ B rfl HB2.out (by omega) (by omega) hsz ?_)
 intro v2 w2 h2 hB2
 have H2 := Lib.hid h2
 have HB3 := Lib.hid (HB1.out.trans hB2)
 clear h2 hB2
 go_wp2_with fail
 go_ret
 exact ⟨_, rfl, H2.out, HB3.out⟩
end Go.Proofs.YtnkfodelgpidkaaGreatDoor
namespace Go.Proofs.YtnkfodelgpidkaaGreatDoor
open Go.RowKit
def tgL : List LN → Bool
 | [] => false
 | l :: _ => l.kind == 27 || l.kind == 32 || l.kind == 33
theorem dtarget_any (v : Value) (L : List LN) (B : Nat) (w : World) (h : NO w B v L) (hl : L.length ≤ 10000000) :
  Calls Tryz.prog 205 #[v] w fun e w' => e = .returned (.bool (tgL L)) ∧ Below w.heap.size w w' := by
 obtain ⟨ao, cp, rfl⟩ := h.slice
 cases L with
 | nil =>
  go_enter Tryz.func205, Tryz.ntmps205
  go_wp2_with fail
  go_ret
  exact ⟨rfl, Below.refl _ _⟩
 | cons l r =>
  obtain ⟨g, hv, hg, hc⟩ := (NRow.own h).get (by simp)
  subst hv
  obtain ⟨c0, _⟩ := hc 0 (by simp)
  simp only [Nat.zero_mul, List.getElem_cons_zero] at c0
  have HT : Hid (tgL (l :: r) = (l.kind == 27 || l.kind == 32 || l.kind == 33)) := rfl
  have HK : l.kind = 27 ∨ l.kind = 32 ∨ l.kind = 33 ∨ ((l.kind == 27) = false ∧ (l.kind == 32) = false ∧ (l.kind == 33) = false) := by simp only [beq_eq_false_iff_ne]; omega
  generalize tgL (l :: r) = G at *
  generalize l.kind = k at *
  rw [List.length_cons] at hl ⊢
  clear h hc
  rcases HK with rfl | rfl | rfl | ⟨k1, k2, k3⟩
  all_goals
   go_enter Tryz.func205, Tryz.ntmps205
   go_wp2_with fail
   try go_quiet (fail)
   try go_wp2_with fail
   go_ret
   rw [HT.out]
   first | exact ⟨rfl, below_drewN (Below.refl _ _) _⟩ | exact ⟨rfl, Below.refl _ _⟩ | (refine ⟨?_, below_drewN (Below.refl _ _) _⟩; simp [*]) | (refine ⟨?_, Below.refl _ _⟩; simp [*])
theorem dset_in {q : List UInt8} (hq : setsL.contains q = true) {x : List UInt8} (h : x = q) : setsL.contains x = true := by rw [h]; exact hq
theorem dlev_in {q : List UInt8} {l : Int} (hq : levelI q = l) {x : List UInt8} (h : x = q) : levelI x = l := by rw [h]; exact hq
theorem dsets_any (x : List UInt8) (w : World) :
  Calls Tryz.prog 204 #[.string (bs x)] w fun e w' => e = .returned (.bool (setsL.contains x)) ∧ w = w' := by
 by_cases h0 : x = [61]
 ·have hr := dset_in (q := [61]) (by decide) (x := x) h0
  have e0 := tex_true (m := [61]) h0
  rw [hr]
  clear hr h0
  go_enter Tryz.func204, Tryz.ntmps204
  go_wp2_with fail
  go_ret
  exact ⟨rfl, rfl⟩
 by_cases h1 : x = [43, 61]
 ·have hr := dset_in (q := [43, 61]) (by decide) (x := x) h1
  have e0 := tex_false (m := [61]) h0
  have e1 := tex_true (m := [43, 61]) h1
  rw [hr]
  clear hr h0 h1
  go_enter Tryz.func204, Tryz.ntmps204
  go_wp2_with fail
  go_ret
  exact ⟨rfl, rfl⟩
 by_cases h2 : x = [45, 61]
 ·have hr := dset_in (q := [45, 61]) (by decide) (x := x) h2
  have e0 := tex_false (m := [61]) h0
  have e1 := tex_false (m := [43, 61]) h1
  have e2 := tex_true (m := [45, 61]) h2
  rw [hr]
  clear hr h0 h1 h2
  go_enter Tryz.func204, Tryz.ntmps204
  go_wp2_with fail
  go_ret
  exact ⟨rfl, rfl⟩
 by_cases h3 : x = [42, 61]
 ·have hr := dset_in (q := [42, 61]) (by decide) (x := x) h3
  have e0 := tex_false (m := [61]) h0
  have e1 := tex_false (m := [43, 61]) h1
  have e2 := tex_false (m := [45, 61]) h2
  have e3 := tex_true (m := [42, 61]) h3
  rw [hr]
  clear hr h0 h1 h2 h3
  go_enter Tryz.func204, Tryz.ntmps204
  go_wp2_with fail
  go_ret
  exact ⟨rfl, rfl⟩
 by_cases h4 : x = [47, 61]
 ·have hr := dset_in (q := [47, 61]) (by decide) (x := x) h4
  have e0 := tex_false (m := [61]) h0
  have e1 := tex_false (m := [43, 61]) h1
  have e2 := tex_false (m := [45, 61]) h2
  have e3 := tex_false (m := [42, 61]) h3
  have e4 := tex_true (m := [47, 61]) h4
  rw [hr]
  clear hr h0 h1 h2 h3 h4
  go_enter Tryz.func204, Tryz.ntmps204
  go_wp2_with fail
  go_ret
  exact ⟨rfl, rfl⟩
 by_cases h5 : x = [37, 61]
 ·have hr := dset_in (q := [37, 61]) (by decide) (x := x) h5
  have e0 := tex_false (m := [61]) h0
  have e1 := tex_false (m := [43, 61]) h1
  have e2 := tex_false (m := [45, 61]) h2
  have e3 := tex_false (m := [42, 61]) h3
  have e4 := tex_false (m := [47, 61]) h4
  have e5 := tex_true (m := [37, 61]) h5
  rw [hr]
  clear hr h0 h1 h2 h3 h4 h5
  go_enter Tryz.func204, Tryz.ntmps204
  go_wp2_with fail
  go_ret
  exact ⟨rfl, rfl⟩
 by_cases h6 : x = [38, 61]
 ·have hr := dset_in (q := [38, 61]) (by decide) (x := x) h6
  have e0 := tex_false (m := [61]) h0
  have e1 := tex_false (m := [43, 61]) h1
  have e2 := tex_false (m := [45, 61]) h2
  have e3 := tex_false (m := [42, 61]) h3
  have e4 := tex_false (m := [47, 61]) h4
  have e5 := tex_false (m := [37, 61]) h5
  have e6 := tex_true (m := [38, 61]) h6
  rw [hr]
  clear hr h0 h1 h2 h3 h4 h5 h6
  go_enter Tryz.func204, Tryz.ntmps204
  go_wp2_with fail
  go_ret
  exact ⟨rfl, rfl⟩
 by_cases h7 : x = [124, 61]
 ·have hr := dset_in (q := [124, 61]) (by decide) (x := x) h7
  have e0 := tex_false (m := [61]) h0
  have e1 := tex_false (m := [43, 61]) h1
  have e2 := tex_false (m := [45, 61]) h2
  have e3 := tex_false (m := [42, 61]) h3
  have e4 := tex_false (m := [47, 61]) h4
  have e5 := tex_false (m := [37, 61]) h5
  have e6 := tex_false (m := [38, 61]) h6
  have e7 := tex_true (m := [124, 61]) h7
  rw [hr]
  clear hr h0 h1 h2 h3 h4 h5 h6 h7
  go_enter Tryz.func204, Tryz.ntmps204
  go_wp2_with fail
  go_ret
  exact ⟨rfl, rfl⟩
 by_cases h8 : x = [94, 61]
 ·have hr := dset_in (q := [94, 61]) (by decide) (x := x) h8
  have e0 := tex_false (m := [61]) h0
  have e1 := tex_false (m := [43, 61]) h1
  have e2 := tex_false (m := [45, 61]) h2
  have e3 := tex_false (m := [42, 61]) h3
  have e4 := tex_false (m := [47, 61]) h4
  have e5 := tex_false (m := [37, 61]) h5
  have e6 := tex_false (m := [38, 61]) h6
  have e7 := tex_false (m := [124, 61]) h7
  have e8 := tex_true (m := [94, 61]) h8
  rw [hr]
  clear hr h0 h1 h2 h3 h4 h5 h6 h7 h8
  go_enter Tryz.func204, Tryz.ntmps204
  go_wp2_with fail
  go_ret
  exact ⟨rfl, rfl⟩
 by_cases h9 : x = [60, 60, 61]
 ·have hr := dset_in (q := [60, 60, 61]) (by decide) (x := x) h9
  have e0 := tex_false (m := [61]) h0
  have e1 := tex_false (m := [43, 61]) h1
  have e2 := tex_false (m := [45, 61]) h2
  have e3 := tex_false (m := [42, 61]) h3
  have e4 := tex_false (m := [47, 61]) h4
  have e5 := tex_false (m := [37, 61]) h5
  have e6 := tex_false (m := [38, 61]) h6
  have e7 := tex_false (m := [124, 61]) h7
  have e8 := tex_false (m := [94, 61]) h8
  have e9 := tex_true (m := [60, 60, 61]) h9
  rw [hr]
  clear hr h0 h1 h2 h3 h4 h5 h6 h7 h8 h9
  go_enter Tryz.func204, Tryz.ntmps204
  go_wp2_with fail
  go_ret
  exact ⟨rfl, rfl⟩
 by_cases h10 : x = [62, 62, 61]
 ·have hr := dset_in (q := [62, 62, 61]) (by decide) (x := x) h10
  have e0 := tex_false (m := [61]) h0
  have e1 := tex_false (m := [43, 61]) h1
  have e2 := tex_false (m := [45, 61]) h2
  have e3 := tex_false (m := [42, 61]) h3
  have e4 := tex_false (m := [47, 61]) h4
  have e5 := tex_false (m := [37, 61]) h5
  have e6 := tex_false (m := [38, 61]) h6
  have e7 := tex_false (m := [124, 61]) h7
  have e8 := tex_false (m := [94, 61]) h8
  have e9 := tex_false (m := [60, 60, 61]) h9
  have e10 := tex_true (m := [62, 62, 61]) h10
  rw [hr]
  clear hr h0 h1 h2 h3 h4 h5 h6 h7 h8 h9 h10
  go_enter Tryz.func204, Tryz.ntmps204
  go_wp2_with fail
  go_ret
  exact ⟨rfl, rfl⟩
 by_cases h11 : x = [62, 62, 62, 61]
 ·have hr := dset_in (q := [62, 62, 62, 61]) (by decide) (x := x) h11
  have e0 := tex_false (m := [61]) h0
  have e1 := tex_false (m := [43, 61]) h1
  have e2 := tex_false (m := [45, 61]) h2
  have e3 := tex_false (m := [42, 61]) h3
  have e4 := tex_false (m := [47, 61]) h4
  have e5 := tex_false (m := [37, 61]) h5
  have e6 := tex_false (m := [38, 61]) h6
  have e7 := tex_false (m := [124, 61]) h7
  have e8 := tex_false (m := [94, 61]) h8
  have e9 := tex_false (m := [60, 60, 61]) h9
  have e10 := tex_false (m := [62, 62, 61]) h10
  have e11 := tex_true (m := [62, 62, 62, 61]) h11
  rw [hr]
  clear hr h0 h1 h2 h3 h4 h5 h6 h7 h8 h9 h10 h11
  go_enter Tryz.func204, Tryz.ntmps204
  go_wp2_with fail
  go_ret
  exact ⟨rfl, rfl⟩
 have hno : setsL.contains x = false := by
  rw [Bool.eq_false_iff]; intro h
  have := List.contains_iff_mem.1 h
  unfold setsL at this
  simp only [List.mem_cons, List.not_mem_nil, or_false] at this
  rcases this with h | h | h | h | h | h | h | h | h | h | h | h <;> contradiction
 have e0 := tex_false (m := [61]) h0
 have e1 := tex_false (m := [43, 61]) h1
 have e2 := tex_false (m := [45, 61]) h2
 have e3 := tex_false (m := [42, 61]) h3
 have e4 := tex_false (m := [47, 61]) h4
 have e5 := tex_false (m := [37, 61]) h5
 have e6 := tex_false (m := [38, 61]) h6
 have e7 := tex_false (m := [124, 61]) h7
 have e8 := tex_false (m := [94, 61]) h8
 have e9 := tex_false (m := [60, 60, 61]) h9
 have e10 := tex_false (m := [62, 62, 61]) h10
 have e11 := tex_false (m := [62, 62, 62, 61]) h11
 rw [hno]
 clear hno h0 h1 h2 h3 h4 h5 h6 h7 h8 h9 h10 h11
 go_enter Tryz.func204, Tryz.ntmps204
 go_wp2_with fail
 go_ret
 exact ⟨rfl, rfl⟩
theorem dlevel_any (x : List UInt8) (w : World) :
  Calls Tryz.prog 186 #[.string (bs x)] w fun e w' => e = .returned (.int .i64 (levelI x)) ∧ w = w' := by
 by_cases h0 : x = [124, 124]
 ·have hr := dlev_in (q := [124, 124]) (l := 1) (by decide) (x := x) h0
  have e0 := tex_true (m := [124, 124]) h0
  rw [hr]
  clear hr h0
  go_enter Tryz.func186, Tryz.ntmps186
  go_wp2_with fail
  go_ret
  exact ⟨rfl, rfl⟩
 by_cases h1 : x = [38, 38]
 ·have hr := dlev_in (q := [38, 38]) (l := 2) (by decide) (x := x) h1
  have e0 := tex_false (m := [124, 124]) h0
  have e1 := tex_true (m := [38, 38]) h1
  rw [hr]
  clear hr h0 h1
  go_enter Tryz.func186, Tryz.ntmps186
  go_wp2_with fail
  go_ret
  exact ⟨rfl, rfl⟩
 by_cases h2 : x = [124]
 ·have hr := dlev_in (q := [124]) (l := 3) (by decide) (x := x) h2
  have e0 := tex_false (m := [124, 124]) h0
  have e1 := tex_false (m := [38, 38]) h1
  have e2 := tex_true (m := [124]) h2
  rw [hr]
  clear hr h0 h1 h2
  go_enter Tryz.func186, Tryz.ntmps186
  go_wp2_with fail
  go_ret
  exact ⟨rfl, rfl⟩
 by_cases h3 : x = [94]
 ·have hr := dlev_in (q := [94]) (l := 4) (by decide) (x := x) h3
  have e0 := tex_false (m := [124, 124]) h0
  have e1 := tex_false (m := [38, 38]) h1
  have e2 := tex_false (m := [124]) h2
  have e3 := tex_true (m := [94]) h3
  rw [hr]
  clear hr h0 h1 h2 h3
  go_enter Tryz.func186, Tryz.ntmps186
  go_wp2_with fail
  go_ret
  exact ⟨rfl, rfl⟩
 by_cases h4 : x = [38]
 ·have hr := dlev_in (q := [38]) (l := 5) (by decide) (x := x) h4
  have e0 := tex_false (m := [124, 124]) h0
  have e1 := tex_false (m := [38, 38]) h1
  have e2 := tex_false (m := [124]) h2
  have e3 := tex_false (m := [94]) h3
  have e4 := tex_true (m := [38]) h4
  rw [hr]
  clear hr h0 h1 h2 h3 h4
  go_enter Tryz.func186, Tryz.ntmps186
  go_wp2_with fail
  go_ret
  exact ⟨rfl, rfl⟩
 by_cases h5 : x = [61, 61, 61]
 ·have hr := dlev_in (q := [61, 61, 61]) (l := 6) (by decide) (x := x) h5
  have e0 := tex_false (m := [124, 124]) h0
  have e1 := tex_false (m := [38, 38]) h1
  have e2 := tex_false (m := [124]) h2
  have e3 := tex_false (m := [94]) h3
  have e4 := tex_false (m := [38]) h4
  have e5 := tex_true (m := [61, 61, 61]) h5
  rw [hr]
  clear hr h0 h1 h2 h3 h4 h5
  go_enter Tryz.func186, Tryz.ntmps186
  go_wp2_with fail
  go_ret
  exact ⟨rfl, rfl⟩
 by_cases h6 : x = [33, 61, 61]
 ·have hr := dlev_in (q := [33, 61, 61]) (l := 6) (by decide) (x := x) h6
  have e0 := tex_false (m := [124, 124]) h0
  have e1 := tex_false (m := [38, 38]) h1
  have e2 := tex_false (m := [124]) h2
  have e3 := tex_false (m := [94]) h3
  have e4 := tex_false (m := [38]) h4
  have e5 := tex_false (m := [61, 61, 61]) h5
  have e6 := tex_true (m := [33, 61, 61]) h6
  rw [hr]
  clear hr h0 h1 h2 h3 h4 h5 h6
  go_enter Tryz.func186, Tryz.ntmps186
  go_wp2_with fail
  go_ret
  exact ⟨rfl, rfl⟩
 by_cases h7 : x = [60]
 ·have hr := dlev_in (q := [60]) (l := 7) (by decide) (x := x) h7
  have e0 := tex_false (m := [124, 124]) h0
  have e1 := tex_false (m := [38, 38]) h1
  have e2 := tex_false (m := [124]) h2
  have e3 := tex_false (m := [94]) h3
  have e4 := tex_false (m := [38]) h4
  have e5 := tex_false (m := [61, 61, 61]) h5
  have e6 := tex_false (m := [33, 61, 61]) h6
  have e7 := tex_true (m := [60]) h7
  rw [hr]
  clear hr h0 h1 h2 h3 h4 h5 h6 h7
  go_enter Tryz.func186, Tryz.ntmps186
  go_wp2_with fail
  go_ret
  exact ⟨rfl, rfl⟩
 by_cases h8 : x = [62]
 ·have hr := dlev_in (q := [62]) (l := 7) (by decide) (x := x) h8
  have e0 := tex_false (m := [124, 124]) h0
  have e1 := tex_false (m := [38, 38]) h1
  have e2 := tex_false (m := [124]) h2
  have e3 := tex_false (m := [94]) h3
  have e4 := tex_false (m := [38]) h4
  have e5 := tex_false (m := [61, 61, 61]) h5
  have e6 := tex_false (m := [33, 61, 61]) h6
  have e7 := tex_false (m := [60]) h7
  have e8 := tex_true (m := [62]) h8
  rw [hr]
  clear hr h0 h1 h2 h3 h4 h5 h6 h7 h8
  go_enter Tryz.func186, Tryz.ntmps186
  go_wp2_with fail
  go_ret
  exact ⟨rfl, rfl⟩
 by_cases h9 : x = [60, 61]
 ·have hr := dlev_in (q := [60, 61]) (l := 7) (by decide) (x := x) h9
  have e0 := tex_false (m := [124, 124]) h0
  have e1 := tex_false (m := [38, 38]) h1
  have e2 := tex_false (m := [124]) h2
  have e3 := tex_false (m := [94]) h3
  have e4 := tex_false (m := [38]) h4
  have e5 := tex_false (m := [61, 61, 61]) h5
  have e6 := tex_false (m := [33, 61, 61]) h6
  have e7 := tex_false (m := [60]) h7
  have e8 := tex_false (m := [62]) h8
  have e9 := tex_true (m := [60, 61]) h9
  rw [hr]
  clear hr h0 h1 h2 h3 h4 h5 h6 h7 h8 h9
  go_enter Tryz.func186, Tryz.ntmps186
  go_wp2_with fail
  go_ret
  exact ⟨rfl, rfl⟩
 by_cases h10 : x = [62, 61]
 ·have hr := dlev_in (q := [62, 61]) (l := 7) (by decide) (x := x) h10
  have e0 := tex_false (m := [124, 124]) h0
  have e1 := tex_false (m := [38, 38]) h1
  have e2 := tex_false (m := [124]) h2
  have e3 := tex_false (m := [94]) h3
  have e4 := tex_false (m := [38]) h4
  have e5 := tex_false (m := [61, 61, 61]) h5
  have e6 := tex_false (m := [33, 61, 61]) h6
  have e7 := tex_false (m := [60]) h7
  have e8 := tex_false (m := [62]) h8
  have e9 := tex_false (m := [60, 61]) h9
  have e10 := tex_true (m := [62, 61]) h10
  rw [hr]
  clear hr h0 h1 h2 h3 h4 h5 h6 h7 h8 h9 h10
  go_enter Tryz.func186, Tryz.ntmps186
  go_wp2_with fail
  go_ret
  exact ⟨rfl, rfl⟩
 by_cases h11 : x = [105, 110, 115, 116, 97, 110, 99, 101, 111, 102]
 ·have hr := dlev_in (q := [105, 110, 115, 116, 97, 110, 99, 101, 111, 102]) (l := 7) (by decide) (x := x) h11
  have e0 := tex_false (m := [124, 124]) h0
  have e1 := tex_false (m := [38, 38]) h1
  have e2 := tex_false (m := [124]) h2
  have e3 := tex_false (m := [94]) h3
  have e4 := tex_false (m := [38]) h4
  have e5 := tex_false (m := [61, 61, 61]) h5
  have e6 := tex_false (m := [33, 61, 61]) h6
  have e7 := tex_false (m := [60]) h7
  have e8 := tex_false (m := [62]) h8
  have e9 := tex_false (m := [60, 61]) h9
  have e10 := tex_false (m := [62, 61]) h10
  have e11 := tex_true (m := [105, 110, 115, 116, 97, 110, 99, 101, 111, 102]) h11
  rw [hr]
  clear hr h0 h1 h2 h3 h4 h5 h6 h7 h8 h9 h10 h11
  go_enter Tryz.func186, Tryz.ntmps186
  go_wp2_with fail
  go_ret
  exact ⟨rfl, rfl⟩
 by_cases h12 : x = [105, 110]
 ·have hr := dlev_in (q := [105, 110]) (l := 7) (by decide) (x := x) h12
  have e0 := tex_false (m := [124, 124]) h0
  have e1 := tex_false (m := [38, 38]) h1
  have e2 := tex_false (m := [124]) h2
  have e3 := tex_false (m := [94]) h3
  have e4 := tex_false (m := [38]) h4
  have e5 := tex_false (m := [61, 61, 61]) h5
  have e6 := tex_false (m := [33, 61, 61]) h6
  have e7 := tex_false (m := [60]) h7
  have e8 := tex_false (m := [62]) h8
  have e9 := tex_false (m := [60, 61]) h9
  have e10 := tex_false (m := [62, 61]) h10
  have e11 := tex_false (m := [105, 110, 115, 116, 97, 110, 99, 101, 111, 102]) h11
  have e12 := tex_true (m := [105, 110]) h12
  rw [hr]
  clear hr h0 h1 h2 h3 h4 h5 h6 h7 h8 h9 h10 h11 h12
  go_enter Tryz.func186, Tryz.ntmps186
  go_wp2_with fail
  go_ret
  exact ⟨rfl, rfl⟩
 by_cases h13 : x = [60, 60]
 ·have hr := dlev_in (q := [60, 60]) (l := 8) (by decide) (x := x) h13
  have e0 := tex_false (m := [124, 124]) h0
  have e1 := tex_false (m := [38, 38]) h1
  have e2 := tex_false (m := [124]) h2
  have e3 := tex_false (m := [94]) h3
  have e4 := tex_false (m := [38]) h4
  have e5 := tex_false (m := [61, 61, 61]) h5
  have e6 := tex_false (m := [33, 61, 61]) h6
  have e7 := tex_false (m := [60]) h7
  have e8 := tex_false (m := [62]) h8
  have e9 := tex_false (m := [60, 61]) h9
  have e10 := tex_false (m := [62, 61]) h10
  have e11 := tex_false (m := [105, 110, 115, 116, 97, 110, 99, 101, 111, 102]) h11
  have e12 := tex_false (m := [105, 110]) h12
  have e13 := tex_true (m := [60, 60]) h13
  rw [hr]
  clear hr h0 h1 h2 h3 h4 h5 h6 h7 h8 h9 h10 h11 h12 h13
  go_enter Tryz.func186, Tryz.ntmps186
  go_wp2_with fail
  go_ret
  exact ⟨rfl, rfl⟩
 by_cases h14 : x = [62, 62]
 ·have hr := dlev_in (q := [62, 62]) (l := 8) (by decide) (x := x) h14
  have e0 := tex_false (m := [124, 124]) h0
  have e1 := tex_false (m := [38, 38]) h1
  have e2 := tex_false (m := [124]) h2
  have e3 := tex_false (m := [94]) h3
  have e4 := tex_false (m := [38]) h4
  have e5 := tex_false (m := [61, 61, 61]) h5
  have e6 := tex_false (m := [33, 61, 61]) h6
  have e7 := tex_false (m := [60]) h7
  have e8 := tex_false (m := [62]) h8
  have e9 := tex_false (m := [60, 61]) h9
  have e10 := tex_false (m := [62, 61]) h10
  have e11 := tex_false (m := [105, 110, 115, 116, 97, 110, 99, 101, 111, 102]) h11
  have e12 := tex_false (m := [105, 110]) h12
  have e13 := tex_false (m := [60, 60]) h13
  have e14 := tex_true (m := [62, 62]) h14
  rw [hr]
  clear hr h0 h1 h2 h3 h4 h5 h6 h7 h8 h9 h10 h11 h12 h13 h14
  go_enter Tryz.func186, Tryz.ntmps186
  go_wp2_with fail
  go_ret
  exact ⟨rfl, rfl⟩
 by_cases h15 : x = [62, 62, 62]
 ·have hr := dlev_in (q := [62, 62, 62]) (l := 8) (by decide) (x := x) h15
  have e0 := tex_false (m := [124, 124]) h0
  have e1 := tex_false (m := [38, 38]) h1
  have e2 := tex_false (m := [124]) h2
  have e3 := tex_false (m := [94]) h3
  have e4 := tex_false (m := [38]) h4
  have e5 := tex_false (m := [61, 61, 61]) h5
  have e6 := tex_false (m := [33, 61, 61]) h6
  have e7 := tex_false (m := [60]) h7
  have e8 := tex_false (m := [62]) h8
  have e9 := tex_false (m := [60, 61]) h9
  have e10 := tex_false (m := [62, 61]) h10
  have e11 := tex_false (m := [105, 110, 115, 116, 97, 110, 99, 101, 111, 102]) h11
  have e12 := tex_false (m := [105, 110]) h12
  have e13 := tex_false (m := [60, 60]) h13
  have e14 := tex_false (m := [62, 62]) h14
  have e15 := tex_true (m := [62, 62, 62]) h15
  rw [hr]
  clear hr h0 h1 h2 h3 h4 h5 h6 h7 h8 h9 h10 h11 h12 h13 h14 h15
  go_enter Tryz.func186, Tryz.ntmps186
  go_wp2_with fail
  go_ret
  exact ⟨rfl, rfl⟩
 by_cases h16 : x = [43]
 ·have hr := dlev_in (q := [43]) (l := 9) (by decide) (x := x) h16
  have e0 := tex_false (m := [124, 124]) h0
  have e1 := tex_false (m := [38, 38]) h1
  have e2 := tex_false (m := [124]) h2
  have e3 := tex_false (m := [94]) h3
  have e4 := tex_false (m := [38]) h4
  have e5 := tex_false (m := [61, 61, 61]) h5
  have e6 := tex_false (m := [33, 61, 61]) h6
  have e7 := tex_false (m := [60]) h7
  have e8 := tex_false (m := [62]) h8
  have e9 := tex_false (m := [60, 61]) h9
  have e10 := tex_false (m := [62, 61]) h10
  have e11 := tex_false (m := [105, 110, 115, 116, 97, 110, 99, 101, 111, 102]) h11
  have e12 := tex_false (m := [105, 110]) h12
  have e13 := tex_false (m := [60, 60]) h13
  have e14 := tex_false (m := [62, 62]) h14
  have e15 := tex_false (m := [62, 62, 62]) h15
  have e16 := tex_true (m := [43]) h16
  rw [hr]
  clear hr h0 h1 h2 h3 h4 h5 h6 h7 h8 h9 h10 h11 h12 h13 h14 h15 h16
  go_enter Tryz.func186, Tryz.ntmps186
  go_wp2_with fail
  go_ret
  exact ⟨rfl, rfl⟩
 by_cases h17 : x = [45]
 ·have hr := dlev_in (q := [45]) (l := 9) (by decide) (x := x) h17
  have e0 := tex_false (m := [124, 124]) h0
  have e1 := tex_false (m := [38, 38]) h1
  have e2 := tex_false (m := [124]) h2
  have e3 := tex_false (m := [94]) h3
  have e4 := tex_false (m := [38]) h4
  have e5 := tex_false (m := [61, 61, 61]) h5
  have e6 := tex_false (m := [33, 61, 61]) h6
  have e7 := tex_false (m := [60]) h7
  have e8 := tex_false (m := [62]) h8
  have e9 := tex_false (m := [60, 61]) h9
  have e10 := tex_false (m := [62, 61]) h10
  have e11 := tex_false (m := [105, 110, 115, 116, 97, 110, 99, 101, 111, 102]) h11
  have e12 := tex_false (m := [105, 110]) h12
  have e13 := tex_false (m := [60, 60]) h13
  have e14 := tex_false (m := [62, 62]) h14
  have e15 := tex_false (m := [62, 62, 62]) h15
  have e16 := tex_false (m := [43]) h16
  have e17 := tex_true (m := [45]) h17
  rw [hr]
  clear hr h0 h1 h2 h3 h4 h5 h6 h7 h8 h9 h10 h11 h12 h13 h14 h15 h16 h17
  go_enter Tryz.func186, Tryz.ntmps186
  go_wp2_with fail
  go_ret
  exact ⟨rfl, rfl⟩
 by_cases h18 : x = [42]
 ·have hr := dlev_in (q := [42]) (l := 10) (by decide) (x := x) h18
  have e0 := tex_false (m := [124, 124]) h0
  have e1 := tex_false (m := [38, 38]) h1
  have e2 := tex_false (m := [124]) h2
  have e3 := tex_false (m := [94]) h3
  have e4 := tex_false (m := [38]) h4
  have e5 := tex_false (m := [61, 61, 61]) h5
  have e6 := tex_false (m := [33, 61, 61]) h6
  have e7 := tex_false (m := [60]) h7
  have e8 := tex_false (m := [62]) h8
  have e9 := tex_false (m := [60, 61]) h9
  have e10 := tex_false (m := [62, 61]) h10
  have e11 := tex_false (m := [105, 110, 115, 116, 97, 110, 99, 101, 111, 102]) h11
  have e12 := tex_false (m := [105, 110]) h12
  have e13 := tex_false (m := [60, 60]) h13
  have e14 := tex_false (m := [62, 62]) h14
  have e15 := tex_false (m := [62, 62, 62]) h15
  have e16 := tex_false (m := [43]) h16
  have e17 := tex_false (m := [45]) h17
  have e18 := tex_true (m := [42]) h18
  rw [hr]
  clear hr h0 h1 h2 h3 h4 h5 h6 h7 h8 h9 h10 h11 h12 h13 h14 h15 h16 h17 h18
  go_enter Tryz.func186, Tryz.ntmps186
  go_wp2_with fail
  go_ret
  exact ⟨rfl, rfl⟩
 by_cases h19 : x = [47]
 ·have hr := dlev_in (q := [47]) (l := 10) (by decide) (x := x) h19
  have e0 := tex_false (m := [124, 124]) h0
  have e1 := tex_false (m := [38, 38]) h1
  have e2 := tex_false (m := [124]) h2
  have e3 := tex_false (m := [94]) h3
  have e4 := tex_false (m := [38]) h4
  have e5 := tex_false (m := [61, 61, 61]) h5
  have e6 := tex_false (m := [33, 61, 61]) h6
  have e7 := tex_false (m := [60]) h7
  have e8 := tex_false (m := [62]) h8
  have e9 := tex_false (m := [60, 61]) h9
  have e10 := tex_false (m := [62, 61]) h10
  have e11 := tex_false (m := [105, 110, 115, 116, 97, 110, 99, 101, 111, 102]) h11
  have e12 := tex_false (m := [105, 110]) h12
  have e13 := tex_false (m := [60, 60]) h13
  have e14 := tex_false (m := [62, 62]) h14
  have e15 := tex_false (m := [62, 62, 62]) h15
  have e16 := tex_false (m := [43]) h16
  have e17 := tex_false (m := [45]) h17
  have e18 := tex_false (m := [42]) h18
  have e19 := tex_true (m := [47]) h19
  rw [hr]
  clear hr h0 h1 h2 h3 h4 h5 h6 h7 h8 h9 h10 h11 h12 h13 h14 h15 h16 h17 h18 h19
  go_enter Tryz.func186, Tryz.ntmps186
  go_wp2_with fail
  go_ret
  exact ⟨rfl, rfl⟩
 by_cases h20 : x = [37]
 ·have hr := dlev_in (q := [37]) (l := 10) (by decide) (x := x) h20
  have e0 := tex_false (m := [124, 124]) h0
  have e1 := tex_false (m := [38, 38]) h1
  have e2 := tex_false (m := [124]) h2
  have e3 := tex_false (m := [94]) h3
  have e4 := tex_false (m := [38]) h4
  have e5 := tex_false (m := [61, 61, 61]) h5
  have e6 := tex_false (m := [33, 61, 61]) h6
  have e7 := tex_false (m := [60]) h7
  have e8 := tex_false (m := [62]) h8
  have e9 := tex_false (m := [60, 61]) h9
  have e10 := tex_false (m := [62, 61]) h10
  have e11 := tex_false (m := [105, 110, 115, 116, 97, 110, 99, 101, 111, 102]) h11
  have e12 := tex_false (m := [105, 110]) h12
  have e13 := tex_false (m := [60, 60]) h13
  have e14 := tex_false (m := [62, 62]) h14
  have e15 := tex_false (m := [62, 62, 62]) h15
  have e16 := tex_false (m := [43]) h16
  have e17 := tex_false (m := [45]) h17
  have e18 := tex_false (m := [42]) h18
  have e19 := tex_false (m := [47]) h19
  have e20 := tex_true (m := [37]) h20
  rw [hr]
  clear hr h0 h1 h2 h3 h4 h5 h6 h7 h8 h9 h10 h11 h12 h13 h14 h15 h16 h17 h18 h19 h20
  go_enter Tryz.func186, Tryz.ntmps186
  go_wp2_with fail
  go_ret
  exact ⟨rfl, rfl⟩
 have hno : levelI x = 0 := by
  unfold levelI levels
  simp only [List.lookup_cons, List.lookup_nil]
  rw [beq_eq_false_iff_ne.2 h0, beq_eq_false_iff_ne.2 h1, beq_eq_false_iff_ne.2 h2, beq_eq_false_iff_ne.2 h3, beq_eq_false_iff_ne.2 h4, beq_eq_false_iff_ne.2 h5, beq_eq_false_iff_ne.2 h6, beq_eq_false_iff_ne.2 h7, beq_eq_false_iff_ne.2 h8, beq_eq_false_iff_ne.2 h9, beq_eq_false_iff_ne.2 h10, beq_eq_false_iff_ne.2 h11, beq_eq_false_iff_ne.2 h12, beq_eq_false_iff_ne.2 h13, beq_eq_false_iff_ne.2 h14, beq_eq_false_iff_ne.2 h15, beq_eq_false_iff_ne.2 h16, beq_eq_false_iff_ne.2 h17, beq_eq_false_iff_ne.2 h18, beq_eq_false_iff_ne.2 h19, beq_eq_false_iff_ne.2 h20]
  rfl
 have e0 := tex_false (m := [124, 124]) h0
 have e1 := tex_false (m := [38, 38]) h1
 have e2 := tex_false (m := [124]) h2
 have e3 := tex_false (m := [94]) h3
 have e4 := tex_false (m := [38]) h4
 have e5 := tex_false (m := [61, 61, 61]) h5
 have e6 := tex_false (m := [33, 61, 61]) h6
 have e7 := tex_false (m := [60]) h7
 have e8 := tex_false (m := [62]) h8
 have e9 := tex_false (m := [60, 61]) h9
 have e10 := tex_false (m := [62, 61]) h10
 have e11 := tex_false (m := [105, 110, 115, 116, 97, 110, 99, 101, 111, 102]) h11
 have e12 := tex_false (m := [105, 110]) h12
 have e13 := tex_false (m := [60, 60]) h13
 have e14 := tex_false (m := [62, 62]) h14
 have e15 := tex_false (m := [62, 62, 62]) h15
 have e16 := tex_false (m := [43]) h16
 have e17 := tex_false (m := [45]) h17
 have e18 := tex_false (m := [42]) h18
 have e19 := tex_false (m := [47]) h19
 have e20 := tex_false (m := [37]) h20
 rw [hno]
 clear hno h0 h1 h2 h3 h4 h5 h6 h7 h8 h9 h10 h11 h12 h13 h14 h15 h16 h17 h18 h19 h20
 go_enter Tryz.func186, Tryz.ntmps186
 go_wp2_with fail
 go_ret
 exact ⟨rfl, rfl⟩
end Go.Proofs.YtnkfodelgpidkaaGreatDoor
namespace Go.Proofs.YtnkfodelgpidkaaGreatDoor
def tgM : List LN → Bool
 | [] => false
 | l :: _ => l.kind == 27 || l.kind == 32 || l.kind == 33
def mkL (k : Int) (x : List UInt8) (n : Nat) (kids : List LN) : List LN := ⟨k, n, kids.length + 1, x, 0⟩ :: kids
structure Mr where
 l : List LN
 n : Nat
 s : Ss
inductive MT where
 | element | statement | block | decls | brackets | short | loop | tryM | expr | assign | cond | unary | first | object | primary
 | function (kind : Int) | maybe (stop : List UInt8) | list (stop : List UInt8) | binary (least : Int) | behind (x : List LN) (calls : Bool)
 | listL (stop : List UInt8) (out : List LN) (n : Nat) | parL (kind : Int) (text : List UInt8) (kids : List LN) (n : Nat) | funB (kind : Int) (text : List UInt8) (kids : List LN) (n : Nat)
 | bodL (kind : Int) (text : List UInt8) (kids : List LN) (n : Nat) (out : List LN) (m : Nat) | blkL (out : List LN) (n : Nat) | decL (out : List LN) (n : Nat)
 | exprL (x : List LN) | binL (least : Int) (x : List LN) | objL (out : List LN) (n : Nat) | progL (out : List LN) (n : Nat)
def bm (x : Option Mr) (k : Mr → Option Mr) : Option Mr := match x with
 | none => none
 | some r => k r
def rm (l : List LN) (s : Ss) : Option Mr := some ⟨l, 0, s⟩
def Ss.up (s : Ss) : Ss := ⟨s.i + 1, s.bad⟩
def propS (c : Cr) (s : Ss) : List UInt8 × Ss :=
 if (c.T s.i).kind = 1 ∨ (c.T s.i).kind = 2 ∨ (c.T s.i).kind = 4 then ((c.T s.i).text, s.up) else if (c.T s.i).kind = 3 then ((Bt.textI (c.T s.i).bits).data.toList, s.up) else ([], stopS c s)
section
variable (c : Cr) (rec : MT → Ss → Option Mr)
def bodyM : MT → Ss → Option Mr
 | .element, s => if isS c s [102, 117, 110, 99, 116, 105, 111, 110] then rec (.function 18) s.up else rec .statement s
 | .statement, s => if isS c s [123] then rec .block s else if isS c s [59] then rm (mkL 5 [] 0 []) s.up else if isS c s [102, 117, 110, 99, 116, 105, 111, 110] then rm [] (stopS c s) else if isS c s [118, 97, 114] then bm (rec .decls s.up) (fun x => rm x.l (needS c x.s [59])) else if isS c s [105, 102] then bm (rec .brackets s.up) (fun x => bm (rec .statement x.s) fun y => if isS c y.s [101, 108, 115, 101] then bm (rec .statement y.s.up) (fun z => rm (mkL 7 [] 3 (x.l ++ y.l ++ z.l)) z.s) else rm (mkL 7 [] 2 (x.l ++ y.l)) y.s) else if isS c s [119, 104, 105, 108, 101] then bm (rec .brackets s.up) (fun x => bm (rec .statement x.s) fun y => rm (mkL 8 [] 2 (x.l ++ y.l)) y.s) else if isS c s [100, 111] then bm (rec .statement s.up) (fun x => bm (rec .brackets (needS c x.s [119, 104, 105, 108, 101])) fun y => rm (mkL 9 [] 2 (x.l ++ y.l)) (needS c y.s [59])) else if isS c s [102, 111, 114] then rec .loop s.up else if isS c s [116, 114, 121] then rec .tryM s.up else rec .short s
 | .block, s => rec (.blkL [] 0) (needS c s [123])
 | .blkL out n, s => if s.bad < 0 then (if isS c s [125] then rm (mkL 2 [] n out) s.up else bm (rec .statement s) fun r => rec (.blkL (out ++ r.l) (n + 1)) r.s) else rm (mkL 2 [] n out) s
 | .decls, s => rec (.decL [] 0) s
 | .decL out n, s => if s.bad < 0 then (if isS c (nameS c s).2 [61] then bm (rec .assign (nameS c s).2.up) (fun r => if isS c r.s [44] then rec (.decL (out ++ mkL 4 (nameS c s).1 1 r.l) (n + 1)) r.s.up else rm (mkL 3 [] (n + 1) (out ++ mkL 4 (nameS c s).1 1 r.l)) r.s) else if isS c (nameS c s).2 [44] then rec (.decL (out ++ mkL 4 (nameS c s).1 0 []) (n + 1)) (nameS c s).2.up else rm (mkL 3 [] (n + 1) (out ++ mkL 4 (nameS c s).1 0 [])) (nameS c s).2) else rm (mkL 3 [] n out) s
 | .brackets, s => bm (rec .expr (needS c s [40])) fun x => rm x.l (needS c x.s [41])
 | .short, s => if isS c s [98, 114, 101, 97, 107] then rm (mkL 11 [] 0 []) (needS c s.up [59]) else if isS c s [99, 111, 110, 116, 105, 110, 117, 101] then rm (mkL 12 [] 0 []) (needS c s.up [59]) else if isS c s [114, 101, 116, 117, 114, 110] then (if isS c s.up [59] then rm (mkL 13 [] 0 []) s.up.up else bm (rec .expr s.up) fun x => rm (mkL 13 [] 1 x.l) (needS c x.s [59])) else if isS c s [116, 104, 114, 111, 119] then bm (rec .expr s.up) (fun x => rm (mkL 14 [] 1 x.l) (needS c x.s [59])) else bm (rec .expr s) fun x => rm (mkL 6 [] 1 x.l) (needS c x.s [59])
 | .maybe stop, s => if isS c s stop then rm (mkL 5 [] 0 []) s.up else bm (rec .expr s) fun x => rm x.l (needS c x.s stop)
 | .loop, s => bm (if isS c (needS c s [40]) [118, 97, 114] then bm (rec .decls (needS c s [40]).up) (fun x => rm x.l (needS c x.s [59])) else if isS c (needS c s [40]) [59] then rm (mkL 5 [] 0 []) (needS c s [40]).up else bm (rec .expr (needS c s [40])) fun x => rm (mkL 6 [] 1 x.l) (needS c x.s [59])) fun x => bm (rec (.maybe [59]) x.s) fun y => bm (rec (.maybe [41]) y.s) fun z => bm (rec .statement z.s) fun t => rm (mkL 10 [] 4 (x.l ++ y.l ++ z.l ++ t.l)) t.s
 | .tryM, s => bm (rec .block s) fun x => if isS c x.s [99, 97, 116, 99, 104] then bm (rec .block (needS c (nameS c (needS c x.s.up [40])).2 [41])) (fun y => if isS c y.s [102, 105, 110, 97, 108, 108, 121] then bm (rec .block (needS c y.s [102, 105, 110, 97, 108, 108, 121])) (fun z => rm (mkL 15 [] 3 (x.l ++ mkL 16 (nameS c (needS c x.s.up [40])).1 1 y.l ++ mkL 17 [] 1 z.l)) z.s) else rm (mkL 15 [] 2 (x.l ++ mkL 16 (nameS c (needS c x.s.up [40])).1 1 y.l)) y.s) else bm (rec .block (needS c x.s [102, 105, 110, 97, 108, 108, 121])) fun z => rm (mkL 15 [] 2 (x.l ++ mkL 17 [] 1 z.l)) z.s
 | .expr, s => bm (rec .assign s) fun x => rec (.exprL x.l) x.s
 | .exprL x, s => if isS c s [44] then bm (rec .assign s.up) (fun y => rec (.exprL (mkL 42 [] 2 (x ++ y.l))) y.s) else rm x s
 | .assign, s => bm (rec .cond s) fun x => if setsL.contains (fx (c.T x.s.i)) then (if tgM x.l then bm (rec .assign x.s.up) (fun y => rm (mkL 41 (fx (c.T x.s.i)) 2 (x.l ++ y.l)) y.s) else rm [] (stopS c x.s)) else rm x.l x.s
 | .cond, s => bm (rec (.binary 1) s) fun x => if isS c x.s [63] then bm (rec .assign x.s.up) (fun y => bm (rec .assign (needS c y.s [58])) fun z => rm (mkL 40 [] 3 (x.l ++ y.l ++ z.l)) z.s) else rm x.l x.s
 | .binary least, s => bm (rec .unary s) fun x => rec (.binL least x.l) x.s
 | .binL least x, s => if s.bad < 0 then (if levelI (fx (c.T s.i)) < least ∨ levelI (fx (c.T s.i)) = 0 then rm x s else bm (rec (.binary (levelI (fx (c.T s.i)) + 1)) s.up) fun y => rec (.binL least (mkL (if levelI (fx (c.T s.i)) ≤ 2 then 39 else 38) (fx (c.T s.i)) 2 (x ++ y.l))) y.s) else rm [] s
 | .unary, s => if prefixes.contains (fx (c.T s.i)) then bm (rec .unary s.up) (fun x => rm (mkL 36 (fx (c.T s.i)) 1 x.l) x.s) else if steps.contains (fx (c.T s.i)) then bm (rec .unary s.up) (fun x => if x.s.bad < 0 ∧ tgM x.l = false then rm [] (stopS c ⟨s.i, x.s.bad⟩) else rm (mkL 37 (fx (c.T s.i)) 1 x.l) x.s) else bm (rec .first s) fun f => bm (rec (.behind f.l true) f.s) fun x => if steps.contains (fx (c.T x.s.i)) then (if tgM x.l then rm (⟨37, 1, x.l.length + 1, fx (c.T x.s.i), 1⟩ :: x.l) x.s.up else rm [] (stopS c x.s)) else rm x.l x.s
 | .first, s => if isS c s [110, 101, 119] then bm (if isS c s.up [110, 101, 119] then rec .first s.up else bm (rec .primary s.up) fun p => rec (.behind p.l false) p.s) (fun x => if isS c x.s [40] then bm (rec (.list [41]) x.s.up) (fun l => rm (mkL 35 [] (1 + l.n) (x.l ++ l.l)) l.s) else rm (mkL 35 [] 1 x.l) x.s) else rec .primary s
 | .behind x calls, s => if s.bad < 0 then (if isS c s [46] then rec (.behind (mkL 32 (keyS c s.up).1 1 x) calls) (keyS c s.up).2 else if isS c s [91] then bm (rec .expr s.up) (fun y => rec (.behind (mkL 33 [] 2 (x ++ y.l)) calls) (needS c y.s [93])) else if calls = true ∧ isS c s [40] = true then bm (rec (.list [41]) s.up) (fun l => rec (.behind (mkL 34 [] (1 + l.n) (x ++ l.l)) calls) l.s) else rm x s) else rm [] s
 | .list stop, s => if isS c s stop then rm [] s.up else rec (.listL stop [] 0) s
 | .listL stop out n, s => if s.bad < 0 then bm (rec .assign s) (fun x => if isS c x.s stop then some ⟨out ++ x.l, n + 1, x.s.up⟩ else rec (.listL stop (out ++ x.l) (n + 1)) (needS c x.s [44])) else rm [] s
 | .object, s => if isS c s [125] then rm (mkL 29 [] 0 []) s.up else rec (.objL [] 0) s
 | .objL out n, s => if s.bad < 0 then bm (rec .assign (needS c (propS c s).2 [58])) (fun x => if isS c x.s [125] then rm (mkL 29 [] (n + 1) (out ++ mkL 30 (propS c s).1 1 x.l)) x.s.up else rec (.objL (out ++ mkL 30 (propS c s).1 1 x.l) (n + 1)) (needS c x.s [44])) else rm (mkL 29 [] n out) s
 | .primary, s => if isS c s [116, 104, 105, 115] then rm (mkL 26 [] 0 []) s.up else if isS c s [110, 117, 108, 108] then rm (mkL 25 [] 0 []) s.up else if isS c s [116, 114, 117, 101] then rm (mkL 23 [] 0 []) s.up else if isS c s [102, 97, 108, 115, 101] then rm (mkL 24 [] 0 []) s.up else if isS c s [40] then rec .brackets s else if isS c s [91] then bm (rec (.list [93]) s.up) (fun l => rm (mkL 28 [] l.n l.l) l.s) else if isS c s [123] then rec .object s.up else if isS c s [102, 117, 110, 99, 116, 105, 111, 110] then rec (.function 31) s.up else if (c.T s.i).kind = 1 then rm (mkL 27 (c.T s.i).text 0 []) s.up else if (c.T s.i).kind = 4 then rm (mkL 22 (c.T s.i).text 0 []) s.up else if (c.T s.i).kind = 3 then rm [⟨21, 0, 1, [], (c.T s.i).bits⟩] s.up else rm [] (stopS c s)
 | .function kind, s => if kind = 18 ∨ (c.T s.i).kind = 1 then (if isS c (needS c (nameS c s).2 [40]) [41] then rec (.funB kind (nameS c s).1 [] 0) (needS c (nameS c s).2 [40]).up else rec (.parL kind (nameS c s).1 [] 0) (needS c (nameS c s).2 [40])) else if isS c (needS c s [40]) [41] then rec (.funB kind [] [] 0) (needS c s [40]).up else rec (.parL kind [] [] 0) (needS c s [40])
 | .parL kind text kids n, s => if s.bad < 0 then (if isS c (nameS c s).2 [41] then rec (.funB kind text (kids ++ mkL 19 (nameS c s).1 0 []) (n + 1)) (nameS c s).2.up else rec (.parL kind text (kids ++ mkL 19 (nameS c s).1 0 []) (n + 1)) (needS c (nameS c s).2 [44])) else rec (.funB kind text kids n) s
 | .funB kind text kids n, s => rec (.bodL kind text kids n [] 0) (needS c s [123])
 | .bodL kind text kids n out m, s => if s.bad < 0 then (if isS c s [125] then rm (mkL kind text (n + 1) (kids ++ mkL 20 [] m out)) s.up else bm (rec .element s) fun r => rec (.bodL kind text kids n (out ++ r.l) (m + 1)) r.s) else rm (mkL kind text (n + 1) (kids ++ mkL 20 [] m out)) s
 | .progL out n, s => if s.bad < 0 ∧ s.i < c.ts.length then bm (rec .element s) (fun r => rec (.progL (out ++ r.l) (n + 1)) r.s) else some ⟨out, n, s⟩
end
def M (c : Cr) : Nat → MT → Ss → Option Mr
 | 0 => fun _ _ => none
 | n + 1 => bodyM c (M c n)
/- With more fuel the same comes out. -/
def Lm (x y : Option Mr) : Prop := ∀ r, x = some r → y = some r
def MD (c : Cr) (t : MT) (s : Ss) (r : Mr) : Prop := ∃ n, ∀ m, n ≤ m → M c m t s = some r
theorem MD.det {c : Cr} {t : MT} {s : Ss} {r r' : Mr} (h : MD c t s r) (h' : MD c t s r') : r = r' := by
 obtain ⟨n, h⟩ := h
 obtain ⟨m, h'⟩ := h'
 have h1 := h (n + m) (by omega)
 rw [h' (n + m) (by omega)] at h1
 injection h1 with h1; exact h1.symm
theorem MD.mk {c : Cr} {t : MT} {s : Ss} {r : Mr} (h : ∃ n, ∀ m, n ≤ m → bodyM c (M c m) t s = some r) : MD c t s r := by
 obtain ⟨n, h⟩ := h
 refine ⟨n + 1, fun m hm => ?_⟩
 obtain ⟨k, rfl⟩ : ∃ k, m = k + 1 := ⟨m - 1, by omega⟩
 exact h k (by omega)
theorem MD.mk0 {c : Cr} {t : MT} {s : Ss} {r : Mr} (h : ∀ m, bodyM c (M c m) t s = some r) : MD c t s r := MD.mk ⟨0, fun m _ => h m⟩
theorem MD.mk1 {c : Cr} {t a : MT} {s sa : Ss} {r ra : Mr} (ha : MD c a sa ra) (h : ∀ m, M c m a sa = some ra → bodyM c (M c m) t s = some r) : MD c t s r := by
 obtain ⟨n, ha⟩ := ha
 exact MD.mk ⟨n, fun m hm => h m (ha m hm)⟩
theorem MD.mk2 {c : Cr} {t a b : MT} {s sa sb : Ss} {r ra rb : Mr} (ha : MD c a sa ra) (hb : MD c b sb rb) (h : ∀ m, M c m a sa = some ra → M c m b sb = some rb → bodyM c (M c m) t s = some r) : MD c t s r := by
 obtain ⟨n, ha⟩ := ha
 obtain ⟨k, hb⟩ := hb
 exact MD.mk ⟨n + k, fun m hm => h m (ha m (by omega)) (hb m (by omega))⟩
end Go.Proofs.YtnkfodelgpidkaaGreatDoor
