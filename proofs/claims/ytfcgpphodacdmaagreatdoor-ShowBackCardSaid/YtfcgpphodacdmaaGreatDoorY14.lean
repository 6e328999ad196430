/- Part of a proof: contracts of functions. -/
import Derived.Test.YtfcgpphodacdmaaGreatDoorY11
import Derived.Test.YtfcgpphodacdmaaGreatDoorY13
import Derived.Test.YtfcgpphodacdmaaGreatDoorY5
set_option maxRecDepth 100000
set_option maxHeartbeats 4000000
set_option linter.all false
namespace Go.Proofs.YtfcgpphodacdmaaGreatDoor
open Go.RowKit
section
structure Cx where
 b : Nat
 g : Nat
 cap : Nat
 o : Obj
 ts : List Tk
 E : Int
 w0 : World
def Cx.T (c : Cx) (k : Nat) : Tk := hd c.E (c.ts.drop k)
structure Cx.ok (c : Cx) : Prop where
 ne : c.b ≠ c.g
 few : c.ts.length ≤ 5000
 cells : ∀ w : World, w.heap[c.g]? = some c.o → ∀ k, k ≤ c.ts.length → w.cell? ⟨c.g, k * 4, none⟩ = some (.int .i64 (c.T k).kind) ∧ w.cell? ⟨c.g, k * 4 + 1, none⟩ = some (.int .i64 (c.T k).pos) ∧ w.cell? ⟨c.g, k * 4 + 2, none⟩ = some (.string (bs (c.T k).text)) ∧ w.cell? ⟨c.g, k * 4 + 3, none⟩ = some (.int .u64 (c.T k).bits)
 bits : ∀ t ∈ c.ts, 0 ≤ t.bits ∧ t.bits < 18446744073709551616
 old : c.w0.heap.size ≤ c.b
 tab : Bt.tab c.w0
structure In (c : Cx) (w : World) (k : Nat) : Prop where
 rd : w.heap[c.b]? = some (.cells #[.slice (some ⟨c.g, 0, none⟩) (c.ts.length + 1) c.cap, .int .i64 (k : Int)] 62 (0, 0))
 row : w.heap[c.g]? = some c.o
 le : k ≤ c.ts.length
 ok : c.ok
 base : Below c.w0.heap.size c.w0 w
section
variable {c : Cx} {w w' : World} {k : Nat}
theorem xT {w : World} {i : Nat} {o : Obj} (h : w.heap[i]? = some o) : i < w.heap.size := by
 rcases Nat.lt_or_ge i w.heap.size with hlt | hge
 ·exact hlt
 ·rw [Array.getElem?_eq_none hge] at h; cases h
theorem In.lt (h : In c w k) : c.b < w.heap.size := xT h.rd
theorem In.ltg (h : In c w k) : c.g < w.heap.size := xT h.row
theorem In.c0 (h : In c w k) : w.cell? ⟨c.b, 0, none⟩ = some (.slice (some ⟨c.g, 0, none⟩) (c.ts.length + 1) c.cap) := by have := h.rd; simp [World.cell?, this]
theorem In.c1 (h : In c w k) : w.cell? ⟨c.b, 1, none⟩ = some (.int .i64 (k : Int)) := by have := h.rd; simp [World.cell?, this]
theorem In.fz (h : In c w k) (i : Nat) : w.frozen? ⟨c.b, i, none⟩ = false := by have := h.rd; simp [World.frozen?, this]
theorem In.t0 (h : In c w k) : w.cell? ⟨c.g, k * 4, none⟩ = some (.int .i64 (c.T k).kind) := (h.ok.cells w h.row k h.le).1
theorem In.t1 (h : In c w k) : w.cell? ⟨c.g, k * 4 + 1, none⟩ = some (.int .i64 (c.T k).pos) := (h.ok.cells w h.row k h.le).2.1
theorem In.t2 (h : In c w k) : w.cell? ⟨c.g, k * 4 + 2, none⟩ = some (.string (bs (c.T k).text)) := (h.ok.cells w h.row k h.le).2.2.1
theorem In.t3 (h : In c w k) : w.cell? ⟨c.g, k * 4 + 3, none⟩ = some (.int .u64 (c.T k).bits) := (h.ok.cells w h.row k h.le).2.2.2
theorem In.below (h : In c w k) (hb : Below w.heap.size w w') : In c w' k := ⟨(hb.block _ h.lt).trans h.rd, (hb.block _ h.ltg).trans h.row, h.le, h.ok, zY h.base hb h.base.size⟩
theorem In.tab (h : In c w k) : Bt.tab w := Bt.tab_below h.ok.tab h.base
theorem In.next (h : In c w k) {j : Nat} (hj : j ≤ c.ts.length) : In c (w.setCell ⟨c.b, 1, none⟩ (.int .i64 (j : Int))) j := by
 refine ⟨?_, (Below.heap_setCell w _ _ c.g (Ne.symm h.ok.ne)).trans h.row, hj, h.ok, h.base.setCell (p := ⟨c.b, 1, none⟩) h.ok.old _⟩;have := h.rd;simp [World.setCell, Array.getElem?_modify, this]
end
theorem zqr {c : Cx} {k : Nat} (h : k < c.ts.length) : c.T k = c.ts[k] := by
 unfold Cx.T hd; rw [List.drop_eq_getElem_cons h]; rfl
theorem zgn {c : Cx} : c.T c.ts.length = ⟨0, c.E, [], 0⟩ := by unfold Cx.T hd; rw [List.drop_length]; rfl
theorem yo {c : Cx} {k : Nat} (hk : k ≤ c.ts.length) (h : fx (c.T k) ≠ []) : k < c.ts.length := by
 rcases Nat.lt_or_ge k c.ts.length with h1 | h1
 ·exact h1
 ·exfalso; apply h
  have e : k = c.ts.length := by omega
  rw [e, zgn]; rfl
theorem ua {c : Cx} {k : Nat} (hk : k ≤ c.ts.length) (h : (c.T k).kind ≠ 0) : k < c.ts.length := by
 rcases Nat.lt_or_ge k c.ts.length with h1 | h1
 ·exact h1
 ·exfalso; apply h
  have e : k = c.ts.length := by omega
  rw [e, zgn]
theorem tail_drop (l : List Tk) (k : Nat) : (l.drop k).tail = l.drop (k + 1) := by rw [List.tail_drop]
theorem zmK {c : Cx} (hc : c.ok) {k : Nat} (hk : k ≤ c.ts.length) : 0 ≤ (c.T k).bits ∧ (c.T k).bits < 18446744073709551616 := by
 rcases Nat.lt_or_ge k c.ts.length with h1 | h1
 ·rw [zqr h1]; exact hc.bits _ (List.getElem_mem h1)
 ·have e : k = c.ts.length := by omega
  rw [e, zgn]; exact ⟨Int.le_refl 0, by show (0 : Int) < _; omega⟩
def tkW (t : Tk) : Value := .agg #[.int .i64 t.kind, .int .i64 t.pos, .string (bs t.text), .int .u64 t.bits]
theorem zjb {wf : World} {g : Nat} {x0 x1 x2 x3 : Value} (h : B4 wf g x0 x1 x2 x3) (tmps : Array Value) (ht : tmps[2]?.getD undef = .pointer (some ⟨g, 0, none⟩)) :
  (results Tryz.f135 tmps).run Tryz.prog wf = .ok (.agg #[x0, x1, x2, x3]) wf := by
 have e0 := h.c0;have e1 := h.c1;have e2 := h.c2;have e3 := h.c3;simp [results, Tryz.results135, go_sem, ht, e0, e1, e2, e3]
theorem qO (c : Cx) (k : Nat) (w : World) (h : In c w k) :
  Calls Tryz.prog 135 #[.pointer (some ⟨c.b, 0, none⟩)] w fun e w' => e = .returned (tkW (c.T k)) ∧ Below w.heap.size w w' := by
 have H := za h;have hk := h.le;have hf := h.ok.few;have hki : (k : Int) < ((c.ts.length : Int) + 1) := by omega
 clear h
 go_enter Tryz.func135, Tryz.ntmps135
 go_wp2_with fail;refine zaN 10 (by kernel_rfl) (by kernel_rfl) ?_;simp only [List.take_succ_cons, List.take_zero, List.drop_succ_cons, List.drop_zero];have HBW : Hid (Below w.heap.size w (w.alloc (.cells #[.int .i64 0, .int .i64 0, .string ⟨#[]⟩, .int .u64 0] 60)).drew) := ((ze w.heap.size w).alloc (zd _) _).drew;have HB4 : Hid (B4 (w.alloc (.cells #[.int .i64 0, .int .i64 0, .string ⟨#[]⟩, .int .u64 0] 60)).drew w.heap.size (.int .i64 0) (.int .i64 0) (.string ⟨#[]⟩) (.int .u64 0)) := B4.new w _ _ _ _;generalize (w.alloc (.cells #[.int .i64 0, .int .i64 0, .string ⟨#[]⟩, .int .u64 0] 60)).drew = wq at *;have HQ := za (H.out.below HBW.out);have c0 := HQ.out.c0;have c1 := HQ.out.c1;have t0 := HQ.out.t0;have t1 := HQ.out.t1;have t2 := HQ.out.t2;have t3 := HQ.out.t3;have b0 := HB4.out.c0;have b1 := HB4.out.c1;have b2 := HB4.out.c2;have b3 := HB4.out.c3;have fb := HB4.out.fz;generalize hT : c.T k = t at *;obtain ⟨tk, tp, tx, tb⟩ := t;have HT := za hT;simp only at t0 t1 t2 t3;clear hT H
 repeat still_step
 refine wpStill_nil ?_;go_wp2_with fail;refine bodyPost_ret (zjb ((((HB4.out.s0 _).s1 _).s2 _).s3 _) _ rfl) rfl ⟨by rw [HT.out]; rfl, (((HBW.out.setCell (p := ⟨w.heap.size, 0, none⟩) (zd _) _).setCell (p := ⟨w.heap.size, 1, none⟩) (zd _) _).setCell (p := ⟨w.heap.size, 2, none⟩) (zd _) _).setCell (p := ⟨w.heap.size, 3, none⟩) (zd _) _⟩
theorem qJ (c : Cx) (k : Nat) (w : World) (h : In c w k) :
  Calls Tryz.prog 137 #[.pointer (some ⟨c.b, 0, none⟩)] w fun e w' => e = .returned (.string (bs (fx (c.T k)))) ∧ Below w.heap.size w w' := by
 have T := za (fun w1 (hb : Below w.heap.size w w1) => qO c k w1 (h.below hb));unfold tkW at T;generalize c.T k = t at *;obtain ⟨tk, tp, tx, tb⟩ := t;clear h;have HF : Hid (fx ⟨tk, tp, tx, tb⟩ = if tk = 2 ∨ tk = 5 then tx else []) := rfl;have HK : tk = 2 ∨ tk = 5 ∨ ((tk == 2) = false ∧ (tk == 5) = false) := by simp only [zb]; omega
 rcases HK with rfl | rfl | ⟨k2, k5⟩
 ·go_enter Tryz.func137, Tryz.ntmps137
  go_wp2_with fail;refine (T.out _ (ze _ _)).mono ?_; rintro e w1 ⟨rfl, hB1⟩;go_wp2_with fail;go_ret;exact ⟨by rw [HF.out]; rfl, hB1.alloc hB1.size _⟩
 ·go_enter Tryz.func137, Tryz.ntmps137
  go_wp2_with fail;refine (T.out _ (ze _ _)).mono ?_; rintro e w1 ⟨rfl, hB1⟩;go_wp2_with fail;go_ret;exact ⟨by rw [HF.out]; rfl, hB1.alloc hB1.size _⟩
 ·have HF2 : Hid (fx ⟨tk, tp, tx, tb⟩ = []) := by
   simp only [zb] at k2 k5;show _ = _; rw [HF.out, if_neg (by omega)]
  go_enter Tryz.func137, Tryz.ntmps137
  go_wp2_with fail;refine (T.out _ (ze _ _)).mono ?_; rintro e w1 ⟨rfl, hB1⟩;go_wp2_with fail;go_ret;exact ⟨by rw [HF2.out]; rfl, hB1.alloc hB1.size _⟩
end
def Cx.R (c : Cx) (k : Nat) : List Tk := c.ts.drop k
theorem zI (c : Cx) (k : Nat) : hd c.E (c.R k) = c.T k := rfl
theorem zq (c : Cx) (k : Nat) : (c.R k).tail = c.R (k + 1) := tail_drop _ _
theorem zr (c : Cx) (s : List UInt8) (k : Nat) : isF c.E s (c.R k) = (fx (c.T k) == s) := rfl
def zu (p : Int) : Ending := .panicked [{ v := .iface 58 (.agg #[.int .i64 p]), recovered := false }]
theorem znz (x : List UInt8) (s : ByteArray) : ((bs x).toList == s.toList) = (x == s.data.toList) := by rw [Lib.toList_data, Lib.toList_data]; rfl
theorem zeq (c : Cx) (k : Nat) (s : ByteArray) (w : World) (h : In c w k) :
  Calls Tryz.prog 130 #[.pointer (some ⟨c.b, 0, none⟩), .string s] w fun e w' => e = .returned (.bool (isF c.E s.data.toList (c.R k))) ∧ Below w.heap.size w w' := by
 have T := za (qJ c k w h);rw [zr, ← znz];generalize bs (fx (c.T k)) = x at *
 go_enter Tryz.func130, Tryz.ntmps130
 go_wp2_with fail;refine T.out.mono ?_; rintro e w1 ⟨rfl, hB1⟩;go_wp2_with fail;go_ret;exact ⟨rfl, hB1⟩
def Go1 (c : Cx) (w w' : World) (k : Nat) : Prop := In c w' k ∧ Off c.b w w'
theorem zaG {c : Cx} {k : Nat} {s : List UInt8} (hk : k ≤ c.ts.length) (hs : s ≠ []) (h : isF c.E s (c.R k) = true) : k < c.ts.length := by
 refine yo hk ?_;rw [zr, beq_iff_eq] at h;rw [h]; exact hs
theorem xB (c : Cx) (k : Nat) (s : ByteArray) (hs : s.data.toList ≠ []) (w : World) (h : In c w k) (hq : isF c.E s.data.toList (c.R k) = true) :
  Calls Tryz.prog 92 #[.pointer (some ⟨c.b, 0, none⟩), .string s] w fun e w' => e = .returned (.bool true) ∧ Go1 c w w' (k + 1) := by
 have T := za (zeq c k s w h);have hk := zaG h.le hs hq;have hf := h.ok.few;rw [hq] at T;have H := za h;clear h hq
 go_enter Tryz.func92, Tryz.ntmps92
 go_wp2_with fail;refine T.out.mono ?_; rintro e w1 ⟨rfl, hB1⟩;have H1 := za (H.out.below hB1);have HO := za ((Off.refl c.b w).below hB1);have c1 := H1.out.c1;have f1 := H1.out.fz 1;clear hB1;go_wp2_with fail;go_ret;exact ⟨rfl, H1.out.next (j := k + 1) (by omega), HO.out.set 1 _⟩
theorem xV (c : Cx) (k : Nat) (s : ByteArray) (w : World) (h : In c w k) (hq : isF c.E s.data.toList (c.R k) = false) :
  Calls Tryz.prog 92 #[.pointer (some ⟨c.b, 0, none⟩), .string s] w fun e w' => e = .returned (.bool false) ∧ Below w.heap.size w w' := by
 have T := za (zeq c k s w h);rw [hq] at T;clear h hq
 go_enter Tryz.func92, Tryz.ntmps92
 go_wp2_with fail;refine T.out.mono ?_; rintro e w1 ⟨rfl, hB1⟩;go_wp2_with fail;go_ret;exact ⟨rfl, hB1⟩
theorem qV (c : Cx) (k : Nat) (w : World) (h : In c w k) :
  Calls Tryz.prog 136 #[.pointer (some ⟨c.b, 0, none⟩)] w fun e w' => e = zu (c.T k).pos ∧ Below w.heap.size w w' := by
 have T := za (qO c k w h);unfold tkW at T;generalize c.T k = t at *;obtain ⟨tk, tp, tx, tb⟩ := t;have hfl : ∀ w, (Instr.field 60 (.agg #[.int .i64 tk, .int .i64 tp, .string (bs tx), .int .u64 tb]) 1).run Tryz.prog w = .ok (.int .i64 tp) w := fun _ => rfl
 go_enter Tryz.func136, Tryz.ntmps136
 go_wp2_with fail;refine T.out.mono ?_; rintro e w1 ⟨rfl, hB1⟩;go_wp2_with fail;exact zf rfl ⟨rfl, hB1⟩
theorem ye (c : Cx) (k : Nat) (s : ByteArray) (hs : s.data.toList ≠ []) (w : World) (h : In c w k) (hq : isF c.E s.data.toList (c.R k) = true) :
  Calls Tryz.prog 131 #[.pointer (some ⟨c.b, 0, none⟩), .string s] w fun e w' => e = .returned (.tuple #[]) ∧ Go1 c w w' (k + 1) := by
 have T := za (xB c k s hs w h hq);clear h hq
 go_enter Tryz.func131, Tryz.ntmps131
 go_wp2_with fail;refine T.out.mono ?_; rintro e w1 ⟨rfl, hG⟩;go_wp2_with fail
 go_end0
 exact ⟨rfl, hG⟩
theorem ym (c : Cx) (k : Nat) (s : ByteArray) (w : World) (h : In c w k) (hq : isF c.E s.data.toList (c.R k) = false) :
  Calls Tryz.prog 131 #[.pointer (some ⟨c.b, 0, none⟩), .string s] w fun e w' => e = zu (c.T k).pos ∧ Below w.heap.size w w' := by
 have T := za (xV c k s w h hq);have G := za (fun w1 (hb : Below w.heap.size w w1) => qV c k w1 (h.below hb));unfold zu at G ⊢;clear h hq
 go_enter Tryz.func131, Tryz.ntmps131
 go_wp2_with fail;refine T.out.mono ?_; rintro e w1 ⟨rfl, hB1⟩;go_wp2_with fail;refine (G.out _ hB1).mono ?_; rintro e w2 ⟨rfl, hB2⟩;go_wp2_with fail;exact zf rfl ⟨rfl, zY hB1 hB2 hB1.size⟩
theorem uv (c : Cx) (k : Nat) (w : World) (h : In c w k) (hq : (c.T k).kind = 1) :
  Calls Tryz.prog 94 #[.pointer (some ⟨c.b, 0, none⟩)] w fun e w' => e = .returned (.string (bs (c.T k).text)) ∧ Go1 c w w' (k + 1) := by
 have T := za (qO c k w h);have hk := ua h.le (by rw [hq]; decide);have hf := h.ok.few;have H := za h;unfold tkW at T;generalize c.T k = t at *;obtain ⟨tk, tp, tx, tb⟩ := t;simp only at hq;subst hq;clear h
 go_enter Tryz.func94, Tryz.ntmps94
 go_wp2_with fail;refine T.out.mono ?_; rintro e w1 ⟨rfl, hB1⟩;have hba := hB1.alloc hB1.size (.cells #[.int .i64 1, .int .i64 tp, .string (bs tx), .int .u64 tb] 60);have H1 := za (H.out.below hba);have HO := za ((Off.refl c.b w).below hba);have c1 := H1.out.c1;have f1 := H1.out.fz 1;clear hba;go_wp2_with fail;go_ret;exact ⟨rfl, H1.out.next (j := k + 1) (by omega), HO.out.set 1 _⟩
theorem uY (c : Cx) (k : Nat) (w : World) (h : In c w k) (hq : ¬ (c.T k).kind = 1) :
  Calls Tryz.prog 94 #[.pointer (some ⟨c.b, 0, none⟩)] w fun e w' => e = zu (c.T k).pos ∧ Below w.heap.size w w' := by
 have T := za (qO c k w h);have G := za (fun w1 (hb : Below w.heap.size w w1) => qV c k w1 (h.below hb));unfold tkW at T;unfold zu at G ⊢;generalize c.T k = t at *;obtain ⟨tk, tp, tx, tb⟩ := t;have hk1 : (tk == 1) = false := by rw [zb]; exact hq
 clear h hq
 go_enter Tryz.func94, Tryz.ntmps94
 go_wp2_with fail;refine T.out.mono ?_; rintro e w1 ⟨rfl, hB1⟩;have HBA := za (hB1.alloc hB1.size (.cells #[.int .i64 tk, .int .i64 tp, .string (bs tx), .int .u64 tb] 60));clear hB1;go_wp2_with fail;refine (G.out _ HBA.out).mono ?_; rintro e w2 ⟨rfl, hB2⟩;go_wp2_with fail;exact zf rfl ⟨rfl, zY HBA.out hB2 HBA.out.size⟩
theorem zer (c : Cx) (k : Nat) (w : World) (h : In c w k) (hq : (c.T k).kind = 1 ∨ (c.T k).kind = 2) :
  Calls Tryz.prog 229 #[.pointer (some ⟨c.b, 0, none⟩)] w fun e w' => e = .returned (.string (bs (c.T k).text)) ∧ Go1 c w w' (k + 1) := by
 have T := za (qO c k w h);have hk := ua h.le (by omega);have hf := h.ok.few;have H := za h;unfold tkW at T;generalize c.T k = t at *;obtain ⟨tk, tp, tx, tb⟩ := t;simp only at hq;clear h;rcases hq with rfl | rfl
 ·go_enter Tryz.func229, Tryz.ntmps229
  go_wp2_with fail;refine T.out.mono ?_; rintro e w1 ⟨rfl, hB1⟩;have hba := hB1.alloc hB1.size (.cells #[.int .i64 1, .int .i64 tp, .string (bs tx), .int .u64 tb] 60);have H1 := za (H.out.below hba);have HO := za ((Off.refl c.b w).below hba);have c1 := H1.out.c1;have f1 := H1.out.fz 1;clear hba;go_wp2_with fail;go_ret;exact ⟨rfl, H1.out.next (j := k + 1) (by omega), HO.out.set 1 _⟩
 ·go_enter Tryz.func229, Tryz.ntmps229
  go_wp2_with fail;refine T.out.mono ?_; rintro e w1 ⟨rfl, hB1⟩;have hba := hB1.alloc hB1.size (.cells #[.int .i64 2, .int .i64 tp, .string (bs tx), .int .u64 tb] 60);have H1 := za (H.out.below hba);have HO := za ((Off.refl c.b w).below hba);have c1 := H1.out.c1;have f1 := H1.out.fz 1;clear hba;go_wp2_with fail;go_ret;exact ⟨rfl, H1.out.next (j := k + 1) (by omega), HO.out.set 1 _⟩
end Go.Proofs.YtfcgpphodacdmaaGreatDoor
