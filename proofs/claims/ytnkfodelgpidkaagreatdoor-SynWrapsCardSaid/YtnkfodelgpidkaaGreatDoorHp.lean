/- The reader of trees in memory: its block, the tokens' row, and the nodes. -/
import Derived.Test.YtnkfodelgpidkaaGreatDoorSp
import Derived.Test.YtnkfodelgpidkaaGreatDoorML3
import Derived.Test.YtnkfodelgpidkaaGreatDoorMB2
namespace Go.Proofs.YtnkfodelgpidkaaGreatDoor
open Go.RowKit
set_option linter.unusedVariables false

/-- The reader's block, the tokens' row, the tokens, the source's length. -/
structure Cx where
  b : Nat
  g : Nat
  cap : Nat
  o : Obj
  ts : List Tk
  E : Int
  w0 : World
/-- The token that stands at a place. -/
def Cx.T (c : Cx) (k : Nat) : Tk := hd c.E (c.ts.drop k)
/-- What the row holds, in whatever world it stands as it was. -/
structure Cx.ok (c : Cx) : Prop where
  ne : c.b ≠ c.g
  few : c.ts.length ≤ 5000
  cells : ∀ w : World, w.heap[c.g]? = some c.o → ∀ k, k ≤ c.ts.length → w.cell? ⟨c.g, k * 4, none⟩ = some (.int .i64 (c.T k).kind) ∧ w.cell? ⟨c.g, k * 4 + 1, none⟩ = some (.int .i64 (c.T k).pos) ∧ w.cell? ⟨c.g, k * 4 + 2, none⟩ = some (.string (bs (c.T k).text)) ∧ w.cell? ⟨c.g, k * 4 + 3, none⟩ = some (.int .u64 (c.T k).bits)
  bits : ∀ t ∈ c.ts, 0 ≤ t.bits ∧ t.bits < 18446744073709551616
  old : c.w0.heap.size ≤ c.b
  tab : Bt.tab c.w0
/-- The reader stands at the place k. -/
structure In (c : Cx) (w : World) (k : Nat) : Prop where
  rd : w.heap[c.b]? = some (.cells #[.slice (some ⟨c.g, 0, none⟩) (c.ts.length + 1) c.cap, .int .i64 (k : Int)] 58 (0, 0))
  row : w.heap[c.g]? = some c.o
  le : k ≤ c.ts.length
  ok : c.ok
  base : Below c.w0.heap.size c.w0 w
section
variable {c : Cx} {w w' : World} {k : Nat}
theorem lt_of_get {w : World} {i : Nat} {o : Obj} (h : w.heap[i]? = some o) : i < w.heap.size := by
  rcases Nat.lt_or_ge i w.heap.size with hlt | hge
  · exact hlt
  · rw [Array.getElem?_eq_none hge] at h; cases h
theorem In.lt (h : In c w k) : c.b < w.heap.size := lt_of_get h.rd
theorem In.ltg (h : In c w k) : c.g < w.heap.size := lt_of_get h.row
theorem In.c0 (h : In c w k) : w.cell? ⟨c.b, 0, none⟩ = some (.slice (some ⟨c.g, 0, none⟩) (c.ts.length + 1) c.cap) := by have := h.rd; simp [World.cell?, this]
theorem In.c1 (h : In c w k) : w.cell? ⟨c.b, 1, none⟩ = some (.int .i64 (k : Int)) := by have := h.rd; simp [World.cell?, this]
theorem In.fz (h : In c w k) (i : Nat) : w.frozen? ⟨c.b, i, none⟩ = false := by have := h.rd; simp [World.frozen?, this]
theorem In.t0 (h : In c w k) : w.cell? ⟨c.g, k * 4, none⟩ = some (.int .i64 (c.T k).kind) := (h.ok.cells w h.row k h.le).1
theorem In.t1 (h : In c w k) : w.cell? ⟨c.g, k * 4 + 1, none⟩ = some (.int .i64 (c.T k).pos) := (h.ok.cells w h.row k h.le).2.1
theorem In.t2 (h : In c w k) : w.cell? ⟨c.g, k * 4 + 2, none⟩ = some (.string (bs (c.T k).text)) := (h.ok.cells w h.row k h.le).2.2.1
theorem In.t3 (h : In c w k) : w.cell? ⟨c.g, k * 4 + 3, none⟩ = some (.int .u64 (c.T k).bits) := (h.ok.cells w h.row k h.le).2.2.2
theorem In.below (h : In c w k) (hb : Below w.heap.size w w') : In c w' k := ⟨(hb.block _ h.lt).trans h.rd, (hb.block _ h.ltg).trans h.row, h.le, h.ok, below_trans h.base hb h.base.size⟩
theorem In.tab (h : In c w k) : Bt.tab w := Bt.tab_below h.ok.tab h.base
theorem In.next (h : In c w k) {j : Nat} (hj : j ≤ c.ts.length) : In c (w.setCell ⟨c.b, 1, none⟩ (.int .i64 (j : Int))) j := by
  refine ⟨?_, (Below.heap_setCell w _ _ c.g (Ne.symm h.ok.ne)).trans h.row, hj, h.ok, h.base.setCell (p := ⟨c.b, 1, none⟩) h.ok.old _⟩
  have := h.rd
  simp [World.setCell, Array.getElem?_modify, this]
end
theorem T_at {c : Cx} {k : Nat} (h : k < c.ts.length) : c.T k = c.ts[k] := by
  unfold Cx.T hd; rw [List.drop_eq_getElem_cons h]; rfl
theorem T_end {c : Cx} : c.T c.ts.length = ⟨0, c.E, [], 0⟩ := by unfold Cx.T hd; rw [List.drop_length]; rfl
theorem fx_in {c : Cx} {k : Nat} (hk : k ≤ c.ts.length) (h : fx (c.T k) ≠ []) : k < c.ts.length := by
  rcases Nat.lt_or_ge k c.ts.length with h1 | h1
  · exact h1
  · exfalso; apply h
    have e : k = c.ts.length := by omega
    rw [e, T_end]; rfl
theorem kind_in {c : Cx} {k : Nat} (hk : k ≤ c.ts.length) (h : (c.T k).kind ≠ 0) : k < c.ts.length := by
  rcases Nat.lt_or_ge k c.ts.length with h1 | h1
  · exact h1
  · exfalso; apply h
    have e : k = c.ts.length := by omega
    rw [e, T_end]
theorem tail_drop (l : List Tk) (k : Nat) : (l.drop k).tail = l.drop (k + 1) := by rw [List.tail_drop]
theorem T_bits {c : Cx} (hc : c.ok) {k : Nat} (hk : k ≤ c.ts.length) : 0 ≤ (c.T k).bits ∧ (c.T k).bits < 18446744073709551616 := by
  rcases Nat.lt_or_ge k c.ts.length with h1 | h1
  · rw [T_at h1]; exact hc.bits _ (List.getElem_mem h1)
  · have e : k = c.ts.length := by omega
    rw [e, T_end]; exact ⟨Int.le_refl 0, by show (0 : Int) < _; omega⟩

def tkW (t : Tk) : Value := .agg #[.int .i64 t.kind, .int .i64 t.pos, .string (bs t.text), .int .u64 t.bits]

theorem stok_res {wf : World} {g : Nat} {x0 x1 x2 x3 : Value} (h : B4 wf g x0 x1 x2 x3) (tmps : Array Value) (ht : tmps[2]?.getD undef = .pointer (some ⟨g, 0, none⟩)) :
    (results Tryz.f147 tmps).run Tryz.prog wf = .ok (.agg #[x0, x1, x2, x3]) wf := by
  have e0 := h.c0
  have e1 := h.c1
  have e2 := h.c2
  have e3 := h.c3
  simp [results, Tryz.results147, go_sem, ht, e0, e1, e2, e3]

set_option maxRecDepth 100000 in
set_option maxHeartbeats 1000000 in
theorem stoken_any (c : Cx) (k : Nat) (w : World) (h : In c w k) :
    Calls Tryz.prog 147 #[.pointer (some ⟨c.b, 0, none⟩)] w fun e w' => e = .returned (tkW (c.T k)) ∧ Below w.heap.size w w' := by
  have H := Lib.hid h
  have hk := h.le
  have hf := h.ok.few
  have hki : (k : Int) < ((c.ts.length : Int) + 1) := by omega
  clear h
  go_enter Tryz.func147, Tryz.ntmps147
  go_wp2_with fail
  refine wp_tail 10 (by kernel_rfl) (by kernel_rfl) ?_
  simp only [List.take_succ_cons, List.take_zero, List.drop_succ_cons, List.drop_zero]
  have HBW : Hid (Below w.heap.size w (w.alloc (.cells #[.int .i64 0, .int .i64 0, .string ⟨#[]⟩, .int .u64 0] 42)).drew) := ((Below.refl w.heap.size w).alloc (Nat.le_refl _) _).drew
  have HB4 : Hid (B4 (w.alloc (.cells #[.int .i64 0, .int .i64 0, .string ⟨#[]⟩, .int .u64 0] 42)).drew w.heap.size (.int .i64 0) (.int .i64 0) (.string ⟨#[]⟩) (.int .u64 0)) := B4.new w _ _ _ _
  generalize (w.alloc (.cells #[.int .i64 0, .int .i64 0, .string ⟨#[]⟩, .int .u64 0] 42)).drew = wq at *
  have HQ := Lib.hid (H.out.below HBW.out)
  have c0 := HQ.out.c0
  have c1 := HQ.out.c1
  have t0 := HQ.out.t0
  have t1 := HQ.out.t1
  have t2 := HQ.out.t2
  have t3 := HQ.out.t3
  have b0 := HB4.out.c0
  have b1 := HB4.out.c1
  have b2 := HB4.out.c2
  have b3 := HB4.out.c3
  have fb := HB4.out.fz
  generalize hT : c.T k = t at *
  obtain ⟨tk, tp, tx, tb⟩ := t
  have HT := Lib.hid hT
  simp only at t0 t1 t2 t3
  clear hT H
  repeat still_step
  refine wpStill_nil ?_
  go_wp2_with fail
  refine bodyPost_ret (stok_res ((((HB4.out.s0 _).s1 _).s2 _).s3 _) _ rfl) rfl ⟨by rw [HT.out]; rfl, (((HBW.out.setCell (p := ⟨w.heap.size, 0, none⟩) (Nat.le_refl _) _).setCell (p := ⟨w.heap.size, 1, none⟩) (Nat.le_refl _) _).setCell (p := ⟨w.heap.size, 2, none⟩) (Nat.le_refl _) _).setCell (p := ⟨w.heap.size, 3, none⟩) (Nat.le_refl _) _⟩

set_option maxRecDepth 100000 in
set_option maxHeartbeats 1000000 in
theorem fixed_any (c : Cx) (k : Nat) (w : World) (h : In c w k) :
    Calls Tryz.prog 149 #[.pointer (some ⟨c.b, 0, none⟩)] w fun e w' => e = .returned (.string (bs (fx (c.T k)))) ∧ Below w.heap.size w w' := by
  have T := Lib.hid (fun w1 (hb : Below w.heap.size w w1) => stoken_any c k w1 (h.below hb))
  unfold tkW at T
  generalize c.T k = t at *
  obtain ⟨tk, tp, tx, tb⟩ := t
  clear h
  have HF : Hid (fx ⟨tk, tp, tx, tb⟩ = if tk = 2 ∨ tk = 5 then tx else []) := rfl
  have HK : tk = 2 ∨ tk = 5 ∨ ((tk == 2) = false ∧ (tk == 5) = false) := by simp only [beq_eq_false_iff_ne]; omega
  rcases HK with rfl | rfl | ⟨k2, k5⟩
  · go_enter Tryz.func149, Tryz.ntmps149
    go_wp2_with fail
    refine (T.out _ (Below.refl _ _)).mono ?_; rintro e w1 ⟨rfl, hB1⟩
    go_wp2_with fail
    go_ret
    exact ⟨by rw [HF.out]; rfl, hB1.alloc hB1.size _⟩
  · go_enter Tryz.func149, Tryz.ntmps149
    go_wp2_with fail
    refine (T.out _ (Below.refl _ _)).mono ?_; rintro e w1 ⟨rfl, hB1⟩
    go_wp2_with fail
    go_ret
    exact ⟨by rw [HF.out]; rfl, hB1.alloc hB1.size _⟩
  · have HF2 : Hid (fx ⟨tk, tp, tx, tb⟩ = []) := by
      simp only [beq_eq_false_iff_ne] at k2 k5
      show _ = _; rw [HF.out, if_neg (by omega)]
    go_enter Tryz.func149, Tryz.ntmps149
    go_wp2_with fail
    refine (T.out _ (Below.refl _ _)).mono ?_; rintro e w1 ⟨rfl, hB1⟩
    go_wp2_with fail
    go_ret
    exact ⟨by rw [HF2.out]; rfl, hB1.alloc hB1.size _⟩
end Go.Proofs.YtnkfodelgpidkaaGreatDoor
