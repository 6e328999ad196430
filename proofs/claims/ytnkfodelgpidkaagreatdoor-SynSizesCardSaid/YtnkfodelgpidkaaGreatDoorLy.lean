/- Laying a tree out: lay, of any tree in memory. -/
import Derived.Test.YtnkfodelgpidkaaGreatDoorAs
import Derived.Deep.RegionHeldLaw
namespace Go.Proofs.YtnkfodelgpidkaaGreatDoor
open Go.RowKit
set_option linter.unusedVariables false

/-- A laid-out node. -/
structure LN where
  kind : Int
  n : Nat
  size : Nat
  text : List UInt8
  bits : Int
def LN.cells (l : LN) : List Value := [.int .i64 l.kind, .int .i64 (l.n : Int), .int .i64 (l.size : Int), .string (bs l.text), .int .u64 l.bits]
mutual
def layT : Tr → List LN
  | .node k x b kids => ⟨k, kids.length, (layTs kids).length + 1, x, b⟩ :: layTs kids
def layTs : List Tr → List LN
  | [] => []
  | t :: l => layT t ++ layTs l
end
def cellsL (l : List LN) : List Value := l.flatMap LN.cells
theorem info_node : (Tryz.prog.info? 33).map (fun i => (i.zero, i.size, i.bytes)) = some (some (.agg #[.int .i64 0, .int .i64 0, .int .i64 0, .string ⟨#[]⟩, .int .u64 0]), 5, 48) := by kernel_rfl

/-- What lay does with a tree in memory: it stands behind the row. -/
def LayOk (tr : Tr) : Prop := ∀ (w : World) (S : Nat → Prop) (lo a : Nat), IsT w S (.pointer (some ⟨a, 0, none⟩)) tr → (∀ i, S i → i < lo) → lo ≤ w.heap.size → ∀ (row : Value) (n : Nat) (xs : List Value), n + (layT tr).length ≤ 100000 →
    w.ownsRow lo 33 5 row n xs →
    Calls Tryz.prog 27 #[.pointer (some ⟨a, 0, none⟩), row] w (fun e w' => ∃ row', e = .returned row' ∧ w'.ownsRow lo 33 5 row' (n + (layT tr).length) (xs ++ cellsL (layT tr)) ∧ Below lo w w')
theorem layTs_append : ∀ a b : List Tr, layTs (a ++ b) = layTs a ++ layTs b
  | [], b => rfl
  | t :: a, b => by rw [List.cons_append, layTs, layTs, layTs_append a b, List.append_assoc]
theorem layTs_take (l : List Tr) (i : Nat) (h : i < l.length) : layTs (l.take (i + 1)) = layTs (l.take i) ++ layT l[i] := by
  rw [List.take_succ_eq_append_getElem h, layTs_append]; simp [layTs]
theorem layTs_take_le (l : List Tr) (i : Nat) : (layTs (l.take i)).length ≤ (layTs l).length := by
  conv => rhs; rw [← List.take_append_drop i l, layTs_append, List.length_append]
  omega
theorem layT_pos (t : Tr) : 1 ≤ (layT t).length := by cases t; rw [layT, List.length_cons]; omega
theorem layTs_ge : ∀ l : List Tr, l.length ≤ (layTs l).length
  | [] => Nat.le_refl _
  | t :: l => by rw [layTs, List.length_append, List.length_cons]; have := layTs_ge l; have := layT_pos t; omega
theorem set5 (xs r : List Value) (a b c d e u : Value) (n : Nat) (h : xs.length = n * 5) : (xs ++ [a, b, c, d, e] ++ r).set (n * 5 + 2) u = xs ++ ([a, b, u, d, e] ++ r) := by
  rw [List.append_assoc, List.set_append, if_neg (by omega), h, Nat.add_sub_cancel_left]; rfl
theorem cellsL_append (a b : List LN) : cellsL (a ++ b) = cellsL a ++ cellsL b := by unfold cellsL; rw [List.flatMap_append]
theorem own_cell_set {w : World} {lo g m cap q : Nat} {T : TypeId} {xs : List Value} (h : w.ownsRow lo T 5 (.slice (some ⟨g, 0, none⟩) m cap) m xs) (hq : q < m * 5) (u : Value) :
    (w.setCell ⟨g, q, none⟩ u).ownsRow lo T 5 (.slice (some ⟨g, 0, none⟩) m cap) m (xs.set q u) := by
  obtain ⟨h1, h2⟩ := h
  refine ⟨by rw [List.length_set]; exact h1, ?_⟩
  rcases h2 with ⟨h, _⟩ | ⟨g', cap', cur, h3, h4, h5, h6, h7, h8, h9⟩
  · cases h
  · injection h3 with e1 e2 e3
    injection e1 with e1; injection e1 with e1 _ _
    subst e1; subst e3
    refine .inr ⟨g, cap, cur.set! q u, rfl, h4, ?_, h6, h7, by simp [h8], ?_⟩
    · simp [World.setCell, Array.getElem?_modify, h5]
    · rw [← h9]
      simp [List.take_set]

set_option maxRecDepth 100000 in
set_option maxHeartbeats 2000000 in
theorem lay_step (k : Int) (x : List UInt8) (b : Int) (kids : List Tr) (IH : ∀ t ∈ kids, LayOk t) : LayOk (.node k x b kids) := by
  intro w S lo a h hS hlo row n xs hn hown
  obtain ⟨_, _, _, _, v, vs, _, ha, hh, hr, hl, hk⟩ := h
  have hal := hS _ ha
  have c0 : w.cell? ⟨a, 0, none⟩ = some (.int .i64 k) := by simp [World.cell?, hh]
  have c1 : w.cell? ⟨a, 1, none⟩ = some (.string (bs x)) := by simp [World.cell?, hh]
  have c2 : w.cell? ⟨a, 2, none⟩ = some (.int .u64 b) := by simp [World.cell?, hh]
  have c3 : ∃ ao cp, v = .slice ao vs.length cp := by
    rcases hr with ⟨h1, ao, cp, h2⟩ | ⟨g, cp, h1, h2, h3⟩
    · exact ⟨ao, cp, by rw [h2, h1]; rfl⟩
    · exact ⟨_, cp, h2⟩
  obtain ⟨ao2, cp2, rfl⟩ := c3
  have c3 : w.cell? ⟨a, 3, none⟩ = some (.slice ao2 kids.length cp2) := by rw [← hl]; simp [World.cell?, hh]
  obtain ⟨ao, cp, rfl⟩ : ∃ ao cp, row = .slice ao n cp := by
    rcases hown.2 with ⟨h1, h2⟩ | ⟨g, cp, cur, h1, _⟩
    · exact ⟨_, _, by rw [h1, h2]⟩
    · exact ⟨_, cp, h1⟩
  have hne : ∀ q : Nat, q < lo → some q ≠ (Value.slice ao n cp).ownBlock := fun q hq e => by have := (hown.lt q e.symm).1; omega
  have HL := Lib.hid hl
  have HKK := Lib.hid hk
  have HR := Lib.hid hr
  have hxl := Lib.hid hown.1
  clear hh hl hk hr
  go_enter Tryz.func27, Tryz.ntmps27
  go_wp2_with fail
  obtain ⟨i0, hi, hz0, hz1', hz2⟩ := info_parts info_node
  have hown0 : w.ownsRow lo 33 5 (.slice ao n cp) n xs := hown
  have hone : ∀ u ∈ [Value.int .i64 k, .int .i64 (kids.length : Int), .int .i64 0, .string (bs x), .int .u64 b], u.oneCell' = true := fun u hu => by
    simp only [List.mem_cons, List.not_mem_nil, or_false] at hu
    rcases hu with rfl | rfl | rfl | rfl | rfl <;> rfl
  have hnews : ∀ j u, [Value.int .i64 k, .int .i64 (kids.length : Int), .int .i64 0, .string (bs x), .int .u64 b][j]? = some u → (w.alloc (.cells #[Value.int .i64 k, .int .i64 (kids.length : Int), .int .i64 0, .string (bs x), .int .u64 b] 33)).cell? ((⟨w.heap.size, 0, none⟩ : Addr).add j) = some u := World.news_of_block (heap_alloc_new w _)
  have h63 : n + 1 ≤ maxLen := by unfold maxLen; omega
  have hby : (n + 1) * 48 ≤ 140737488355328 := by omega
  have hba : lo ≤ (w.alloc (.cells #[Value.int .i64 k, .int .i64 (kids.length : Int), .int .i64 0, .string (bs x), .int .u64 b] 33)).heap.size := by simp; omega
  have hHH : (w.alloc (.cells #[Value.int .i64 k, .int .i64 (kids.length : Int), .int .i64 0, .string (bs x), .int .u64 b] 33)).heap.size = w.heap.size + 1 := by simp
  go_region_held_law (fun w' => w'.cell? ⟨a, 0, none⟩ = some (.int .i64 k) ∧ w'.cell? ⟨a, 1, none⟩ = some (.string (bs x)) ∧ w'.cell? ⟨a, 2, none⟩ = some (.int .u64 b) ∧ w'.cell? ⟨a, 3, none⟩ = some (.slice ao2 kids.length cp2))
    (refine ⟨?_, ?_, ?_, ?_⟩ <;> first | assumption | exact cell_drew (cell_alloc (by assumption) _) | exact cell_alloc (cell_drew (by assumption)) _ | exact cell_drew (by assumption))
    (first | (refine step_append_lies _ rfl _ _ 22 rfl lo 33 i0 _ 5 48 Tryz.underlying22 hi hz0 hz1' hz2 rfl (by decide) _ _ _ rfl (hown0.alloc _) ⟨w.heap.size, 0, none⟩ 1 1 [.int .i64 k, .int .i64 (kids.length : Int), .int .i64 0, .string (bs x), .int .u64 b] rfl rfl hnews hone (by decide) h63 hby hba (w.heap.size + 1) hHH ?_
              intro g cap w1 hown1 hgrow hat hlt
              have hal2 : a < (w.alloc (.cells #[Value.int .i64 k, .int .i64 (kids.length : Int), .int .i64 0, .string (bs x), .int .u64 b] 33)).heap.size := by rw [hHH]; omega
              have e0 := (hgrow.cell_far ⟨a, 0, none⟩ hal2 (hne a hal)).trans (cell_drew (cell_alloc c0 _))
              have e1 := (hgrow.cell_far ⟨a, 1, none⟩ hal2 (hne a hal)).trans (cell_drew (cell_alloc c1 _))
              have e2 := (hgrow.cell_far ⟨a, 2, none⟩ hal2 (hne a hal)).trans (cell_drew (cell_alloc c2 _))
              have e3 := (hgrow.cell_far ⟨a, 3, none⟩ hal2 (hne a hal)).trans (cell_drew (cell_alloc c3 _))))
  have hbel : Below lo w w1 := ((Below.refl lo w).alloc hlo _).drew.grown hgrow (by rw [show ∀ o, (w.alloc o).drew.heap.size = (w.alloc o).heap.size from fun _ => rfl, hHH]; omega) (fun q hq => (hown.lt q hq).1)
  have HO1 := Lib.hid hown1
  clear e0 e1 e2 hgrow hat hlt hal2 hHH hba hby h63 hnews hone hown0 hi hz0 hz1' hz2 c0 c1 c2 c3 hown hown1
  have hlen : (layT (.node k x b kids)).length = 1 + (layTs kids).length := by rw [layT, List.length_cons]; omega
  rw [hlen] at hn
  go_wp2_with fail
  go_loopg [1, 36] kids.length (fun g2 r2 i2 wr => ∃ (i : Nat) (r : Value), r2 = r ∧ i2 = .int .i64 (i : Int) ∧ g2 = kids.length - i ∧ i ≤ kids.length ∧ Hid (wr.ownsRow lo 33 5 r (n + 1 + (layTs (kids.take i)).length) (xs ++ [Value.int .i64 k, .int .i64 (kids.length : Int), .int .i64 0, .string (bs x), .int .u64 b] ++ cellsL (layTs (kids.take i)))) ∧ Hid (Below lo w wr))
  case atStart => exact ⟨0, _, rfl, rfl, rfl, Nat.zero_le _, by have h := HO1.out; show World.ownsRow _ _ _ _ _ _ _; simpa [layTs, cellsL] using h, hbel⟩
  case round =>
    obtain ⟨i, r, hr2, rfl, rfl, hi, HR2, HB2⟩ := hrel
    obtain ⟨ao3, cp3, rfl⟩ : ∃ ao3 cp3, r = Value.slice ao3 (n + 1 + (layTs (kids.take i)).length) cp3 := by
      rcases HR2.out.2 with ⟨h1, h2⟩ | ⟨g, cp, cur, h1, _⟩
      · omega
      · exact ⟨_, cp, h1⟩
    subst hr2
    have hge := layTs_ge kids
    by_cases hlt : i < kids.length
    · obtain ⟨g2, rfl, hcell⟩ : ∃ g2, ao2 = some ⟨g2, 0, none⟩ ∧ wr.cell? ⟨g2, i, none⟩ = some (vs[i]'(by rw [HL.out]; exact hlt)) := by
        rcases HR.out with ⟨h1, ao, cp, h2⟩ | ⟨g, cp, h1, h2, h3⟩
        · rw [h1] at HL; have := HL.out; simp at this; omega
        · injection h2 with h2 _ _
          exact ⟨g, h2, (HB2.out.cell (p := ⟨g, i, none⟩) (hS g h1)).trans (h3 i (by rw [HL.out]; exact hlt))⟩
      have hT := (HKK.out i (by rw [HL.out]; exact hlt) hlt).keep (fun _ h => h) fun q hq => HB2.out.block q (hS q hq)
      obtain ⟨v2, hv2⟩ := hT.ptr
      rw [hv2] at hcell hT
      have HT := Lib.hid hT
      have HIN := Lib.hid (kids[i]'hlt |> fun _ => List.getElem_mem hlt)
      have hle := layTs_take_le kids (i + 1)
      rw [layTs_take kids i hlt, List.length_append] at hle
      have hlo2 : lo ≤ wr.heap.size := Nat.le_trans hlo HB2.out.size
      clear hT hv2
      go_wp2_with fail
      refine ((IH _ HIN.out) wr S lo v2 HT.out hS hlo2 _ (n + 1 + (layTs (kids.take i)).length) _ (by omega) HR2.out).mono ?_
      rintro e w2 ⟨row', rfl, hR3, hB3⟩
      have HR3 : Hid (w2.ownsRow lo 33 5 row' (n + 1 + (layTs (kids.take (i + 1))).length) (xs ++ [Value.int .i64 k, .int .i64 (kids.length : Int), .int .i64 0, .string (bs x), .int .u64 b] ++ cellsL (layTs (kids.take (i + 1))))) := by
        rw [layTs_take kids i hlt, cellsL_append, List.length_append, ← List.append_assoc, ← Nat.add_assoc]; exact hR3
      have HB3 := Lib.hid (HB2.out.trans hB3)
      clear hR3 hB3
      go_wp2_with fail
      go_roundg (kids.length - (i + 1))
      case measure => omega
      case rel => exact ⟨i + 1, row', rfl, rfl, rfl, hlt, HR3.out, HB3.out⟩
    · have he : i = kids.length := by omega
      subst he
      rw [List.take_length] at HR2
      obtain ⟨g3, cap3, cur, e3, h4, h5, h6, h7, h8, h9⟩ : ∃ g3 cap3 cur, Value.slice ao3 (n + 1 + (layTs (kids.take kids.length)).length) cp3 = .slice (some ⟨g3, 0, none⟩) (n + 1 + (layTs kids).length) cap3 ∧ lo ≤ g3 ∧ wr.heap[g3]? = some (.cells cur 33 (0, 0)) ∧ (n + 1 + (layTs kids).length) ≤ cap3 ∧ cap3 ≤ maxLen ∧ cur.size = cap3 * 5 ∧ True := by
        rcases HR2.out.2 with ⟨_, h⟩ | ⟨g, cp, cur, h1, h2, h3, h4, h5, h6, _⟩
        · omega
        · exact ⟨g, cp, cur, by rw [List.take_length]; exact h1, h2, h3, h4, h5, h6, trivial⟩
      rw [e3] 
      rw [List.take_length] at e3
      rw [e3] at HR2
      have cS : wr.cell? ⟨g3, n * 5 + 2, none⟩ = some (cur[n * 5 + 2]'(by omega)) := by simp [World.cell?, h5]
      have fS : wr.frozen? ⟨g3, n * 5 + 2, none⟩ = false := by simp [World.frozen?, h5]
      have dS : wr.drew.cell? ⟨g3, n * 5 + 2, none⟩ = _ := cS
      have gS : wr.drew.frozen? ⟨g3, n * 5 + 2, none⟩ = false := fS
      go_wp2_with fail
      go_ret
      have hq : n * 5 + 2 < (n + 1 + (layTs kids).length) * 5 := by omega
      have hO := own_cell_set HR2.out hq (.int .i64 ((n : Int) + 1 + ((layTs kids).length : Int) - (n : Int)))
      rw [set5 _ _ _ _ _ _ _ _ n hxl.out] at hO
      have hs : ((n : Int) + 1 + ((layTs kids).length : Int) - (n : Int)) = (((layTs kids).length + 1 : Nat) : Int) := by omega
      refine ⟨_, rfl, ?_, HB2.out.setCell h4 _⟩
      rw [hlen, show n + (1 + (layTs kids).length) = n + 1 + (layTs kids).length by omega]
      rw [hs] at hO ⊢
      exact hO
/-- lay, of any tree. -/
theorem layOk : ∀ t : Tr, LayOk t
  | .node k x b kids => lay_step k x b kids fun t ht => layOk t
end Go.Proofs.YtnkfodelgpidkaaGreatDoor
