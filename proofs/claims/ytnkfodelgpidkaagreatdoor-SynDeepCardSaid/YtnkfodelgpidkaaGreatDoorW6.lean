/- Part of a proof that the program keeps SynDeep: contracts of its functions and of the document's. -/
import Derived.Test.YtnkfodelgpidkaaGreatDoorW5
import Derived.Deep.RegionHeldLaw
import Derived.WalkSmall
import Derived.OwnWalk
import Derived.Deep.LoopGhost
import Derived.Test.YtnkfodelgpidkaaGreatDoorV7
set_option maxRecDepth 100000
set_option maxHeartbeats 4000000
set_option linter.unusedVariables false
set_option linter.unusedSimpArgs false
namespace Go.Proofs.YtnkfodelgpidkaaGreatDoor
open Go.RowKit
structure LN where
 kind : Int
 n : Nat
 size : Nat
 text : List UInt8
 bits : Int
def LN.cells (l : LN) : List Value := [.int .i64 l.kind, .int .i64 (l.n : Int), .int .i64 (l.size : Int), .string (bs l.text), .int .u64 l.bits]
mutual
def layT : Tr → List LN
 | .node k x b kids => ⟨k, kids.length, (layTs kids).length + 1, x, b⟩ :: layTs kids
def layTs : List Tr → List LN
 | [] => []
 | t :: l => layT t ++ layTs l
end
def cellsL (l : List LN) : List Value := l.flatMap LN.cells
theorem info_node : (Tryz.prog.info? 33).map (fun i => (i.zero, i.size, i.bytes)) = some (some (.agg #[.int .i64 0, .int .i64 0, .int .i64 0, .string ⟨#[]⟩, .int .u64 0]), 5, 48) := by kernel_rfl
def LayOk (tr : Tr) : Prop := ∀ (w : World) (S : Nat → Prop) (lo a : Nat), IsT w S (.pointer (some ⟨a, 0, none⟩)) tr → (∀ i, S i → i < lo) → lo ≤ w.heap.size → ∀ (row : Value) (n : Nat) (xs : List Value), n + (layT tr).length ≤ 100000 →
  w.ownsRow lo 33 5 row n xs →
  Calls Tryz.prog 27 #[.pointer (some ⟨a, 0, none⟩), row] w (fun e w' => ∃ row', e = .returned row' ∧ w'.ownsRow lo 33 5 row' (n + (layT tr).length) (xs ++ cellsL (layT tr)) ∧ Below lo w w')
theorem layTs_append : ∀ a b : List Tr, layTs (a ++ b) = layTs a ++ layTs b
 | [], b => rfl
 | t :: a, b => by rw [List.cons_append, layTs, layTs, layTs_append a b, List.append_assoc]
theorem layTs_take (l : List Tr) (i : Nat) (h : i < l.length) : layTs (l.take (i + 1)) = layTs (l.take i) ++ layT l[i] := by
 rw [List.take_succ_eq_append_getElem h, layTs_append]; simp [layTs]
theorem layTs_take_le (l : List Tr) (i : Nat) : (layTs (l.take i)).length ≤ (layTs l).length := by
 conv => rhs; rw [← List.take_append_drop i l, layTs_append, List.length_append]
 omega
theorem layT_pos (t : Tr) : 1 ≤ (layT t).length := by cases t; rw [layT, List.length_cons]; omega
theorem layTs_ge : ∀ l : List Tr, l.length ≤ (layTs l).length
 | [] => Nat.le_refl _
 | t :: l => by rw [layTs, List.length_append, List.length_cons]; have := layTs_ge l; have := layT_pos t; omega
theorem set5 (xs r : List Value) (a b c d e u : Value) (n : Nat) (h : xs.length = n * 5) : (xs ++ [a, b, c, d, e] ++ r).set (n * 5 + 2) u = xs ++ ([a, b, u, d, e] ++ r) := by
 rw [List.append_assoc, List.set_append, if_neg (by omega), h, Nat.add_sub_cancel_left]; rfl
theorem cellsL_append (a b : List LN) : cellsL (a ++ b) = cellsL a ++ cellsL b := by unfold cellsL; rw [List.flatMap_append]
theorem own_cell_set {w : World} {lo g m cap q : Nat} {T : TypeId} {xs : List Value} (h : w.ownsRow lo T 5 (.slice (some ⟨g, 0, none⟩) m cap) m xs) (hq : q < m * 5) (u : Value) :
  (w.setCell ⟨g, q, none⟩ u).ownsRow lo T 5 (.slice (some ⟨g, 0, none⟩) m cap) m (xs.set q u) := by
 obtain ⟨h1, h2⟩ := h
 refine ⟨by rw [List.length_set]; exact h1, ?_⟩
 rcases h2 with ⟨h, _⟩ | ⟨g', cap', cur, h3, h4, h5, h6, h7, h8, h9⟩
 ·cases h
 ·injection h3 with e1 e2 e3
  injection e1 with e1; injection e1 with e1 _ _
  subst e1; subst e3
  refine .inr ⟨g, cap, cur.set! q u, rfl, h4, ?_, h6, h7, by simp [h8], ?_⟩
  ·simp [World.setCell, Array.getElem?_modify, h5]
  ·rw [← h9]
   simp [List.take_set]
theorem lay_step (k : Int) (x : List UInt8) (b : Int) (kids : List Tr) (IH : ∀ t ∈ kids, LayOk t) : LayOk (.node k x b kids) := by
  intro w S lo a h hS hlo row n xs hn hown
  obtain ⟨_, _, _, _, v, vs, _, ha, hh, hr, hl, hk⟩ := h
  have hal := hS _ ha
  have c0 : w.cell? ⟨a, 0, none⟩ = some (.int .i64 k) := by simp [World.cell?, hh]
  have c1 : w.cell? ⟨a, 1, none⟩ = some (.string (bs x)) := by simp [World.cell?, hh]
  have c2 : w.cell? ⟨a, 2, none⟩ = some (.int .u64 b) := by simp [World.cell?, hh]
  have c3 : ∃ ao cp, v = .slice ao vs.length cp := by
    rcases hr with ⟨h1, ao, cp, h2⟩ | ⟨g, cp, h1, h2, h3⟩
    · exact ⟨ao, cp, by rw [h2, h1]; rfl⟩
    · exact ⟨_, cp, h2⟩
  obtain ⟨ao2, cp2, rfl⟩ := c3
  have c3 : w.cell? ⟨a, 3, none⟩ = some (.slice ao2 kids.length cp2) := by rw [← hl]; simp [World.cell?, hh]
  obtain ⟨ao, cp, rfl⟩ : ∃ ao cp, row = .slice ao n cp := by
    rcases hown.2 with ⟨h1, h2⟩ | ⟨g, cp, cur, h1, _⟩
    · exact ⟨_, _, by rw [h1, h2]⟩
    · exact ⟨_, cp, h1⟩
  have hne : ∀ q : Nat, q < lo → some q ≠ (Value.slice ao n cp).ownBlock := fun q hq e => by have := (hown.lt q e.symm).1; omega
  have HL := Lib.hid hl
  have HKK := Lib.hid hk
  have HR := Lib.hid hr
  have hxl := Lib.hid hown.1
  clear hh hl hk hr
  go_enter Tryz.func27, Tryz.ntmps27
  go_wp2_with fail
  obtain ⟨i0, hi, hz0, hz1', hz2⟩ := info_parts info_node
  have hown0 : w.ownsRow lo 33 5 (.slice ao n cp) n xs := hown
  have hone : ∀ u ∈ [Value.int .i64 k, .int .i64 (kids.length : Int), .int .i64 0, .string (bs x), .int .u64 b], u.oneCell' = true := fun u hu => by
    simp only [List.mem_cons, List.not_mem_nil, or_false] at hu
    rcases hu with rfl | rfl | rfl | rfl | rfl <;> rfl
  have hnews : ∀ j u, [Value.int .i64 k, .int .i64 (kids.length : Int), .int .i64 0, .string (bs x), .int .u64 b][j]? = some u → (w.alloc (.cells #[Value.int .i64 k, .int .i64 (kids.length : Int), .int .i64 0, .string (bs x), .int .u64 b] 33)).cell? ((⟨w.heap.size, 0, none⟩ : Addr).add j) = some u := World.news_of_block (heap_alloc_new w _)
  have h63 : n + 1 ≤ maxLen := by unfold maxLen; omega
  have hby : (n + 1) * 48 ≤ 140737488355328 := by omega
  have hba : lo ≤ (w.alloc (.cells #[Value.int .i64 k, .int .i64 (kids.length : Int), .int .i64 0, .string (bs x), .int .u64 b] 33)).heap.size := by simp; omega
  have hHH : (w.alloc (.cells #[Value.int .i64 k, .int .i64 (kids.length : Int), .int .i64 0, .string (bs x), .int .u64 b] 33)).heap.size = w.heap.size + 1 := by simp
  go_region_held_law (fun w' => w'.cell? ⟨a, 0, none⟩ = some (.int .i64 k) ∧ w'.cell? ⟨a, 1, none⟩ = some (.string (bs x)) ∧ w'.cell? ⟨a, 2, none⟩ = some (.int .u64 b) ∧ w'.cell? ⟨a, 3, none⟩ = some (.slice ao2 kids.length cp2))
    (refine ⟨?_, ?_, ?_, ?_⟩ <;> first | assumption | exact cell_drew (cell_alloc (by assumption) _) | exact cell_alloc (cell_drew (by assumption)) _ | exact cell_drew (by assumption))
    (first | (refine step_append_lies _ rfl _ _ 22 rfl lo 33 i0 _ 5 48 Tryz.underlying22 hi hz0 hz1' hz2 rfl (by decide) _ _ _ rfl (hown0.alloc _) ⟨w.heap.size, 0, none⟩ 1 1 [.int .i64 k, .int .i64 (kids.length : Int), .int .i64 0, .string (bs x), .int .u64 b] rfl rfl hnews hone (by decide) h63 hby hba (w.heap.size + 1) hHH ?_
              intro g cap w1 hown1 hgrow hat hlt
              have hal2 : a < (w.alloc (.cells #[Value.int .i64 k, .int .i64 (kids.length : Int), .int .i64 0, .string (bs x), .int .u64 b] 33)).heap.size := by rw [hHH]; omega
              have e0 := (hgrow.cell_far ⟨a, 0, none⟩ hal2 (hne a hal)).trans (cell_drew (cell_alloc c0 _))
              have e1 := (hgrow.cell_far ⟨a, 1, none⟩ hal2 (hne a hal)).trans (cell_drew (cell_alloc c1 _))
              have e2 := (hgrow.cell_far ⟨a, 2, none⟩ hal2 (hne a hal)).trans (cell_drew (cell_alloc c2 _))
              have e3 := (hgrow.cell_far ⟨a, 3, none⟩ hal2 (hne a hal)).trans (cell_drew (cell_alloc c3 _))))
  have hbel : Below lo w w1 := ((Below.refl lo w).alloc hlo _).drew.grown hgrow (by rw [show ∀ o, (w.alloc o).drew.heap.size = (w.alloc o).heap.size from fun _ => rfl, hHH]; omega) (fun q hq => (hown.lt q hq).1)
  have HO1 := Lib.hid hown1
  clear e0 e1 e2 hgrow hat hlt hal2 hHH hba hby h63 hnews hone hown0 hi hz0 hz1' hz2 c0 c1 c2 c3 hown hown1
  have hlen : (layT (.node k x b kids)).length = 1 + (layTs kids).length := by rw [layT, List.length_cons]; omega
  rw [hlen] at hn
  go_wp2_with fail
  go_loopg [1, 36] kids.length (fun g2 r2 i2 wr => ∃ (i : Nat) (r : Value), r2 = r ∧ i2 = .int .i64 (i : Int) ∧ g2 = kids.length - i ∧ i ≤ kids.length ∧ Hid (wr.ownsRow lo 33 5 r (n + 1 + (layTs (kids.take i)).length) (xs ++ [Value.int .i64 k, .int .i64 (kids.length : Int), .int .i64 0, .string (bs x), .int .u64 b] ++ cellsL (layTs (kids.take i)))) ∧ Hid (Below lo w wr))
  case atStart => exact ⟨0, _, rfl, rfl, rfl, Nat.zero_le _, by have h := HO1.out; show World.ownsRow _ _ _ _ _ _ _; simpa [layTs, cellsL] using h, hbel⟩
  case round =>
    obtain ⟨i, r, hr2, rfl, rfl, hi, HR2, HB2⟩ := hrel
    obtain ⟨ao3, cp3, rfl⟩ : ∃ ao3 cp3, r = Value.slice ao3 (n + 1 + (layTs (kids.take i)).length) cp3 := by
      rcases HR2.out.2 with ⟨h1, h2⟩ | ⟨g, cp, cur, h1, _⟩
      · omega
      · exact ⟨_, cp, h1⟩
    subst hr2
    have hge := layTs_ge kids
    by_cases hlt : i < kids.length
    · obtain ⟨g2, rfl, hcell⟩ : ∃ g2, ao2 = some ⟨g2, 0, none⟩ ∧ wr.cell? ⟨g2, i, none⟩ = some (vs[i]'(by rw [HL.out]; exact hlt)) := by
        rcases HR.out with ⟨h1, ao, cp, h2⟩ | ⟨g, cp, h1, h2, h3⟩
        · rw [h1] at HL; have := HL.out; simp at this; omega
        · injection h2 with h2 _ _
          exact ⟨g, h2, (HB2.out.cell (p := ⟨g, i, none⟩) (hS g h1)).trans (h3 i (by rw [HL.out]; exact hlt))⟩
      have hT := (HKK.out i (by rw [HL.out]; exact hlt) hlt).keep (fun _ h => h) fun q hq => HB2.out.block q (hS q hq)
      obtain ⟨v2, hv2⟩ := hT.ptr
      rw [hv2] at hcell hT
      have HT := Lib.hid hT
      have HIN := Lib.hid (kids[i]'hlt |> fun _ => List.getElem_mem hlt)
      have hle := layTs_take_le kids (i + 1)
      rw [layTs_take kids i hlt, List.length_append] at hle
      have hlo2 : lo ≤ wr.heap.size := Nat.le_trans hlo HB2.out.size
      clear hT hv2
      go_wp2_with fail
      refine ((IH _ HIN.out) wr S lo v2 HT.out hS hlo2 _ (n + 1 + (layTs (kids.take i)).length) _ (by omega) HR2.out).mono ?_
      rintro e w2 ⟨row', rfl, hR3, hB3⟩
      have HR3 : Hid (w2.ownsRow lo 33 5 row' (n + 1 + (layTs (kids.take (i + 1))).length) (xs ++ [Value.int .i64 k, .int .i64 (kids.length : Int), .int .i64 0, .string (bs x), .int .u64 b] ++ cellsL (layTs (kids.take (i + 1))))) := by
        rw [layTs_take kids i hlt, cellsL_append, List.length_append, ← List.append_assoc, ← Nat.add_assoc]; exact hR3
      have HB3 := Lib.hid (HB2.out.trans hB3)
      clear hR3 hB3
      go_wp2_with fail
      go_roundg (kids.length - (i + 1))
      case measure => omega
      case rel => exact ⟨i + 1, row', rfl, rfl, rfl, hlt, HR3.out, HB3.out⟩
    · have he : i = kids.length := by omega
      subst he
      rw [List.take_length] at HR2
      obtain ⟨g3, cap3, cur, e3, h4, h5, h6, h7, h8, h9⟩ : ∃ g3 cap3 cur, Value.slice ao3 (n + 1 + (layTs (kids.take kids.length)).length) cp3 = .slice (some ⟨g3, 0, none⟩) (n + 1 + (layTs kids).length) cap3 ∧ lo ≤ g3 ∧ wr.heap[g3]? = some (.cells cur 33 (0, 0)) ∧ (n + 1 + (layTs kids).length) ≤ cap3 ∧ cap3 ≤ maxLen ∧ cur.size = cap3 * 5 ∧ True := by
        rcases HR2.out.2 with ⟨_, h⟩ | ⟨g, cp, cur, h1, h2, h3, h4, h5, h6, _⟩
        · omega
        · exact ⟨g, cp, cur, by rw [List.take_length]; exact h1, h2, h3, h4, h5, h6, trivial⟩
      rw [e3] 
      rw [List.take_length] at e3
      rw [e3] at HR2
      have cS : wr.cell? ⟨g3, n * 5 + 2, none⟩ = some (cur[n * 5 + 2]'(by omega)) := by simp [World.cell?, h5]
      have fS : wr.frozen? ⟨g3, n * 5 + 2, none⟩ = false := by simp [World.frozen?, h5]
      have dS : wr.drew.cell? ⟨g3, n * 5 + 2, none⟩ = _ := cS
      have gS : wr.drew.frozen? ⟨g3, n * 5 + 2, none⟩ = false := fS
      go_wp2_with fail
      go_ret
      have hq : n * 5 + 2 < (n + 1 + (layTs kids).length) * 5 := by omega
      have hO := own_cell_set HR2.out hq (.int .i64 ((n : Int) + 1 + ((layTs kids).length : Int) - (n : Int)))
      rw [set5 _ _ _ _ _ _ _ _ n hxl.out] at hO
      have hs : ((n : Int) + 1 + ((layTs kids).length : Int) - (n : Int)) = (((layTs kids).length + 1 : Nat) : Int) := by omega
      refine ⟨_, rfl, ?_, HB2.out.setCell h4 _⟩
      rw [hlen, show n + (1 + (layTs kids).length) = n + 1 + (layTs kids).length by omega]
      rw [hs] at hO ⊢
      exact hO
theorem layOk : ∀ t : Tr, LayOk t
 | .node k x b kids => lay_step k x b kids fun t ht => layOk t
end Go.Proofs.YtnkfodelgpidkaaGreatDoor
namespace Go.Proofs.YtnkfodelgpidkaaGreatDoor
def plainN : NT → Bool
 | .exprMore _ | .binMore _ _ | .memMore _ | .makMore _ | .part _ | .called _ | .untl _ _ | .row _ | .rowMore _ | .list _ _ | .program | .binary _ | .optional _ => false
 | _ => true
def mN : NT → Tr → Nat
 | .called _, t => (layTs t.kids).length + 1
 | .untl _ _, t | .row _, t | .rowMore _, t | .list _ _, t | .program, t => (layTs t.kids).length
 | _, t => (layT t).length
def bN : NT → Nat
 | .exprMore x | .binMore _ x | .memMore x | .makMore x | .part x | .called x => (layT x).length
 | _ => 0
def okN : NT → Prop
 | .untl s it | .list s it => s ≠ [] ∧ plainN it = true
 | .row it | .rowMore it => plainN it = true
 | .optional s => s ≠ []
 | .binary l | .binMore l _ => 1 ≤ l
 | _ => True
theorem plain_ok {it : NT} (h : plainN it = true) : okN it := by cases it <;> first | trivial | cases h
theorem plain_b {it : NT} (h : plainN it = true) : bN it = 0 := by cases it <;> first | rfl | cases h
theorem plain_m {it : NT} (h : plainN it = true) (t : Tr) : mN it t = (layT t).length := by cases it <;> first | rfl | cases h
def W (x : Rs) (K : Tr → List Tk → Prop) : Prop := ∀ t R', x = some (.ok (t, R')) → K t R'
section
variable {E : Int} {R : List Tk} {K : Tr → List Tk → Prop}
theorem W.ret {t : Tr} (h : K t R) : W (Go.Proofs.YtnkfodelgpidkaaGreatDoor.ret t R) K := by intro t' R' e; unfold Go.Proofs.YtnkfodelgpidkaaGreatDoor.ret at e; injection e with e; injection e with e; injection e with e1 e2; subst e1; subst e2; exact h
theorem W.bad : W (Go.Proofs.YtnkfodelgpidkaaGreatDoor.bad E R) K := by intro t' R' e; unfold Go.Proofs.YtnkfodelgpidkaaGreatDoor.bad at e; injection e with e; cases e
theorem W.bnd {x : Rs} {k : Tr → List Tk → Rs} (h : W x fun t R1 => W (k t R1) K) : W (Go.Proofs.YtnkfodelgpidkaaGreatDoor.bnd x k) K := by
 intro t' R' e
 unfold Go.Proofs.YtnkfodelgpidkaaGreatDoor.bnd at e
 rcases x with _ | (p | ⟨t, R1⟩)
 ·cases e
 ·cases e
 ·exact h t R1 rfl t' R' e
theorem fx_nil : fx (hd E ([] : List Tk)) = [] := rfl
theorem isF_len {s : List UInt8} (hs : s ≠ []) (h : isF E s R = true) : R.length = R.tail.length + 1 := by
 cases R with
 | nil => exact absurd (by simpa [isF, fx_nil] using h) (by intro e; exact hs (by first | exact e | exact e.symm))
 | cons a l => rfl
theorem kind_len {n : Int} (hn : n ≠ 0) (h : (hd E R).kind = n) : R.length = R.tail.length + 1 := by
 cases R with
 | nil => exact absurd h.symm hn
 | cons a l => rfl
theorem fx_len (h : fx (hd E R) ≠ []) : R.length = R.tail.length + 1 := by
 cases R with
 | nil => exact absurd rfl h
 | cons a l => rfl
theorem W.need {s : List UInt8} {k : List Tk → Rs} (hs : s ≠ []) (h : R.length = R.tail.length + 1 → W (k R.tail) K) : W (Go.Proofs.YtnkfodelgpidkaaGreatDoor.need E s R k) K := by
 unfold Go.Proofs.YtnkfodelgpidkaaGreatDoor.need; split
 ·exact h (isF_len hs ‹_›)
 ·exact W.bad
theorem kl1 (h : (hd E R).kind = 1) : R.length = R.tail.length + 1 := kind_len (n := 1) (by decide) h
theorem kl2 (h : (hd E R).kind = 2) : R.length = R.tail.length + 1 := kind_len (n := 2) (by decide) h
theorem kl3 (h : (hd E R).kind = 3) : R.length = R.tail.length + 1 := kind_len (n := 3) (by decide) h
theorem kl4 (h : (hd E R).kind = 4) : R.length = R.tail.length + 1 := kind_len (n := 4) (by decide) h
theorem kids_node (k : Int) (x : List UInt8) (b : Int) (l : List Tr) : Tr.kids (.node k x b l) = l := rfl
theorem W.nameK {k : List UInt8 → List Tk → Rs} (h : ∀ x, R.length = R.tail.length + 1 → W (k x R.tail) K) : W (Go.Proofs.YtnkfodelgpidkaaGreatDoor.nameK E R k) K := by
 unfold Go.Proofs.YtnkfodelgpidkaaGreatDoor.nameK; split
 ·exact h _ (kl1 ‹_›)
 ·exact W.bad
theorem W.keyK {k : List UInt8 → List Tk → Rs} (h : ∀ x, R.length = R.tail.length + 1 → W (k x R.tail) K) : W (Go.Proofs.YtnkfodelgpidkaaGreatDoor.keyK E R k) K := by
 unfold Go.Proofs.YtnkfodelgpidkaaGreatDoor.keyK; split
 ·rename_i h'; exact h _ (by rcases h' with h' | h'; exact kl1 h'; exact kl2 h')
 ·exact W.bad
theorem W.propK {k : List UInt8 → List Tk → Rs} (h : ∀ x, R.length = R.tail.length + 1 → W (k x R.tail) K) : W (Go.Proofs.YtnkfodelgpidkaaGreatDoor.propK E R k) K := by
 unfold Go.Proofs.YtnkfodelgpidkaaGreatDoor.propK; split
 ·exact h _ (kl4 ‹_›)
 ·split
  ·exact h _ (kl3 ‹_›)
  ·exact W.keyK h
theorem W.ifF {s : List UInt8} {a b : Rs} (hs : s ≠ []) (h : R.length = R.tail.length + 1 → W a K) (g : W b K) : W (if isF E s R then a else b) K := by
 split
 ·exact h (isF_len hs ‹_›)
 ·exact g
theorem W.ifK {n : Int} {a b : Rs} (hn : n ≠ 0) (h : R.length = R.tail.length + 1 → W a K) (g : W b K) : W (if (hd E R).kind = n then a else b) K := by
 split
 ·exact h (kind_len hn ‹_›)
 ·exact g
theorem W.ifC {l : List (List UInt8)} {a b : Rs} (hl : l.contains [] = false) (h : R.length = R.tail.length + 1 → W a K) (g : W b K) : W (if l.contains (fx (hd E R)) then a else b) K := by
 split
 ·rename_i hc; exact h (fx_len fun e => by rw [e, hl] at hc; cases hc)
 ·exact g
theorem W.ite {c : Prop} [Decidable c] {a b : Rs} (h : W a K) (g : W b K) : W (if c then a else b) K := by split; exact h; exact g
end
def Cnt (E : Int) (rec : NT → List Tk → Rs) : Prop := ∀ nt R, okN nt → W (rec nt R) fun t R1 => mN nt t + R1.length ≤ bN nt + R.length
theorem W.call {E : Int} {rec : NT → List Tk → Rs} {R : List Tk} {K : Tr → List Tk → Prop} (H : Cnt E rec) (nt : NT) (ho : okN nt) (h : ∀ t R1, mN nt t + R1.length ≤ bN nt + R.length → K t R1) : W (rec nt R) K := fun t R' e => h t R' (H nt R ho t R' e)
theorem body_cnt {E : Int} {rec : NT → List Tk → Rs} (H : Cnt E rec) : Cnt E (body E rec) := by
  intro nt R ho
  have tl : R.tail.length ≤ R.length := by rw [List.length_tail]; omega
  cases nt
  case binMore least x =>
    simp only [body]
    split
    · exact W.ret (by simp only [mN, bN]; omega)
    · rename_i hl
      have ho' : (1 : Int) ≤ least := ho
      have hlen : R.length = R.tail.length + 1 := fx_len (E := E) fun e => by rw [e] at hl; exact hl (by show (0 : Int) < least; omega)
      refine W.bnd (W.call H _ (by show (1 : Int) ≤ _; omega) fun t R1 h1 => W.call H _ ho' fun t2 R2 h2 => ?_)
      simp only [mN, bN, layT, layTs, List.length_cons, List.length_append, List.length_nil] at *
      omega
  case program =>
    simp only [body]
    cases R with
    | nil => exact W.ret (by simp [mN, layTs, kids_node])
    | cons a l =>
      refine W.bnd (W.call H _ trivial fun t R1 h1 => W.bnd (W.call H _ trivial fun t2 R2 h2 => W.ret ?_))
      simp only [mN, bN, layT, layTs, layTs_append, kids_node, List.length_cons, List.length_append] at *
      omega
  all_goals
    simp only [body]
    repeat' (first
      | (refine W.need (by first | decide | exact ho | exact ho.1) fun _ => ?_)
      | (refine W.bnd ?_)
      | (refine W.nameK fun _ _ => ?_)
      | (refine W.keyK fun _ _ => ?_)
      | (refine W.propK fun _ _ => ?_)
      | (refine W.ifF (by first | decide | exact ho | exact ho.1) (fun _ => ?_) ?_)
      | (refine W.ifK (by decide) (fun _ => ?_) ?_)
      | (refine W.ifC (by decide) (fun _ => ?_) ?_)
      | (refine W.ite ?_ ?_)
      | (refine W.ret ?_)
      | (exact W.bad)
      | (refine W.call H _ (by first | trivial | exact plain_ok ho | exact plain_ok ho.2 | exact ho | exact ho.2 | rfl | (simp [okN, plainN]; done)) fun _ _ _ => ?_))
    all_goals (try simp only [plain_m ho.2, plain_b ho.2] at *)
    all_goals (try simp only [plain_m ho, plain_b ho] at *)
    all_goals (try simp only [mN, bN, layT, layTs, layTs_append, kids_node, List.length_cons, List.length_append, List.length_nil] at *)
    all_goals (try omega)
theorem Q_cnt (E : Int) : ∀ n, Cnt E (Q E n)
 | 0 => fun _ _ _ _ _ e => by cases e
 | n + 1 => body_cnt (Q_cnt E n)
theorem D.cnt {E : Int} {nt : NT} {R R' : List Tk} {t : Tr} (h : D E nt R (.ok (t, R'))) (ho : okN nt) : mN nt t + R'.length ≤ bN nt + R.length := by
 obtain ⟨n, h⟩ := h
 exact Q_cnt E n nt R ho t R' (h n (Nat.le_refl _))
theorem prog_cnt {E : Int} {R R' : List Tk} {t : Tr} (h : D E .program R (.ok (t, R'))) : (layT (nd 1 [] t.kids)).length ≤ R.length + 1 := by
 have := h.cnt trivial
 simp only [mN, bN] at this
 rw [layT, List.length_cons]; omega
end Go.Proofs.YtnkfodelgpidkaaGreatDoor
namespace Go.Proofs.YtnkfodelgpidkaaGreatDoor
def st (R : List Tk) : List (Int × List UInt8 × Int) := R.map fun t => (t.kind, t.text, t.bits)
def Rq (x y : Rs) : Prop := match x, y with
 | none, none => True
 | some (.error _), some (.error _) => True
 | some (.ok (t, R)), some (.ok (t', R')) => t = t' ∧ st R = st R'
 | _, _ => False
def Fr (E E' : Int) (R R' : List Tk) : Prop := (hd E R).kind = (hd E' R').kind ∧ (hd E R).text = (hd E' R').text ∧ (hd E R).bits = (hd E' R').bits ∧ fx (hd E R) = fx (hd E' R') ∧ ∀ s, isF E s R = isF E' s R'
end Go.Proofs.YtnkfodelgpidkaaGreatDoor
namespace Go.Proofs.YtnkfodelgpidkaaGreatDoor
def dep (l : List Tk) (op : Int) : Int := l.foldl (fun o t => opA t o) op
def brk (s : List UInt8) : Bool := opens s || shuts s
def Wrd (R : List Tk) : Prop := ∀ t ∈ R, t.kind = 2 → brk t.text = false
def Sb (a b : Int) (R R' : List Tk) : Prop := Wrd R' ∧ ∀ op : Int, 0 ≤ op → dep R (op + a) = dep R' (op + b)
def clo : NT → Int
 | .untl _ _ | .list _ _ => 1
 | .optional s => if shuts s then 1 else 0
 | _ => 0
def restN : NT → Bool
 | .leave _ => false
 | _ => true
def okB : NT → List Tk → Prop
 | .untl s it, _ | .list s it, _ => shuts s = true ∧ plainN it = true ∧ restN it = true
 | .row it, _ | .rowMore it, _ => plainN it = true ∧ restN it = true
 | .optional s, _ => s = [59] ∨ s = [41]
 | .binary l, _ | .binMore l _, _ => 1 ≤ l
 | .leave _, R => ∃ t l, R = t :: l ∧ brk t.text = false
 | _, _ => True
def BalN (rec : NT → List Tk → Rs) : Prop := ∀ nt R, okB nt R → W (rec nt R) fun _ R1 => Wrd R → Sb (clo nt) 0 R R1
def V (a b : Int) (R0 R : List Tk) (x : Rs) : Prop := Sb a b R0 R → W x fun _ R1 => Sb a 0 R0 R1
end Go.Proofs.YtnkfodelgpidkaaGreatDoor
namespace Go.Proofs.YtnkfodelgpidkaaGreatDoor
def stmN : NT → Bool
 | .element | .statement | .block | .ifElse | .whileDo | .doWhile | .forLoop | .forStart | .giveBack | .throwIt | .tryIt | .catchIt | .function _ _ | .leave _ | .list _ _ | .untl _ _ | .optional _ | .bracketed | .called _ | .part _ | .param | .primary | .fixedPrimary => true
 | _ => false
def okE : NT → Prop
 | .untl s it | .list s it => s ≠ [] ∧ plainN it = true
 | .row it | .rowMore it => plainN it = true
 | .optional s => s ≠ []
 | .binary l | .binMore l _ => 1 ≤ l
 | .program => False
 | _ => True
def Dead (s : Bool) (x : Rs) : Prop := W x fun _ Y => Y = [] ∧ s = false
def DeadN (f : NT → List Tk → Rs) : Prop := ∀ nt, okE nt → Dead (stmN nt) (f nt [])
def Ex (R0 : List Tk) (s : Bool) (x y : Rs) : Prop := W x fun t Y => (Y ≠ [] ∨ s = true) → y = some (.ok (t, Y ++ R0))
def ExN (R0 : List Tk) (f g : NT → List Tk → Rs) : Prop := ∀ nt R, okE nt → Ex R0 (stmN nt) (f nt R) (g nt (R ++ R0))
def Calm (E' : Int) (R0 : List Tk) : Prop := isF E' [101, 108, 115, 101] R0 = false ∧ isF E' [99, 97, 116, 99, 104] R0 = false ∧ isF E' [102, 105, 110, 97, 108, 108, 121] R0 = false
end Go.Proofs.YtnkfodelgpidkaaGreatDoor
namespace Go.Proofs.YtnkfodelgpidkaaGreatDoor
mutual
def htT : Tr → Nat
 | .node _ _ _ kids => htTs kids + 1
def htTs : List Tr → Nat
 | [] => 0
 | t :: l => max (htT t) (htTs l)
end
def hpop : List Nat → List Nat
 | [] => []
 | 0 :: [] => []
 | 0 :: y :: q => hpop ((y - 1) :: q)
 | (x + 1) :: r => (x + 1) :: r
termination_by l => l.length
def hrun : List Nat → Nat → List Nat → Nat
 | [], m, _ => m
 | n :: l, m, s => hrun l (max m (s.length + 1)) (hpop (n :: s))
def hdone : List Nat → List Nat
 | [] => []
 | y :: q => hpop ((y - 1) :: q)
theorem hpop_zero (s : List Nat) : hpop (0 :: s) = hdone s := by cases s <;> simp [hpop, hdone]
theorem hpop_pos (n : Nat) (s : List Nat) (h : 0 < n) : hpop (n :: s) = n :: s := by
 cases n with
 | zero => omega
 | succ n => simp [hpop]
mutual
theorem hrun_tree : ∀ (t : Tr) (r : List Nat) (m : Nat) (s : List Nat), hrun ((layT t).map LN.n ++ r) m s = hrun r (max m (s.length + htT t)) (hdone s)
 | .node k x b kids, r, m, s => by
  rw [layT, List.map_cons, List.cons_append, hrun, htT]
  cases kids with
  | nil => simp only [layTs, List.map_nil, List.nil_append, List.length_nil, htTs]; rw [hpop_zero, Nat.zero_add]
  | cons t l =>
   have hl : (t :: l).length ≠ 0 := by simp
   rw [show (⟨k, (t :: l).length, (layTs (t :: l)).length + 1, x, b⟩ : LN).n = (t :: l).length from rfl, hpop_pos _ _ (by omega), hrun_trees (t :: l) r _ s (by simp)]
   have : max (max m (s.length + 1)) (s.length + 1 + htTs (t :: l)) = max m (s.length + (htTs (t :: l) + 1)) := by omega
   rw [this]
theorem hrun_trees : ∀ (l : List Tr) (r : List Nat) (m : Nat) (s : List Nat), l ≠ [] → hrun ((layTs l).map LN.n ++ r) m (l.length :: s) = hrun r (max m (s.length + 1 + htTs l)) (hdone s)
 | [], _, _, _, h => absurd rfl h
 | t :: l, r, m, s, _ => by
  rw [layTs, List.map_append, List.append_assoc, hrun_tree t]
  cases l with
  | nil =>
   simp only [layTs, List.map_nil, List.nil_append, htTs, List.length_cons, List.length_nil, hdone]
   rw [show (0 + 1 - 1 : Nat) = 0 from rfl, hpop_zero]
   congr 1; omega
  | cons u q =>
   rw [show hdone ((t :: u :: q).length :: s) = (u :: q).length :: s by simp only [hdone, List.length_cons]; rw [Nat.add_sub_cancel]; exact hpop_pos _ _ (by omega), hrun_trees (u :: q) r _ s (by simp)]
   simp only [htTs, List.length_cons]; congr 1; omega
end
theorem hrun_lay (t : Tr) : hrun ((layT t).map LN.n) 0 [] = htT t := by
 have := hrun_tree t [] 0 []
 rw [List.append_nil] at this
 rw [this]; simp [hrun]
def kidsF (sz : Nat → Nat) (len : Nat) : Nat → Nat → List Nat
 | 0, _ => []
 | n + 1, p => if p < len then p :: (if sz p < 1 ∨ len - p < sz p then [] else kidsF sz len n (p + sz p)) else []
def begs : List Tr → Nat → List Nat
 | [], _ => []
 | t :: l, p => p :: begs l (p + (layT t).length)
def szAt (L : List LN) (p : Nat) : Nat := (L[p]?.map LN.size).getD 0
def sumF (sz : Nat → Nat) (l : List Nat) : Nat := l.foldl (fun a p => a + sz p) 1
end Go.Proofs.YtnkfodelgpidkaaGreatDoor
namespace Go.Proofs.YtnkfodelgpidkaaGreatDoor
open Go.RowKit
theorem info_int : (Tryz.prog.info? 3).map (fun i => (i.zero, i.size, i.bytes)) = some (some (.int .i64 0), 1, 8) := by kernel_rfl
def LN.val (l : LN) : Value := .agg #[.int .i64 l.kind, .int .i64 (l.n : Int), .int .i64 (l.size : Int), .string (bs l.text), .int .u64 l.bits]
def NRow (w : World) (v : Value) (L : List LN) : Prop :=
 (L = [] ∧ ∃ ao cap, v = .slice ao 0 cap) ∨ ∃ g cap, g < w.heap.size ∧ v = .slice (some ⟨g, 0, none⟩) L.length cap ∧ ∀ (i : Nat) (h : i < L.length), w.cell? ⟨g, i * 5, none⟩ = some (.int .i64 L[i].kind) ∧ w.cell? ⟨g, i * 5 + 1, none⟩ = some (.int .i64 (L[i].n : Int)) ∧ w.cell? ⟨g, i * 5 + 2, none⟩ = some (.int .i64 (L[i].size : Int)) ∧ w.cell? ⟨g, i * 5 + 3, none⟩ = some (.string (bs L[i].text)) ∧ w.cell? ⟨g, i * 5 + 4, none⟩ = some (.int .u64 L[i].bits)
theorem NRow.below {w w' : World} {v : Value} {L : List LN} (h : NRow w v L) (hb : Below w.heap.size w w') : NRow w' v L := by
 rcases h with h | ⟨g, cap, hg, hv, hc⟩
 ·exact .inl h
 ·refine .inr ⟨g, cap, Nat.lt_of_lt_of_le hg hb.size, hv, fun i hi => ?_⟩
  obtain ⟨h0, h1, h2, h3, h4⟩ := hc i hi
  exact ⟨(hb.cell (p := ⟨g, _, none⟩) hg).trans h0, (hb.cell (p := ⟨g, _, none⟩) hg).trans h1, (hb.cell (p := ⟨g, _, none⟩) hg).trans h2, (hb.cell (p := ⟨g, _, none⟩) hg).trans h3, (hb.cell (p := ⟨g, _, none⟩) hg).trans h4⟩
theorem NRow.slice {w : World} {v : Value} {L : List LN} (h : NRow w v L) : ∃ ao cap, v = .slice ao L.length cap := by
 rcases h with ⟨rfl, ao, cap, h⟩ | ⟨g, cap, _, h, _⟩
 ·exact ⟨ao, cap, h⟩
 ·exact ⟨_, cap, h⟩
theorem NRow.get {w : World} {ao : Option Addr} {cap : Nat} {L : List LN} (h : NRow w (.slice ao L.length cap) L) (hl : 0 < L.length) : ∃ g, ao = some ⟨g, 0, none⟩ ∧ g < w.heap.size ∧ ∀ (i : Nat) (h : i < L.length), w.cell? ⟨g, i * 5, none⟩ = some (.int .i64 L[i].kind) ∧ w.cell? ⟨g, i * 5 + 1, none⟩ = some (.int .i64 (L[i].n : Int)) ∧ w.cell? ⟨g, i * 5 + 2, none⟩ = some (.int .i64 (L[i].size : Int)) ∧ w.cell? ⟨g, i * 5 + 3, none⟩ = some (.string (bs L[i].text)) ∧ w.cell? ⟨g, i * 5 + 4, none⟩ = some (.int .u64 L[i].bits) := by
 rcases h with ⟨h, _⟩ | ⟨g, cap', hg, hv, hc⟩
 ·rw [h] at hl; exact absurd hl (Nat.lt_irrefl 0)
 ·injection hv with h1 _ _
  exact ⟨g, h1, hg, hc⟩
theorem cellsL_at : ∀ (L : List LN) (i k : Nat) (h : i < L.length), k < 5 → (cellsL L)[i * 5 + k]? = (L[i].cells)[k]? := by
 intro L
 induction L with
 | nil => intro i k h; simp at h
 | cons l r ih =>
  intro i k h hk
  have e : cellsL (l :: r) = l.cells ++ cellsL r := by simp [cellsL]
  have h5 : l.cells.length = 5 := rfl
  rw [e]
  cases i with
  | zero => rw [Nat.zero_mul, Nat.zero_add, List.getElem?_append_left (by omega)]; rfl
  | succ i =>
   rw [List.getElem?_append_right (by omega), h5, show (i + 1) * 5 + k - 5 = i * 5 + k by omega, ih i k (by simpa using h) hk]
   rfl
theorem NRow.own {w : World} {B : Nat} {v : Value} {L : List LN} (h : w.ownsRow B 33 5 v L.length (cellsL L)) : NRow w v L := by
 obtain ⟨ao, cap, rfl⟩ := own_slice h
 by_cases h0 : L.length = 0
 ·exact .inl ⟨List.eq_nil_of_length_eq_zero h0, ao, cap, by rw [h0]⟩
 ·obtain ⟨g, cp, hv, hg1, hg2⟩ := h.form (by omega)
  injection hv with hv _ _
  subst hv
  refine .inr ⟨g, cap, hg2, rfl, fun i hi => ?_⟩
  have c := fun k (hk : k < 5) => (h.cellAt (i * 5 + k) (by omega)).trans (cellsL_at L i k hi hk)
  exact ⟨c 0 (by omega), c 1 (by omega), c 2 (by omega), c 3 (by omega), c 4 (by omega)⟩
def ints (s : List Nat) : List Value := s.reverse.map fun (n : Nat) => Value.int .i64 (n : Int)
theorem ints_cons (x : Nat) (s : List Nat) : ints (x :: s) = ints s ++ [.int .i64 (x : Int)] := by simp [ints]
theorem ints_top {w : World} {B g n cap : Nat} {x : Nat} {r : List Nat} (hn : n = r.length + 1) (h : w.ownsRow B 3 1 (.slice (some ⟨g, 0, none⟩) n cap) n (ints (x :: r))) : w.cell? ⟨g, r.length, none⟩ = some (.int .i64 (x : Int)) := by
 subst hn
 have := h.cellAt r.length (by omega)
 rw [this, ints_cons, List.getElem?_append_right (by simp [ints]), show r.length - (ints r).length = 0 by simp [ints]]; rfl
theorem own_cap {w : World} {B g n cap size : Nat} {e : TypeId} {xs : List Value} (h : w.ownsRow B e size (.slice (some ⟨g, 0, none⟩) n cap) n xs) : n ≤ cap := by
 rcases h.2 with ⟨h1, _⟩ | ⟨g', cap', cur, h1, _, _, h2, _⟩
 ·cases h1
 ·injection h1 with _ _ h1; omega
theorem ints_set (x u : Nat) (r : List Nat) : (ints (x :: r)).set r.length (.int .i64 (u : Int)) = ints (u :: r) := by
 rw [ints_cons, ints_cons, List.set_append_right _ _ (by simp [ints]), show r.length - (ints r).length = 0 by simp [ints]]; rfl
theorem ints_len (s : List Nat) : (ints s).length = s.length := by simp [ints]
theorem height_any (w : World) (v : Value) (L : List LN) (h : NRow w v L) (hl : L.length ≤ 100000) (hn : ∀ l ∈ L, l.n < 1000000) :
  Calls Tryz.prog 19 #[v] w fun e w' => e = .returned (.int .i64 ((hrun (L.map LN.n) 0 [] : Nat) : Int)) ∧ Below w.heap.size w w' := by
 obtain ⟨ao, cp, rfl⟩ := h.slice
 have HN := Lib.hid h
 obtain ⟨i0, hi, hz0, hz1', hz2⟩ := info_parts info_int
 have HI := Lib.hid hi
 have HZ0 := Lib.hid hz0
 have HZ1 := Lib.hid hz1'
 have HZ2 := Lib.hid hz2
 have HNN := Lib.hid hn
 clear h hi hz0 hz1' hz2 hn
 obtain ⟨G, hG⟩ : ∃ G : Nat, G = hrun (L.map LN.n) 0 [] := ⟨_, rfl⟩
 rw [← hG]
 have HG := Lib.hid hG
 clear hG
 go_enter Tryz.func19, Tryz.ntmps19
 go_wp2_with fail
 go_loopg [3, 4, 9] L.length (fun g hh ll ii wr => ∃ (i m : Nat) (s : List Nat), hh = .int .i64 (m : Int) ∧ ii = .int .i64 (i : Int) ∧ g = L.length - i ∧ i ≤ L.length ∧ s.length ≤ i ∧ m ≤ i ∧ Hid (∀ x ∈ s, 1 ≤ x ∧ x < 1000000) ∧ Hid (wr.ownsRow w.heap.size 3 1 ll s.length (ints s)) ∧ Hid (Below w.heap.size w wr) ∧ Hid (G = hrun ((L.drop i).map LN.n) m s))
 case atStart => exact ⟨0, 0, [], rfl, rfl, rfl, Nat.zero_le _, Nat.zero_le _, Nat.zero_le _, fun x hx => (by simp at hx), World.ownsRow_nil _ _ _ _, Below.refl _ _, HG.out⟩
 case round =>
  obtain ⟨i, m, s, rfl, rfl, rfl, hi, hsi, hmi, HS, HR, HB, HGG⟩ := hrel
  obtain ⟨ao2, cp2, rfl⟩ := own_slice HR.out
  by_cases hlt : i < L.length
  ·have HNB := HN.out.below HB.out
   obtain ⟨g, rfl, hg, hc⟩ := HNB.get (by omega)
   obtain ⟨c0, c1, c2, c3, c4⟩ := hc i hlt
   clear hc HNB
   have hni := HNN.out L[i] (List.getElem_mem hlt)
   have hdr : L.drop i = L[i] :: L.drop (i + 1) := List.drop_eq_getElem_cons hlt
   generalize hq : L[i] = q at *
   obtain ⟨qk, qn, qs, qx, qb⟩ := q
   simp only at c0 c1 c2 c3 c4 hni
   have HDR := Lib.hid hdr
   have HQ := Lib.hid hq
   clear hdr hq
   have hown := HR.out
   have hi := HI.out
   have hz0 := HZ0.out
   have hz1 := HZ1.out
   have hz2 := HZ2.out
   have hsz : w.heap.size ≤ wr.heap.size := HB.out.size
   go_wp2_with (at_builtin; refine wpList_append_own _ rfl _ _ 34 rfl w.heap.size 3 i0 _ 1 8 Tryz.underlying34 hi hz0 hz1 hz2 rfl (by decide) _ _ _ rfl ((hown.alloc _).alloc _) ⟨wr.heap.size + 1, 0, none⟩ 1 1 [.int .i64 (qn : Int)] rfl rfl ?c1 ?c2 ?c3 ?c4 ?c5 ?_)
   case c1 =>
    intro j u hj
    match j, hj with
    | 0, hj => simp at hj; subst hj; simp [Addr.add]
   case c2 => intro u hu; simp at hu; subst hu; rfl
   case c3 => unfold maxLen; omega
   case c4 => omega
   case c5 => simp; omega
   intro v' w3 hown' hgrow _
   have hbel : Below w.heap.size wr w3 := (((Below.refl _ wr).alloc hsz _).alloc (by simp; omega) _).grown hgrow (by simp; omega) (fun k hk => (hown.lt k hk).1)
   have HB3 := Lib.hid (HB.out.trans hbel)
   rw [← ints_cons] at hown'
   have HW3 := Lib.hid hown'
   obtain ⟨ao3, cp3, rfl⟩ := own_slice hown'
   clear hown' hgrow hbel hown hi hz0 hz1 hz2 c0 c1 c2 c3 c4 hg
   have HG3 : Hid (G = hrun ((L.drop (i + 1)).map LN.n) (max m (s.length + 1)) (hpop (qn :: s))) := by
    show _ = _; rw [HGG.out, HDR.out, List.map_cons, hrun]
   have HS3 : Hid (∀ x ∈ (qn :: s), x < 1000000) := fun x hx => by
    rcases List.mem_cons.1 hx with rfl | hx
    ·exact hni
    ·exact (HS.out x hx).2
   have HS4 : Hid (∀ x ∈ (qn :: s).tail, 1 ≤ x) := fun x hx => (HS.out x hx).1
   clear HGG HR HB HDR HQ hsz
   go_wp2_with fail
   all_goals
    go_loopg [4] (s.length + 1) (fun g2 ll2 wr2 => ∃ (cur : List Nat), g2 = cur.length ∧ cur.length ≤ i + 1 ∧ Hid (∀ x ∈ cur, x < 1000000) ∧ Hid (∀ x ∈ cur.tail, 1 ≤ x) ∧ Hid (wr2.ownsRow w.heap.size 3 1 ll2 cur.length (ints cur)) ∧ Hid (Below w.heap.size w wr2) ∧ Hid (hpop cur = hpop (qn :: s)))
    case atStart => exact ⟨qn :: s, rfl, by simp; omega, HS3.out, HS4.out, HW3.out, HB3.out, rfl⟩
    case round =>
     obtain ⟨cur, rfl, hcl, C3, C4, CW, CB, CP⟩ := hrel
     obtain ⟨ao4, cp4, rfl⟩ := own_slice CW.out
     cases cur with
     | nil =>
      go_wp2_with fail
      go_roundg (L.length - (i + 1))
      case measure => omega
      case rel => exact ⟨i + 1, max m (s.length + 1), [], by congr 1; omega, rfl, rfl, hlt, Nat.zero_le _, by omega, fun x hx => (by simp at hx), CW.out, CB.out, by have := HG3.out; rw [← CP.out, hpop] at this; exact this⟩
     | cons x r =>
      have hx := C3.out x List.mem_cons_self
      obtain ⟨g4, cp5, hv, hg4, hg5⟩ := CW.out.form (by simp)
      injection hv with hv _ hv2
      subst hv; subst hv2
      have cx := ints_top (by simp) CW.out
      rw [List.length_cons] at CW hcl
      cases x with
      | succ x =>
       have hx1 : ¬ ((x : Int) + 1) < 1 := by omega
       go_wp2_with fail
       go_roundg (L.length - (i + 1))
       case measure => omega
       case rel => exact ⟨i + 1, max m (s.length + 1), (x + 1) :: r, by congr 1; omega, rfl, rfl, hlt, by rw [List.length_cons]; omega, by omega, fun y hy => (by rcases List.mem_cons.1 hy with rfl | hy; exact ⟨by omega, hx⟩; exact ⟨C4.out y hy, C3.out y (List.mem_cons_of_mem _ hy)⟩), CW.out, CB.out, by have := HG3.out; rw [← CP.out, hpop] at this; exact this⟩
      | zero =>
       have hcap := own_cap CW.out
       have hpop1 := ownsRow_pop (w := wr) (n := r.length) (xs := ints r) (last := [.int .i64 ((0 : Nat) : Int)]) (by rw [ints_len, Nat.mul_one]) (by rw [← ints_cons]; exact CW.out)
       have HP1 := Lib.hid hpop1
       clear hpop1
       cases r with
       | nil =>
        have hcap0 : (0 : Int) ≤ (cp4 : Int) := by omega
        have hcap1 : ¬ cp4 = 0 := by have h2 : 0 + 1 ≤ cp4 := hcap; omega
        have cx0 : wr.cell? ⟨g4, 0, none⟩ = some (.int .i64 0) := cx
        go_wp2_with fail
        go_roundg 0
        case measure => simp
        case rel => exact ⟨[], rfl, Nat.zero_le _, fun x hx => (by simp at hx), fun x hx => (by simp at hx), HP1.out, CB.out, by have := CP.out; rw [hpop] at this; rw [hpop]; exact this⟩
       | cons y q =>
        have cy := ints_top (by simp) HP1.out
        have fy : wr.frozen? ⟨g4, q.length, none⟩ = false := HP1.out.frozenAt _
        have hy := C4.out y List.mem_cons_self
        have hy2 := C3.out y (List.mem_cons_of_mem _ List.mem_cons_self)
        simp only [List.length_cons] at CW hcl HP1 cx cy hcap
        have hcap0 : (q.length : Int) + 1 ≤ (cp4 : Int) := by omega
        have hcap1 : ¬ cp4 = 0 := by omega
        go_wp2_with fail
        have hst := (HP1.out.stored q.length (.int .i64 ((y - 1 : Nat) : Int))).1
        rw [ints_set, show ((y - 1 : Nat) : Int) = (y : Int) - 1 by omega] at hst
        go_roundg (q.length + 1)
        case measure => omega
        case rel => exact ⟨(y - 1) :: q, rfl, by simp only [List.length_cons]; omega, fun z hz => (by rcases List.mem_cons.1 hz with rfl | hz; omega; exact C3.out z (List.mem_cons_of_mem _ (List.mem_cons_of_mem _ hz))), fun z hz => C4.out z (List.mem_cons_of_mem _ hz), hst, CB.out.setCell hg4 _, by have := CP.out; rw [hpop] at this; exact this⟩
  ·go_wp2_with fail
   have he : i = L.length := by omega
   subst he
   have hgg := HGG.out
   rw [List.drop_length, List.map_nil, hrun] at hgg
   subst hgg
   go_ret
   exact ⟨rfl, HB.out⟩
end Go.Proofs.YtnkfodelgpidkaaGreatDoor
namespace Go.Proofs.YtnkfodelgpidkaaGreatDoor
open Go.RowKit
mutual
theorem layT_n : ∀ (t : Tr) (l : LN), l ∈ layT t → l.n ≤ (layT t).length ∧ l.size ≤ (layT t).length
 | .node k x b kids, l, h => by
  rw [layT] at h ⊢
  rw [List.length_cons]
  rcases List.mem_cons.1 h with rfl | h
  ·refine ⟨?_, Nat.le_refl _⟩
   show kids.length ≤ _
   have := layTs_ge2 kids; omega
  ·have := layTs_n kids l h; omega
theorem layTs_n : ∀ (ts : List Tr) (l : LN), l ∈ layTs ts → l.n ≤ (layTs ts).length ∧ l.size ≤ (layTs ts).length
 | [], l, h => by simp [layTs] at h
 | t :: r, l, h => by
  rw [layTs, List.length_append]
  rw [layTs] at h
  rcases List.mem_append.1 h with h | h
  ·have := layT_n t l h; omega
  ·have := layTs_n r l h; omega
theorem layTs_ge2 : ∀ l : List Tr, l.length ≤ (layTs l).length
 | [] => Nat.le_refl _
 | t :: l => by rw [layTs, List.length_append, List.length_cons]; have := layTs_ge2 l; have := layT_pos t; omega
end
theorem Height_tree (w : World) (v : Value) (t : Tr) (h : NRow w v (layT t)) (hl : (layT t).length ≤ 100000) :
  Calls Tryz.prog 19 #[v] w fun e w' => e = .returned (.int .i64 ((htT t : Nat) : Int)) ∧ Below w.heap.size w w' := by
 have := height_any w v (layT t) h hl fun l hm => by have := layT_n t l hm; omega
 rw [hrun_lay] at this
 exact this
def intsR (l : List Nat) : List Value := l.map fun (n : Nat) => Value.int .i64 (n : Int)
end Go.Proofs.YtnkfodelgpidkaaGreatDoor
namespace Go.Proofs.YtnkfodelgpidkaaGreatDoor
open Go.RowKit
/- How long. -/
theorem txt_len : ∀ (j : Nat) {q : UInt8} {R o : List UInt8} {m : Nat}, R.length ≤ j → txt q R = some (o, m) → o.length ≤ 4 * R.length
 | j, q, [], o, m, _, h => by rw [txt] at h; cases h
 | 0, q, c :: r, o, m, hj, h => by simp at hj
 | j + 1, q, c :: r, o, m, hj, h => by
  rw [txt] at h
  split at h
  ·injection h with h; injection h with h1 h2; subst h1; simp
  ·cases ho : oneT (c :: r) with
   | none => rw [ho] at h; cases h
   | some x =>
    obtain ⟨o1, n⟩ := x
    rw [ho] at h
    simp only at h
    have hn : 1 ≤ n ∧ o1.length ≤ 4 := by
     unfold oneT at ho
     simp only at ho
     split at ho
     ·cases he : escT r with
      | none => rw [he] at ho; cases ho
      | some y =>
       obtain ⟨o2, n2⟩ := y
       rw [he] at ho
       injection ho with ho; injection ho with ho1 ho2
       subst ho1
       have := escT_size he; omega
     ·split at ho
      ·cases ho
      ·injection ho with ho; injection ho with ho1 ho2; subst ho1; subst ho2; simp
    cases ht : txt q (r.drop (n - 1)) with
    | none => rw [ht] at h; cases h
    | some y =>
     obtain ⟨o2, m2⟩ := y
     rw [ht] at h
     injection h with h; injection h with h1 _
     subst h1
     have := txt_len j (by rw [List.length_drop]; simp at hj; omega) ht
     rw [List.length_drop] at this
     simp; omega
theorem tok_len {R : List UInt8} {t : Tk} {n : Nat} (h : tokO R = some (t, n)) : t.text.length ≤ 4 * R.length := by
 match R with
 | [] => cases h
 | c :: r =>
  unfold tokO at h
  simp only at h
  split at h
  ·split at h
   ·cases h
   ·injection h with h; injection h with h _; subst h; simp
  ·split at h
   ·injection h with h; injection h with h _; subst h
    show (List.take _ _).length ≤ _
    rw [List.length_take]; simp; omega
   ·split at h
    ·split at h
     ·cases h
     ·rename_i hx
      injection h with h; injection h with h _; subst h
      have := txt_len _ (Nat.le_refl _) hx
      simp; omega
    ·split at h
     ·cases h
     ·injection h with h; injection h with h _; subst h
      show (List.take _ _).length ≤ _
      rw [List.length_take]; simp; omega
theorem lexB_lens : ∀ (j : Nat) (R : List UInt8) (a op : Int) (m : List Tk), R.length ≤ j → lexB R a op = .ok m → m.length ≤ R.length ∧ ∀ t ∈ m, t.text.length ≤ 4 * R.length
 | j, [], a, op, m, _, h => by rw [lexB] at h; injection h with h; subst h; simp
 | 0, c :: r, a, op, m, hj, h => by simp at hj
 | j + 1, c :: r, a, op, m, hj, h => by
  rw [lexB_cons] at h
  cases ht : tokO (c :: r) with
  | none => rw [ht] at h; cases h
  | some x =>
   obtain ⟨t, n⟩ := x
   rw [ht] at h
   simp only at h
   have h1 := tok_len ht
   have h2 := tokO_size ht
   split at h
   ·cases h
   ·unfold lexA at h
    cases hg : gap (r.drop (n - 1)) with
    | mk k f =>
     rw [hg] at h
     cases f
     ·cases h
     ·simp only at h
      cases hx : lexB ((r.drop (n - 1)).drop k) (a + n + k) (opA t op) with
      | error e => rw [hx] at h; cases h
      | ok l =>
       rw [hx] at h
       injection h with h
       subst h
       obtain ⟨i1, i2⟩ := lexB_lens j _ _ _ l (by rw [List.length_drop, List.length_drop]; simp at hj; omega) hx
       rw [List.length_drop, List.length_drop] at i1 i2
       refine ⟨by simp; omega, fun u hu => ?_⟩
       rcases List.mem_cons.1 hu with rfl | hu
       ·exact h1
       ·have := i2 u hu; simp; omega
theorem lex_lens {L : List UInt8} {m : List Tk} (h : lexL L = .ok m) : m.length ≤ L.length ∧ ∀ t ∈ m, t.text.length ≤ 4 * L.length := by
 unfold lexL at h
 split at h
 ·cases h
 ·cases hk : chk L 0 with
  | some k => rw [hk] at h; cases h
  | none =>
   rw [hk] at h
   simp only at h
   unfold lexA at h
   cases hg : gap L with
   | mk k f =>
    rw [hg] at h
    cases f with
    | false => cases h
    | true =>
     obtain ⟨i1, i2⟩ := lexB_lens _ _ _ _ m (Nat.le_refl _) h
     rw [List.length_drop] at i1 i2
     exact ⟨by omega, fun t ht => by have := i2 t ht; omega⟩
theorem gd_bits {t : Tk} (h : Gd t) : 0 ≤ t.bits ∧ t.bits < 18446744073709551616 := by
 rcases h with ⟨_, _, h⟩ | ⟨_, _, h⟩ | ⟨_, _, u, _, h⟩ | ⟨_, _, h⟩ | ⟨_, _, h⟩
 ·omega
 ·omega
 ·rw [h]; exact ⟨ofI_nonneg _, ofI_lt _⟩
 ·omega
 ·omega
end Go.Proofs.YtnkfodelgpidkaaGreatDoor
