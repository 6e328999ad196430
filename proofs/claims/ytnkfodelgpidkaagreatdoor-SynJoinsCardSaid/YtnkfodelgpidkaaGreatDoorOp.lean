/- A node whose kids are still coming. -/
import Derived.Test.YtnkfodelgpidkaaGreatDoorCl
import Derived.Test.YtnkfodelgpidkaaGreatDoorG8
import Derived.Deep.RegionLaw
namespace Go.Proofs.YtnkfodelgpidkaaGreatDoor
open Go.RowKit
set_option linter.unusedVariables false

/-- A new node, its row of kids, the trees in it. -/
def Opn (lo : Nat) (w : World) (a : Nat) (k : Int) (x : List UInt8) (v : Value) (vs : List Value) (kids : List Tr) : Prop :=
  lo ≤ a ∧ w.heap[a]? = some (.cells #[.int .i64 k, .string (bs x), .int .u64 0, v] 89 (0, 0)) ∧ w.ownsRow lo 59 1 v vs.length vs ∧ v.ownBlock ≠ some a ∧
  ∃ S : Nat → Prop, IsTs w S vs kids ∧ (∀ i, S i → F lo w.heap.size i) ∧ (∀ g, v.ownBlock = some g → ¬ S g) ∧ ¬ S a
section
variable {lo a : Nat} {w w' : World} {k : Int} {x : List UInt8} {v : Value} {vs : List Value} {kids : List Tr}
theorem Opn.lt (h : Opn lo w a k x v vs kids) : a < w.heap.size := lt_of_get h.2.1
theorem Opn.c3 (h : Opn lo w a k x v vs kids) : w.cell? ⟨a, 3, none⟩ = some v := by have := h.2.1; simp [World.cell?, this]
theorem Opn.fz (h : Opn lo w a k x v vs kids) : w.frozen? ⟨a, 3, none⟩ = false := by have := h.2.1; simp [World.frozen?, this]
theorem Opn.slice (h : Opn lo w a k x v vs kids) : ∃ ao cp, v = .slice ao vs.length cp := own_slice h.2.2.1
theorem Opn.off {b : Nat} (h : Opn lo w a k x v vs kids) (ho : Off b w w') (hb : b < lo) : Opn lo w' a k x v vs kids := by
  have hl := h.lt
  obtain ⟨h1, h2, h3, h4, S, h5, h6, h7, h8⟩ := h
  exact ⟨h1, (ho.block a hl (by omega)).trans h2, own_offN h3 ho hb, h4, S, h5.keep (fun _ h => h) fun i hi => ho.block i (h6 i hi).2 (by have := (h6 i hi).1; omega), fun i hi => F.mono (Nat.le_refl _) ho.size i (h6 i hi), h7, h8⟩
theorem own_stay (h : w.ownsRow lo 59 1 v vs.length vs) (hb : Below w.heap.size w w') : w'.ownsRow lo 59 1 v vs.length vs := by
  refine h.kept (row := none) ⟨hb.os, hb.tape, hb.output, hb.size, fun k hk _ => hb.block k hk⟩ ?_
  cases hv : v.ownBlock with
  | none => exact .inl rfl
  | some g => exact .inr (by simp)
theorem Opn.stay (h : Opn lo w a k x v vs kids) (hb : Below w.heap.size w w') : Opn lo w' a k x v vs kids := by
  have hl := h.lt
  obtain ⟨h1, h2, h3, h4, S, h5, h6, h7, h8⟩ := h
  exact ⟨h1, (hb.block a hl).trans h2, own_stay h3 hb, h4, S, h5.keep (fun _ h => h) fun i hi => hb.block i (h6 i hi).2, fun i hi => F.mono (Nat.le_refl _) hb.size i (h6 i hi), h7, h8⟩
theorem Opn.isT (h : Opn lo w a k x v vs kids) : IsT w (F lo w.heap.size) (.pointer (some ⟨a, 0, none⟩)) (nd k x kids) := by
  have hl := h.lt
  obtain ⟨h1, h2, h3, h4, S, h5, h6, h7, h8⟩ := h
  refine isT_made ⟨h1, hl⟩ h2 (vs := vs) ?_ (h5.keep h6 fun _ _ => rfl)
  by_cases h0 : vs.length = 0
  · obtain ⟨ao, cp, rfl⟩ := own_slice h3
    have : vs = [] := List.eq_nil_of_length_eq_zero h0
    subst this
    exact .inl ⟨rfl, ao, cp, rfl⟩
  · obtain ⟨g, cp, rfl, hg1, hg2⟩ := h3.form (by omega)
    refine .inr ⟨g, cp, ⟨hg1, hg2⟩, rfl, fun i hi => (h3.cellAt i (by omega)).trans ?_⟩
    rw [List.getElem?_eq_getElem hi]
end
/-- Newly made, without kids. -/
theorem opn_none {wN w5 : World} {lo : Nat} {k : Int} {x : List UInt8} {e : Ending} (hlo : lo ≤ wN.heap.size) (hm : Made wN k (bs x) (.slice none 0 0) e w5) :
    ∃ a, e = .returned (.pointer (some ⟨a, 0, none⟩)) ∧ Opn lo w5 a k x (.slice none 0 0) [] [] ∧ Below wN.heap.size wN w5 := by
  obtain ⟨a, rfl, ha, hh, hB⟩ := hm
  exact ⟨a, rfl, ⟨by omega, hh, World.ownsRow_nil _ _ _ _, (fun h => by cases h), fun _ => False, IsTs.nil _ _, fun _ h => h.elim, fun _ _ h => h, fun h => h⟩, hB⟩
/-- Newly made, with kids that were there. -/
theorem opn_kids {wN w5 : World} {lo : Nat} {vs : List Value} {kids : List Tr} {k : Int} {x : List UInt8} {e : Ending} (hn : 0 < vs.length) (hn2 : vs.length ≤ 8) (hk : IsTs wN (F lo wN.heap.size) vs kids) (hlo : lo ≤ wN.heap.size)
    (hm : Made (wN.alloc (.cells vs.toArray 59)) k (bs x) (.slice (some ⟨wN.heap.size, 0, none⟩) vs.length vs.length) e w5) :
    ∃ a, e = .returned (.pointer (some ⟨a, 0, none⟩)) ∧ Opn lo w5 a k x (.slice (some ⟨wN.heap.size, 0, none⟩) vs.length vs.length) vs kids ∧ Below wN.heap.size wN w5 := by
  obtain ⟨a, rfl, ha, hh, hB⟩ := hm
  have h1 : Below wN.heap.size wN (wN.alloc (.cells vs.toArray 59)) := (Below.refl _ _).alloc (Nat.le_refl _) _
  have h2 := below_trans h1 hB h1.size
  have hz : (wN.alloc (.cells vs.toArray 59)).heap.size = wN.heap.size + 1 := by simp
  have hrow : w5.heap[wN.heap.size]? = some (.cells vs.toArray 59 (0, 0)) := (hB.block _ (by omega)).trans (heap_alloc_new wN _)
  refine ⟨a, rfl, ⟨by omega, hh, ⟨by rw [Nat.mul_one], .inr ⟨wN.heap.size, vs.length, vs.toArray, rfl, hlo, hrow, Nat.le_refl _, by unfold maxLen; omega, by simp, by simp⟩⟩, fun h => ?_, F lo wN.heap.size, hk.keep (fun _ h => h) fun i hi => h2.block i hi.2, F.mono (Nat.le_refl _) h2.size, fun g hg hs => ?_, fun hs => ?_⟩, h2⟩
  · have e : wN.heap.size = a := by simpa [Value.ownBlock] using h
    omega
  · have e : wN.heap.size = g := by simpa [Value.ownBlock] using hg
    have := hs.2; omega
  · have := hs.2; omega
/-- Newly made, over a row that was there. -/
theorem opn_row {wN w5 : World} {lo : Nat} {v : Value} {S : Nat → Prop} {vs : List Value} {kids : List Tr} {k : Int} {x : List UInt8} {e : Ending} (hk : IsTs wN S vs kids) (hS : ∀ i, S i → F lo wN.heap.size i) (hN : ∀ g, v.ownBlock = some g → ¬ S g) (hlo : lo ≤ wN.heap.size)
    (ho : wN.ownsRow lo 59 1 v vs.length vs) (hm : Made wN k (bs x) v e w5) :
    ∃ a, e = .returned (.pointer (some ⟨a, 0, none⟩)) ∧ Opn lo w5 a k x v vs kids ∧ Below wN.heap.size wN w5 := by
  obtain ⟨a, rfl, ha, hh, hB⟩ := hm
  exact ⟨a, rfl, ⟨by omega, hh, own_stay ho hB, fun h => by have := (ho.lt a h).2; omega, S, hk.keep (fun _ h => h) fun i hi => hB.block i (hS i hi).2, fun i hi => F.mono (Nat.le_refl _) hB.size i (hS i hi), hN, fun hs => by have := (hS a hs).2; omega⟩, hB⟩
/-- What stands in the node behind an append to its row. -/
theorem Opn.grown {lo a : Nat} {w w3 : World} {k : Int} {x : List UInt8} {v xv : Value} {vs : List Value} {kids : List Tr} {T : TypeId} (h : Opn lo w a k x v vs kids) (hgrow : (w.alloc (.cells #[xv] T)).grownBy w3 v.ownBlock) :
    w3.cell? ⟨a, 3, none⟩ = some v ∧ w3.frozen? ⟨a, 3, none⟩ = false := by
  have hl := h.lt
  have hz : (w.alloc (.cells #[xv] T)).heap.size = w.heap.size + 1 := by simp
  have ha3 : w3.heap[a]? = some (.cells #[.int .i64 k, .string (bs x), .int .u64 0, v] 89 (0, 0)) := ((hgrow.block a (by omega) (fun e => h.2.2.2.1 e.symm)).trans (Below.heap_alloc w _ a hl)).trans h.2.1
  exact ⟨by simp [World.cell?, ha3], by simp [World.frozen?, ha3]⟩
/-- One kid more. -/
theorem Opn.push {lo lo2 a : Nat} {w w3 : World} {k : Int} {x : List UInt8} {v xv : Value} {vs : List Value} {kids : List Tr} {t : Tr} {g cap : Nat} {T : TypeId} (h : Opn lo w a k x v vs kids) (hx : IsT w (F lo2 w.heap.size) xv t) (hlo : lo ≤ lo2) (hal : a < lo2)
    (hold : ∀ i, v.ownBlock = some i → i < lo2) (hown : w3.ownsRow lo 59 1 (.slice (some ⟨g, 0, none⟩) (vs.length + 1) cap) (vs.length + 1) (vs ++ [xv]))
    (hgrow : (w.alloc (.cells #[xv] T)).grownBy w3 v.ownBlock) (hat : v.ownBlock = some g ∨ g = w.heap.size + 1) :
    Opn lo (w3.setCell ⟨a, 3, none⟩ (.slice (some ⟨g, 0, none⟩) (vs.length + 1) cap)) a k x (.slice (some ⟨g, 0, none⟩) (vs.length + 1) cap) (vs ++ [xv]) (kids ++ [t]) := by
  have hl := h.lt
  obtain ⟨h1, h2, h3, h4, S, h5, h6, h7, h8⟩ := h
  have hA : Acc lo w v vs kids := ⟨h3, S, h5, h6, h7⟩
  have hz : (w.alloc (.cells #[xv] T)).heap.size = w.heap.size + 1 := by simp
  have hz3 := hgrow.size
  have hga : g ≠ a := by
    intro e; subst e
    rcases hat with hat | hat
    · exact h4 hat
    · omega
  have hS : ∀ i, S i ∨ F lo2 w.heap.size i → w3.heap[i]? = w.heap[i]? := by
    intro i hi
    have hlt : i < w.heap.size := by rcases hi with hi | hi; exact (h6 i hi).2; exact hi.2
    refine (hgrow.block i (by omega) ?_).trans (Below.heap_alloc w _ i hlt)
    intro e
    rcases hi with hi | hi
    · exact h7 i e.symm hi
    · have := hold i e.symm; have := hi.1; omega
  have ha3 : w3.heap[a]? = w.heap[a]? := (hgrow.block a (by omega) (fun e => h4 e.symm)).trans (Below.heap_alloc w _ a hl)
  have hset : ∀ i, i ≠ a → (w3.setCell ⟨a, 3, none⟩ (.slice (some ⟨g, 0, none⟩) (vs.length + 1) cap)).heap[i]? = w3.heap[i]? := fun i hi => Below.heap_setCell w3 _ _ i hi
  have hzs : (w3.setCell ⟨a, 3, none⟩ (.slice (some ⟨g, 0, none⟩) (vs.length + 1) cap)).heap.size = w3.heap.size := by simp [World.setCell]
  have hNa : ¬ (S a ∨ F lo2 w.heap.size a) := by rintro (h | h); exact h8 h; have := h.1; omega
  have hSa : ∀ i, S i ∨ F lo2 w.heap.size i → i ≠ a := fun i hi e => hNa (e ▸ hi)
  refine ⟨h1, ?_, ?_, fun e => hga (by simpa [Value.ownBlock] using e), fun i => S i ∨ F lo2 w.heap.size i, ?_, ?_, ?_, hNa⟩
  · simp [World.setCell, Array.getElem?_modify, ha3, h2]
  · rw [List.length_append]
    exact ownsRow_setCell_other hown (fun e => hga (by simpa [Value.ownBlock] using e)) _
  · exact IsTs.append (h5.keep (fun _ h => .inl h) fun i hi => (hset i (hSa i (.inl hi))).trans (hS i (.inl hi))) (IsTs.cons (hx.keep (fun _ h => .inr h) fun i hi => (hset i (hSa i (.inr hi))).trans (hS i (.inr hi))) (IsTs.nil _ _))
  · intro i hi
    rw [hzs]
    rcases hi with hi | hi
    · exact ⟨(h6 i hi).1, by have := (h6 i hi).2; omega⟩
    · exact ⟨Nat.le_trans hlo hi.1, by have := hi.2; omega⟩
  · intro i hi hs
    have e : g = i := by simpa [Value.ownBlock] using hi
    subst e
    rcases hat with hat | hat
    · rcases hs with hs | hs
      · exact h7 g hat hs
      · have := hold g hat; have := hs.1; omega
    · rcases hs with hs | hs
      · have := (h6 g hs).2; omega
      · have := hs.2; omega
end Go.Proofs.YtnkfodelgpidkaaGreatDoor
