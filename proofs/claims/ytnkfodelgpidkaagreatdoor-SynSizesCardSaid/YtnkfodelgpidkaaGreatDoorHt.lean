/- How high a laid-out tree is, and where its kids stand: what Height and Kids reckon. -/
import Derived.Test.YtnkfodelgpidkaaGreatDoorExt
namespace Go.Proofs.YtnkfodelgpidkaaGreatDoor
set_option linter.unusedVariables false
mutual
/-- How high a tree is. -/
def htT : Tr → Nat
  | .node _ _ _ kids => htTs kids + 1
def htTs : List Tr → Nat
  | [] => 0
  | t :: l => max (htT t) (htTs l)
end
/-- What Height does: the kids that are still to come, from the node at hand upward. -/
def hpop : List Nat → List Nat
  | [] => []
  | 0 :: [] => []
  | 0 :: y :: q => hpop ((y - 1) :: q)
  | (x + 1) :: r => (x + 1) :: r
termination_by l => l.length
def hrun : List Nat → Nat → List Nat → Nat
  | [], m, _ => m
  | n :: l, m, s => hrun l (max m (s.length + 1)) (hpop (n :: s))
def hdone : List Nat → List Nat
  | [] => []
  | y :: q => hpop ((y - 1) :: q)
theorem hpop_zero (s : List Nat) : hpop (0 :: s) = hdone s := by cases s <;> simp [hpop, hdone]
theorem hpop_pos (n : Nat) (s : List Nat) (h : 0 < n) : hpop (n :: s) = n :: s := by
  cases n with
  | zero => omega
  | succ n => simp [hpop]
mutual
theorem hrun_tree : ∀ (t : Tr) (r : List Nat) (m : Nat) (s : List Nat), hrun ((layT t).map LN.n ++ r) m s = hrun r (max m (s.length + htT t)) (hdone s)
  | .node k x b kids, r, m, s => by
    rw [layT, List.map_cons, List.cons_append, hrun, htT]
    cases kids with
    | nil => simp only [layTs, List.map_nil, List.nil_append, List.length_nil, htTs]; rw [hpop_zero, Nat.zero_add]
    | cons t l =>
      have hl : (t :: l).length ≠ 0 := by simp
      rw [show (⟨k, (t :: l).length, (layTs (t :: l)).length + 1, x, b⟩ : LN).n = (t :: l).length from rfl, hpop_pos _ _ (by omega), hrun_trees (t :: l) r _ s (by simp)]
      have : max (max m (s.length + 1)) (s.length + 1 + htTs (t :: l)) = max m (s.length + (htTs (t :: l) + 1)) := by omega
      rw [this]
theorem hrun_trees : ∀ (l : List Tr) (r : List Nat) (m : Nat) (s : List Nat), l ≠ [] → hrun ((layTs l).map LN.n ++ r) m (l.length :: s) = hrun r (max m (s.length + 1 + htTs l)) (hdone s)
  | [], _, _, _, h => absurd rfl h
  | t :: l, r, m, s, _ => by
    rw [layTs, List.map_append, List.append_assoc, hrun_tree t]
    cases l with
    | nil =>
      simp only [layTs, List.map_nil, List.nil_append, htTs, List.length_cons, List.length_nil, hdone]
      rw [show (0 + 1 - 1 : Nat) = 0 from rfl, hpop_zero]
      congr 1; omega
    | cons u q =>
      rw [show hdone ((t :: u :: q).length :: s) = (u :: q).length :: s by simp only [hdone, List.length_cons]; rw [Nat.add_sub_cancel]; exact hpop_pos _ _ (by omega), hrun_trees (u :: q) r _ s (by simp)]
      simp only [htTs, List.length_cons]; congr 1; omega
end
theorem hrun_lay (t : Tr) : hrun ((layT t).map LN.n) 0 [] = htT t := by
  have := hrun_tree t [] 0 []
  rw [List.append_nil] at this
  rw [this]; simp [hrun]

/-- What Kids does. -/
def kidsF (sz : Nat → Nat) (len : Nat) : Nat → Nat → List Nat
  | 0, _ => []
  | n + 1, p => if p < len then p :: (if sz p < 1 ∨ len - p < sz p then [] else kidsF sz len n (p + sz p)) else []
/-- Where the trees of a row begin. -/
def begs : List Tr → Nat → List Nat
  | [], _ => []
  | t :: l, p => p :: begs l (p + (layT t).length)
def szAt (L : List LN) (p : Nat) : Nat := (L[p]?.map LN.size).getD 0
theorem layT_size (t : Tr) : ∃ l r, layT t = l :: r ∧ l.size = (layT t).length ∧ l.n = t.kids.length := by
  cases t with
  | node k x b kids => exact ⟨_, _, by rw [layT], by rw [layT, List.length_cons], rfl⟩
theorem szAt_lay (A : List LN) (t : Tr) (B : List LN) : szAt (A ++ layT t ++ B) A.length = (layT t).length := by
  obtain ⟨l, r, h1, h2, _⟩ := layT_size t
  unfold szAt
  rw [List.append_assoc, List.getElem?_append_right (Nat.le_refl _), Nat.sub_self, h1, List.cons_append, List.getElem?_cons_zero]
  rw [h1] at h2
  simpa using h2
theorem kidsF_lay (A : List LN) : ∀ (l : List Tr) (B : List LN), kidsF (szAt (A ++ layTs l ++ B)) (A ++ layTs l ++ B).length l.length A.length = begs l A.length := by
  intro l
  induction l generalizing A with
  | nil => intro B; rfl
  | cons t l ih =>
    intro B
    have e : A ++ layTs (t :: l) ++ B = A ++ layT t ++ (layTs l ++ B) := by rw [layTs]; simp [List.append_assoc]
    have e2 : A ++ layTs (t :: l) ++ B = (A ++ layT t) ++ layTs l ++ B := by rw [layTs]; simp [List.append_assoc]
    have hs := szAt_lay A t (layTs l ++ B)
    have hp := layT_pos t
    have hlen : (A ++ layT t ++ (layTs l ++ B)).length = A.length + (layT t).length + (layTs l ++ B).length := by rw [List.length_append, List.length_append]
    rw [List.length_cons, kidsF, begs]
    rw [e, hs, if_pos (by omega), if_neg (by omega)]
    have := ih (A ++ layT t) B
    rw [← e2, e] at this
    rw [show (A ++ layT t).length = A.length + (layT t).length from List.length_append] at this
    rw [this]
mutual
theorem lay_splitT : ∀ (t : Tr) (i : Nat), i < (layT t).length → ∃ A u B, layT t = A ++ layT u ++ B ∧ A.length = i
  | .node k x b kids, i, h => by
    cases i with
    | zero => exact ⟨[], .node k x b kids, [], by simp, rfl⟩
    | succ i =>
      rw [layT, List.length_cons] at h
      obtain ⟨A, u, B, h1, h2⟩ := lay_splitTs kids i (by omega)
      exact ⟨_ :: A, u, B, by rw [layT, h1]; rfl, by rw [List.length_cons, h2]⟩
theorem lay_splitTs : ∀ (l : List Tr) (i : Nat), i < (layTs l).length → ∃ A u B, layTs l = A ++ layT u ++ B ∧ A.length = i
  | [], i, h => by simp [layTs] at h
  | t :: l, i, h => by
    rw [layTs, List.length_append] at h
    by_cases hi : i < (layT t).length
    · obtain ⟨A, u, B, h1, h2⟩ := lay_splitT t i hi
      exact ⟨A, u, B ++ layTs l, by rw [layTs, h1]; simp [List.append_assoc], h2⟩
    · obtain ⟨A, u, B, h1, h2⟩ := lay_splitTs l (i - (layT t).length) (by omega)
      exact ⟨layT t ++ A, u, B, by rw [layTs, h1]; simp [List.append_assoc], by rw [List.length_append, h2]; omega⟩
end
def sumF (sz : Nat → Nat) (l : List Nat) : Nat := l.foldl (fun a p => a + sz p) 1
theorem foldl_begs (A : List LN) : ∀ (l : List Tr) (B : List LN) (m : Nat), (begs l A.length).foldl (fun a p => a + szAt (A ++ layTs l ++ B) p) m = m + (layTs l).length := by
  intro l
  induction l generalizing A with
  | nil => intro B m; rfl
  | cons t l ih =>
    intro B m
    have e : A ++ layTs (t :: l) ++ B = A ++ layT t ++ (layTs l ++ B) := by rw [layTs]; simp [List.append_assoc]
    have e2 : A ++ layTs (t :: l) ++ B = (A ++ layT t) ++ layTs l ++ B := by rw [layTs]; simp [List.append_assoc]
    have hs := szAt_lay A t (layTs l ++ B)
    rw [begs, List.foldl_cons]
    rw [← e] at hs
    rw [hs]
    have := ih (A ++ layT t) B (m + (layT t).length)
    rw [← e2, show (A ++ layT t).length = A.length + (layT t).length from List.length_append] at this
    rw [this, layTs, List.length_append]; omega
theorem begs_len : ∀ (l : List Tr) (p : Nat), (begs l p).length = l.length
  | [], _ => rfl
  | t :: l, p => by rw [begs, List.length_cons, List.length_cons, begs_len l]
/-- Of a laid-out tree the kids stand where they are, and the sizes fit. -/
theorem kids_lay (t : Tr) (i : Nat) (h : i < (layT t).length) :
    (kidsF (szAt (layT t)) (layT t).length ((layT t)[i]'h).n (i + 1)).length = ((layT t)[i]'h).n ∧ sumF (szAt (layT t)) (kidsF (szAt (layT t)) (layT t).length ((layT t)[i]'h).n (i + 1)) = ((layT t)[i]'h).size := by
  obtain ⟨A, u, B, h1, h2⟩ := lay_splitT t i h
  obtain ⟨k, x, b, kids⟩ := u
  have e : layT t = (A ++ [⟨k, kids.length, (layTs kids).length + 1, x, b⟩]) ++ layTs kids ++ B := by rw [h1, layT]; simp [List.append_assoc]
  have hg : (layT t)[i]'h = ⟨k, kids.length, (layTs kids).length + 1, x, b⟩ := by
    have : (layT t)[i]? = some ⟨k, kids.length, (layTs kids).length + 1, x, b⟩ := by
      rw [h1, layT, List.append_assoc, List.getElem?_append_right (by omega), h2, Nat.sub_self]; rfl
    rw [List.getElem?_eq_getElem h] at this
    injection this
  have hl : (A ++ [(⟨k, kids.length, (layTs kids).length + 1, x, b⟩ : LN)]).length = i + 1 := by rw [List.length_append, h2]; rfl
  rw [hg]
  have hk := kidsF_lay (A ++ [⟨k, kids.length, (layTs kids).length + 1, x, b⟩]) kids B
  have hf := foldl_begs (A ++ [⟨k, kids.length, (layTs kids).length + 1, x, b⟩]) kids B 1
  rw [← e, hl] at hk hf
  rw [hk, begs_len]
  refine ⟨rfl, ?_⟩
  unfold sumF
  rw [hf]; show _ = (layTs kids).length + 1; omega
end Go.Proofs.YtnkfodelgpidkaaGreatDoor
