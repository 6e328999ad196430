/- Where there is no tree: at a place of the source. -/
import Derived.Test.YtnkfodelgpidkaaGreatDoorWo
namespace Go.Proofs.YtnkfodelgpidkaaGreatDoor
open Go.RowKit
set_option linter.unusedVariables false
set_option linter.unusedSimpArgs false

theorem lexB_pos : ∀ (j : Nat) (R : List UInt8) (a op : Int) (m : List Tk), R.length ≤ j → lexB R a op = .ok m → ∀ t ∈ m, a ≤ t.pos ∧ t.pos ≤ a + R.length
  | j, [], a, op, m, _, h => by rw [lexB] at h; injection h with h; subst h; intro t ht; simp at ht
  | 0, c :: r, a, op, m, hj, h => by simp at hj
  | j + 1, c :: r, a, op, m, hj, h => by
    rw [lexB_cons] at h
    cases ht : tokO (c :: r) with
    | none => rw [ht] at h; cases h
    | some x =>
      obtain ⟨t, n⟩ := x
      rw [ht] at h
      have hts := tokO_size ht
      simp only [List.length_cons] at hts
      simp only at h
      split at h
      · cases h
      · cases hg : gap (r.drop (n - 1)) with
        | mk k f =>
          cases f
          · rw [lexA_stop hg] at h; cases h
          · rw [lexA_go hg] at h
            have hk := gap_le _ (r.drop (n - 1)) (Nat.le_refl _)
            rw [hg, List.length_drop] at hk
            simp only at hk
            cases hx : lexB ((r.drop (n - 1)).drop k) (a + n + k) (opA t op) with
            | error e => rw [hx] at h; cases h
            | ok l =>
              rw [hx] at h
              simp only [consT, Except.ok.injEq] at h
              subst h
              have ih := lexB_pos j _ _ _ l (by rw [List.length_drop, List.length_drop]; simp at hj; omega) hx
              rw [List.length_drop, List.length_drop] at ih
              intro u hu
              rcases List.mem_cons.1 hu with rfl | hu
              · simp; omega
              · have := ih u hu; simp; omega
theorem lex_pos {L : List UInt8} {m : List Tk} (h : lexL L = .ok m) : ∀ t ∈ m, 0 ≤ t.pos ∧ t.pos ≤ L.length := by
  obtain ⟨_, _, h⟩ := lex_parts h
  cases hg : gap L with
  | mk k f =>
    cases f
    · rw [lexA_stop hg] at h; cases h
    · rw [lexA_go hg] at h
      have hk := gap_le _ L (Nat.le_refl _)
      rw [hg] at hk
      simp only at hk
      have := lexB_pos _ _ _ _ m (Nat.le_refl _) h
      rw [List.length_drop] at this
      intro t ht
      have := this t ht; omega
theorem lexB_place : ∀ (j : Nat) (R : List UInt8) (a op p c : Int), R.length ≤ j → lexB R a op = .error (p, c) → a ≤ p ∧ p ≤ a + R.length
  | j, [], a, op, p, c, _, h => by rw [lexB] at h; cases h
  | 0, d :: r, a, op, p, c, hj, h => by simp at hj
  | j + 1, d :: r, a, op, p, c, hj, h => by
    rw [lexB_cons] at h
    cases ht : tokO (d :: r) with
    | none =>
      rw [ht] at h
      injection h with h; injection h with h _
      simp only [List.length_cons]; omega
    | some x =>
      obtain ⟨t, n⟩ := x
      rw [ht] at h
      have hts := tokO_size ht
      simp only [List.length_cons] at hts ⊢
      simp only at h
      split at h
      · injection h with h; injection h with h _; omega
      · cases hg : gap (r.drop (n - 1)) with
        | mk k f =>
          have hk := gap_le _ (r.drop (n - 1)) (Nat.le_refl _)
          rw [hg, List.length_drop] at hk
          simp only at hk
          cases f
          · rw [lexA_stop hg] at h
            simp only [consT, Except.error.injEq, Prod.mk.injEq] at h
            omega
          · rw [lexA_go hg] at h
            cases hx : lexB ((r.drop (n - 1)).drop k) (a + n + k) (opA t op) with
            | ok l => rw [hx] at h; cases h
            | error e =>
              obtain ⟨p', c'⟩ := e
              rw [hx] at h
              simp only [consT, Except.error.injEq, Prod.mk.injEq] at h
              have ih := lexB_place j _ _ _ _ _ (by rw [List.length_drop, List.length_drop]; simp at hj; omega) hx
              rw [List.length_drop, List.length_drop] at ih
              omega
theorem chk_place (L : List UInt8) : ∀ (j a k : Nat), L.length - a ≤ j → chk L a = some k → k ≤ L.length
  | j, a, k, hj, h => by
    rw [chk] at h
    split at h
    · rename_i hlt
      split at h
      · injection h with h; omega
      · match j, hj with
        | 0, hj => omega
        | j + 1, hj => exact chk_place L j (a + stepAt L a) k (by have := stepAt_range L a; omega) h
    · cases h
theorem lex_place {L : List UInt8} {p c : Int} (h : lexL L = .error (p, c)) : 0 ≤ p ∧ p ≤ L.length := by
  unfold lexL at h
  split at h
  · injection h with h; injection h with h _; omega
  · split at h
    · rename_i k hk
      injection h with h; injection h with h _
      have := chk_place L _ 0 k (Nat.le_refl _) hk
      omega
    · cases hg : gap L with
      | mk k f =>
        have hk := gap_le _ L (Nat.le_refl _)
        rw [hg] at hk
        simp only at hk
        cases f
        · rw [lexA_stop hg] at h; injection h with h; injection h with h _; omega
        · rw [lexA_go hg] at h
          have := lexB_place _ _ _ _ _ _ (Nat.le_refl _) h
          rw [List.length_drop] at this; omega

/-- A place among the tokens', or the end. -/
def Er (E : Int) (R0 : List Tk) (x : Rs) : Prop := (∀ p, x = some (.error p) → p = E ∨ ∃ t ∈ R0, p = t.pos) ∧ ∀ t R, x = some (.ok (t, R)) → ∀ u ∈ R, u ∈ R0
section
variable {E : Int} {R0 R : List Tk}
def Sq (R R0 : List Tk) : Prop := ∀ u ∈ R, u ∈ R0
theorem Sq.tail (h : Sq R R0) : Sq R.tail R0 := fun u hu => h u (List.mem_of_mem_tail hu)
theorem Er.ret {t : Tr} (h : Sq R R0) : Er E R0 (Go.Proofs.YtnkfodelgpidkaaGreatDoor.ret t R) := by
  refine ⟨fun p e => (by cases e), fun t' R' e => ?_⟩
  unfold Go.Proofs.YtnkfodelgpidkaaGreatDoor.ret at e
  injection e with e; injection e with e; injection e with _ e; subst e; exact h
theorem Er.bad (h : Sq R R0) : Er E R0 (Go.Proofs.YtnkfodelgpidkaaGreatDoor.bad E R) := by
  refine ⟨fun p e => ?_, fun t' R' e => (by cases e)⟩
  unfold Go.Proofs.YtnkfodelgpidkaaGreatDoor.bad at e
  injection e with e; injection e with e
  cases R with
  | nil => exact .inl e.symm
  | cons a l => exact .inr ⟨a, h a List.mem_cons_self, e.symm⟩
theorem Er.bnd {x : Rs} {k : Tr → List Tk → Rs} (h : Er E R0 x) (g : ∀ t R1, Sq R1 R0 → Er E R0 (k t R1)) : Er E R0 (Go.Proofs.YtnkfodelgpidkaaGreatDoor.bnd x k) := by
  unfold Go.Proofs.YtnkfodelgpidkaaGreatDoor.bnd
  rcases x with _ | (p | ⟨t, R1⟩)
  · exact ⟨fun p e => (by cases e), fun t R e => (by cases e)⟩
  · exact ⟨fun q e => h.1 q e, fun t R e => (by cases e)⟩
  · exact g t R1 (h.2 t R1 rfl)
theorem Er.ite {c : Prop} [Decidable c] {a b : Rs} (h : Er E R0 a) (g : Er E R0 b) : Er E R0 (if c then a else b) := by split; exact h; exact g
theorem Er.need {s : List UInt8} {k : List Tk → Rs} (h : Sq R R0) (g : Sq R.tail R0 → Er E R0 (k R.tail)) : Er E R0 (Go.Proofs.YtnkfodelgpidkaaGreatDoor.need E s R k) := Er.ite (g h.tail) (Er.bad h)
theorem Er.nameK {k : List UInt8 → List Tk → Rs} (h : Sq R R0) (g : ∀ x, Sq R.tail R0 → Er E R0 (k x R.tail)) : Er E R0 (Go.Proofs.YtnkfodelgpidkaaGreatDoor.nameK E R k) := Er.ite (g _ h.tail) (Er.bad h)
theorem Er.keyK {k : List UInt8 → List Tk → Rs} (h : Sq R R0) (g : ∀ x, Sq R.tail R0 → Er E R0 (k x R.tail)) : Er E R0 (Go.Proofs.YtnkfodelgpidkaaGreatDoor.keyK E R k) := Er.ite (g _ h.tail) (Er.bad h)
theorem Er.propK {k : List UInt8 → List Tk → Rs} (h : Sq R R0) (g : ∀ x, Sq R.tail R0 → Er E R0 (k x R.tail)) : Er E R0 (Go.Proofs.YtnkfodelgpidkaaGreatDoor.propK E R k) := Er.ite (g _ h.tail) (Er.ite (g _ h.tail) (Er.keyK h g))
end
set_option maxHeartbeats 4000000 in
theorem body_er {E : Int} {R0 : List Tk} {rec : NT → List Tk → Rs} (H : ∀ nt R, Sq R R0 → Er E R0 (rec nt R)) (nt : NT) (R : List Tk) (h : Sq R R0) : Er E R0 (body E rec nt R) := by
  cases nt
  case program =>
    simp only [body]
    cases R with
    | nil => exact Er.ret h
    | cons a l => exact Er.bnd (H _ _ h) fun t R1 h1 => Er.bnd (H _ _ h1) fun t2 R2 h2 => Er.ret h2
  all_goals
    simp only [body]
    repeat' (first
      | exact H _ _ (by assumption)
      | exact H _ _ (Sq.tail (by assumption))
      | exact Er.bad (by assumption)
      | exact Er.ret (by assumption)
      | exact Er.ret (Sq.tail (by assumption))
      | (refine Er.need (by first | assumption | exact Sq.tail (by assumption)) fun _ => ?_)
      | (refine Er.nameK (by first | assumption | exact Sq.tail (by assumption)) fun _ _ => ?_)
      | (refine Er.keyK (by first | assumption | exact Sq.tail (by assumption)) fun _ _ => ?_)
      | (refine Er.propK (by first | assumption | exact Sq.tail (by assumption)) fun _ _ => ?_)
      | (refine Er.bnd (H _ _ (by first | assumption | exact Sq.tail (by assumption))) fun _ _ _ => ?_)
      | (refine Er.ite ?_ ?_))
theorem Q_er (E : Int) (R0 : List Tk) : ∀ (n : Nat) (nt : NT) (R : List Tk), Sq R R0 → Er E R0 (Q E n nt R)
  | 0, _, _, _ => ⟨fun p e => (by cases e), fun t R e => (by cases e)⟩
  | n + 1, nt, R, h => body_er (Q_er E R0 n) nt R h
theorem D.place {E : Int} {nt : NT} {R : List Tk} {p : Int} (h : D E nt R (.error p)) : p = E ∨ ∃ t ∈ R, p = t.pos := by
  obtain ⟨n, h⟩ := h
  exact (Q_er E R n nt R fun _ hu => hu).1 p (h n (Nat.le_refl _))
/-- Why there is no tree, and where. -/
theorem out_err {L : List UInt8} {a c : Int} (h : Out L (.error (a, c))) : 3 ≤ c ∧ c ≤ 7 ∧ 0 ≤ a ∧ a ≤ L.length := by
  unfold Out at h
  cases hx : lexL L with
  | error x =>
    rw [hx] at h
    injection h with h
    subst h
    have := lex_err hx
    have := lex_place hx
    omega
  | ok l =>
    rw [hx] at h
    obtain ⟨q, hd, h⟩ := h
    rcases q with p | ⟨t, R⟩
    · injection h with h; injection h with h1 h2
      subst h1; subst h2
      rcases hd.place with e | ⟨t, ht, e⟩
      · omega
      · have := lex_pos hx t ht; omega
    · have h := h.2
      split at h
      · injection h with h; injection h with h1 h2; omega
      · cases h
end Go.Proofs.YtnkfodelgpidkaaGreatDoor
