/- The grammar does not look at places: tokens that are the same but for these give the same tree. -/
import Derived.Test.YtnkfodelgpidkaaGreatDoorSz
namespace Go.Proofs.YtnkfodelgpidkaaGreatDoor
set_option linter.unusedVariables false
set_option linter.unusedSimpArgs false

/-- Tokens without their places. -/
def st (R : List Tk) : List (Int × List UInt8 × Int) := R.map fun t => (t.kind, t.text, t.bits)
def Rq (x y : Rs) : Prop := match x, y with
  | none, none => True
  | some (.error _), some (.error _) => True
  | some (.ok (t, R)), some (.ok (t', R')) => t = t' ∧ st R = st R'
  | _, _ => False
/-- What the tokens at the front have in common. -/
def Fr (E E' : Int) (R R' : List Tk) : Prop := (hd E R).kind = (hd E' R').kind ∧ (hd E R).text = (hd E' R').text ∧ (hd E R).bits = (hd E' R').bits ∧ fx (hd E R) = fx (hd E' R') ∧ ∀ s, isF E s R = isF E' s R'
theorem st_tail {R R' : List Tk} (h : st R = st R') : st R.tail = st R'.tail := by unfold st at *; rw [List.map_tail, List.map_tail, h]
theorem st_fr {E E' : Int} {R R' : List Tk} (h : st R = st R') : Fr E E' R R' := by
  have hk : (hd E R).kind = (hd E' R').kind ∧ (hd E R).text = (hd E' R').text ∧ (hd E R).bits = (hd E' R').bits := by
    cases R with
    | nil => cases R' with
      | nil => exact ⟨rfl, rfl, rfl⟩
      | cons a l => cases h
    | cons a l => cases R' with
      | nil => cases h
      | cons b m =>
        unfold st at h; rw [List.map_cons, List.map_cons] at h
        injection h with h _
        injection h with h1 h2; injection h2 with h2 h3
        exact ⟨h1, h2, h3⟩
  have hf : fx (hd E R) = fx (hd E' R') := by unfold fx; rw [hk.1, hk.2.1]
  exact ⟨hk.1, hk.2.1, hk.2.2, hf, fun s => by unfold isF; rw [hf]⟩
section
variable {E E' : Int} {R R' : List Tk}
theorem Rq.ret {t t' : Tr} (h : t = t') (g : st R = st R') : Rq (Go.Proofs.YtnkfodelgpidkaaGreatDoor.ret t R) (Go.Proofs.YtnkfodelgpidkaaGreatDoor.ret t' R') := ⟨h, g⟩
theorem Rq.bad : Rq (Go.Proofs.YtnkfodelgpidkaaGreatDoor.bad E R) (Go.Proofs.YtnkfodelgpidkaaGreatDoor.bad E' R') := trivial
theorem Rq.bnd {x y : Rs} {k k' : Tr → List Tk → Rs} (h : Rq x y) (g : ∀ t R1 R1', st R1 = st R1' → Rq (k t R1) (k' t R1')) : Rq (Go.Proofs.YtnkfodelgpidkaaGreatDoor.bnd x k) (Go.Proofs.YtnkfodelgpidkaaGreatDoor.bnd y k') := by
  unfold Go.Proofs.YtnkfodelgpidkaaGreatDoor.bnd
  rcases x with _ | (p | ⟨t, R1⟩) <;> rcases y with _ | (p' | ⟨t', R1'⟩)
  all_goals first | exact h | exact h.elim | skip
  obtain ⟨h1, h2⟩ := h
  subst h1
  exact g t R1 R1' h2
theorem Rq.ite2 {c c' : Prop} [Decidable c] [Decidable c'] {a b a' b' : Rs} (e : c ↔ c') (h : Rq a a') (g : Rq b b') : Rq (if c then a else b) (if c' then a' else b') := by
  by_cases hc : c
  · rw [if_pos hc, if_pos (e.1 hc)]; exact h
  · rw [if_neg hc, if_neg (fun x => hc (e.2 x))]; exact g
theorem Rq.need {s : List UInt8} {k k' : List Tk → Rs} (h : st R = st R') (g : st R.tail = st R'.tail → Rq (k R.tail) (k' R'.tail)) : Rq (Go.Proofs.YtnkfodelgpidkaaGreatDoor.need E s R k) (Go.Proofs.YtnkfodelgpidkaaGreatDoor.need E' s R' k') := by
  unfold Go.Proofs.YtnkfodelgpidkaaGreatDoor.need; exact Rq.ite2 (by rw [(st_fr (E := E) (E' := E') h).2.2.2.2 s]) (g (st_tail h)) Rq.bad
theorem Rq.nameK {k k' : List UInt8 → List Tk → Rs} (h : st R = st R') (g : ∀ x, st R.tail = st R'.tail → Rq (k x R.tail) (k' x R'.tail)) : Rq (Go.Proofs.YtnkfodelgpidkaaGreatDoor.nameK E R k) (Go.Proofs.YtnkfodelgpidkaaGreatDoor.nameK E' R' k') := by
  have hf := st_fr (E := E) (E' := E') h
  unfold Go.Proofs.YtnkfodelgpidkaaGreatDoor.nameK; exact Rq.ite2 (by rw [hf.1]) (by rw [hf.2.1]; exact g _ (st_tail h)) Rq.bad
theorem Rq.keyK {k k' : List UInt8 → List Tk → Rs} (h : st R = st R') (g : ∀ x, st R.tail = st R'.tail → Rq (k x R.tail) (k' x R'.tail)) : Rq (Go.Proofs.YtnkfodelgpidkaaGreatDoor.keyK E R k) (Go.Proofs.YtnkfodelgpidkaaGreatDoor.keyK E' R' k') := by
  have hf := st_fr (E := E) (E' := E') h
  unfold Go.Proofs.YtnkfodelgpidkaaGreatDoor.keyK; exact Rq.ite2 (by rw [hf.1]) (by rw [hf.2.1]; exact g _ (st_tail h)) Rq.bad
theorem Rq.propK {k k' : List UInt8 → List Tk → Rs} (h : st R = st R') (g : ∀ x, st R.tail = st R'.tail → Rq (k x R.tail) (k' x R'.tail)) : Rq (Go.Proofs.YtnkfodelgpidkaaGreatDoor.propK E R k) (Go.Proofs.YtnkfodelgpidkaaGreatDoor.propK E' R' k') := by
  have hf := st_fr (E := E) (E' := E') h
  unfold Go.Proofs.YtnkfodelgpidkaaGreatDoor.propK
  exact Rq.ite2 (by rw [hf.1]) (by rw [hf.2.1]; exact g _ (st_tail h)) (Rq.ite2 (by rw [hf.1]) (by rw [hf.2.2.1]; exact g _ (st_tail h)) (Rq.keyK h g))
end
set_option maxHeartbeats 4000000 in
theorem body_rel {E E' : Int} {f g : NT → List Tk → Rs} (H : ∀ nt R R', st R = st R' → Rq (f nt R) (g nt R')) (nt : NT) (R R' : List Tk) (h : st R = st R') : Rq (body E f nt R) (body E' g nt R') := by
  have h0 := st_tail h
  cases nt
  case program =>
    simp only [body]
    cases R with
    | nil => cases R' with
      | nil => exact Rq.ret rfl rfl
      | cons a l => cases h
    | cons a l => cases R' with
      | nil => cases h
      | cons b m => exact Rq.bnd (H _ _ _ h) fun t R1 R1' h1 => Rq.bnd (H _ _ _ h1) fun t2 R2 R2' h2 => Rq.ret rfl h2
  case binMore least x =>
    have hf := st_fr (E := E) (E' := E') h
    simp only [body]
    rw [← hf.2.2.2.1]
    exact Rq.ite2 Iff.rfl (Rq.ret rfl h) (Rq.bnd (H _ _ _ h0) fun t R1 R1' h1 => H _ _ _ h1)
  all_goals
    simp only [body]
    repeat' (first
      | exact H _ _ _ (by assumption)
      | exact Rq.bad
      | exact Rq.ret rfl (by assumption)
      | (refine Rq.need (by assumption) fun _ => ?_)
      | (refine Rq.nameK (by assumption) fun _ _ => ?_)
      | (refine Rq.keyK (by assumption) fun _ _ => ?_)
      | (refine Rq.propK (by assumption) fun _ _ => ?_)
      | (refine Rq.bnd (H _ _ _ (by assumption)) fun _ _ _ _ => ?_)
      | (refine Rq.bnd (H _ _ _ (st_tail (by assumption))) fun _ _ _ _ => ?_)
      | exact H _ _ _ (st_tail (by assumption))
      | exact Rq.ret rfl (st_tail (by assumption))
      | (refine Rq.ite2 (by first | exact Iff.rfl | rw [(st_fr (E := E) (E' := E') (by assumption)).2.2.2.2] | rw [(st_fr (E := E) (E' := E') (by assumption)).1] | rw [(st_fr (E := E) (E' := E') (by assumption)).2.2.2.1]) ?_ ?_))
  case assign.refine_1.refine_1 => rename_i t1 R1 R1' e1 t2 R2 R2' e2; exact Rq.ret (by rw [(st_fr (E := E) (E' := E') e1).2.1]) e2
  case postfx.refine_1.refine_1 => rename_i t1 R1 R1' e1; exact Rq.ret (by rw [(st_fr (E := E) (E' := E') e1).2.1]) (st_tail e1)
  all_goals exact Rq.ret (by simp only [(st_fr (E := E) (E' := E') h).2.1, (st_fr (E := E) (E' := E') h).2.2.1]) (by assumption)
theorem Q_rel (E E' : Int) : ∀ (n : Nat) (nt : NT) (R R' : List Tk), st R = st R' → Rq (Q E n nt R) (Q E' n nt R')
  | 0, _, _, _, _ => trivial
  | n + 1, nt, R, R', h => body_rel (Q_rel E E' n) nt R R' h
/-- The same tokens, elsewhere: the same tree. -/
theorem D.elsewhere {E E' : Int} {nt : NT} {R R' : List Tk} (h : st R = st R') {t : Tr} {R1 : List Tk} (hd : D E nt R (.ok (t, R1))) : ∃ R1', st R1 = st R1' ∧ D E' nt R' (.ok (t, R1')) := by
  obtain ⟨n, hn⟩ := hd
  have h1 := Q_rel E E' n nt R R' h
  rw [hn n (Nat.le_refl _)] at h1
  cases hq : Q E' n nt R' with
  | none => rw [hq] at h1; exact h1.elim
  | some r => cases r with
    | error p => rw [hq] at h1; exact h1.elim
    | ok x => rw [hq] at h1; obtain ⟨h2, h3⟩ := h1; subst h2; exact ⟨x.2, h3, D.of hq⟩
end Go.Proofs.YtnkfodelgpidkaaGreatDoor
