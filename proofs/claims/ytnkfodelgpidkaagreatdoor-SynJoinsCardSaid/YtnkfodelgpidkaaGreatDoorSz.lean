/- How many nodes a tree has: no more than the tokens that it was read off. -/
import Derived.Test.YtnkfodelgpidkaaGreatDoorLy
namespace Go.Proofs.YtnkfodelgpidkaaGreatDoor
set_option linter.unusedVariables false
set_option linter.unusedSimpArgs false

/-- Nothing that hands a tree on, and no row. -/
def plainN : NT → Bool
  | .exprMore _ | .binMore _ _ | .memMore _ | .makMore _ | .part _ | .called _ | .untl _ _ | .row _ | .rowMore _ | .list _ _ | .program | .binary _ | .optional _ => false
  | _ => true
def mN : NT → Tr → Nat
  | .called _, t => (layTs t.kids).length + 1
  | .untl _ _, t | .row _, t | .rowMore _, t | .list _ _, t | .program, t => (layTs t.kids).length
  | _, t => (layT t).length
def bN : NT → Nat
  | .exprMore x | .binMore _ x | .memMore x | .makMore x | .part x | .called x => (layT x).length
  | _ => 0
def okN : NT → Prop
  | .untl s it | .list s it => s ≠ [] ∧ plainN it = true
  | .row it | .rowMore it => plainN it = true
  | .optional s => s ≠ []
  | .binary l | .binMore l _ => 1 ≤ l
  | _ => True
theorem plain_ok {it : NT} (h : plainN it = true) : okN it := by cases it <;> first | trivial | cases h
theorem plain_b {it : NT} (h : plainN it = true) : bN it = 0 := by cases it <;> first | rfl | cases h
theorem plain_m {it : NT} (h : plainN it = true) (t : Tr) : mN it t = (layT t).length := by cases it <;> first | rfl | cases h

def W (x : Rs) (K : Tr → List Tk → Prop) : Prop := ∀ t R', x = some (.ok (t, R')) → K t R'
section
variable {E : Int} {R : List Tk} {K : Tr → List Tk → Prop}
theorem W.ret {t : Tr} (h : K t R) : W (Go.Proofs.YtnkfodelgpidkaaGreatDoor.ret t R) K := by intro t' R' e; unfold Go.Proofs.YtnkfodelgpidkaaGreatDoor.ret at e; injection e with e; injection e with e; injection e with e1 e2; subst e1; subst e2; exact h
theorem W.bad : W (Go.Proofs.YtnkfodelgpidkaaGreatDoor.bad E R) K := by intro t' R' e; unfold Go.Proofs.YtnkfodelgpidkaaGreatDoor.bad at e; injection e with e; cases e
theorem W.bnd {x : Rs} {k : Tr → List Tk → Rs} (h : W x fun t R1 => W (k t R1) K) : W (Go.Proofs.YtnkfodelgpidkaaGreatDoor.bnd x k) K := by
  intro t' R' e
  unfold Go.Proofs.YtnkfodelgpidkaaGreatDoor.bnd at e
  rcases x with _ | (p | ⟨t, R1⟩)
  · cases e
  · cases e
  · exact h t R1 rfl t' R' e
theorem len_of {c : Prop} (h : R ≠ []) : R.length = R.tail.length + 1 := by cases R; exact absurd rfl h; rfl
theorem hd_nil : hd E ([] : List Tk) = ⟨0, E, [], 0⟩ := rfl
theorem fx_nil : fx (hd E ([] : List Tk)) = [] := rfl
theorem isF_len {s : List UInt8} (hs : s ≠ []) (h : isF E s R = true) : R.length = R.tail.length + 1 := by
  cases R with
  | nil => exact absurd (by simpa [isF, fx_nil] using h) (by intro e; exact hs (by first | exact e | exact e.symm))
  | cons a l => rfl
theorem kind_len {n : Int} (hn : n ≠ 0) (h : (hd E R).kind = n) : R.length = R.tail.length + 1 := by
  cases R with
  | nil => exact absurd h.symm hn
  | cons a l => rfl
theorem fx_len (h : fx (hd E R) ≠ []) : R.length = R.tail.length + 1 := by
  cases R with
  | nil => exact absurd rfl h
  | cons a l => rfl
theorem W.need {s : List UInt8} {k : List Tk → Rs} (hs : s ≠ []) (h : R.length = R.tail.length + 1 → W (k R.tail) K) : W (Go.Proofs.YtnkfodelgpidkaaGreatDoor.need E s R k) K := by
  unfold Go.Proofs.YtnkfodelgpidkaaGreatDoor.need; split
  · exact h (isF_len hs ‹_›)
  · exact W.bad
theorem kl1 (h : (hd E R).kind = 1) : R.length = R.tail.length + 1 := kind_len (n := 1) (by decide) h
theorem kl2 (h : (hd E R).kind = 2) : R.length = R.tail.length + 1 := kind_len (n := 2) (by decide) h
theorem kl3 (h : (hd E R).kind = 3) : R.length = R.tail.length + 1 := kind_len (n := 3) (by decide) h
theorem kl4 (h : (hd E R).kind = 4) : R.length = R.tail.length + 1 := kind_len (n := 4) (by decide) h
theorem kids_node (k : Int) (x : List UInt8) (b : Int) (l : List Tr) : Tr.kids (.node k x b l) = l := rfl
theorem W.nameK {k : List UInt8 → List Tk → Rs} (h : ∀ x, R.length = R.tail.length + 1 → W (k x R.tail) K) : W (Go.Proofs.YtnkfodelgpidkaaGreatDoor.nameK E R k) K := by
  unfold Go.Proofs.YtnkfodelgpidkaaGreatDoor.nameK; split
  · exact h _ (kl1 ‹_›)
  · exact W.bad
theorem W.keyK {k : List UInt8 → List Tk → Rs} (h : ∀ x, R.length = R.tail.length + 1 → W (k x R.tail) K) : W (Go.Proofs.YtnkfodelgpidkaaGreatDoor.keyK E R k) K := by
  unfold Go.Proofs.YtnkfodelgpidkaaGreatDoor.keyK; split
  · rename_i h'; exact h _ (by rcases h' with h' | h'; exact kl1 h'; exact kl2 h')
  · exact W.bad
theorem W.propK {k : List UInt8 → List Tk → Rs} (h : ∀ x, R.length = R.tail.length + 1 → W (k x R.tail) K) : W (Go.Proofs.YtnkfodelgpidkaaGreatDoor.propK E R k) K := by
  unfold Go.Proofs.YtnkfodelgpidkaaGreatDoor.propK; split
  · exact h _ (kl4 ‹_›)
  · split
    · exact h _ (kl3 ‹_›)
    · exact W.keyK h
theorem W.ifF {s : List UInt8} {a b : Rs} (hs : s ≠ []) (h : R.length = R.tail.length + 1 → W a K) (g : W b K) : W (if isF E s R then a else b) K := by
  split
  · exact h (isF_len hs ‹_›)
  · exact g
theorem W.ifK {n : Int} {a b : Rs} (hn : n ≠ 0) (h : R.length = R.tail.length + 1 → W a K) (g : W b K) : W (if (hd E R).kind = n then a else b) K := by
  split
  · exact h (kind_len hn ‹_›)
  · exact g
theorem W.ifC {l : List (List UInt8)} {a b : Rs} (hl : l.contains [] = false) (h : R.length = R.tail.length + 1 → W a K) (g : W b K) : W (if l.contains (fx (hd E R)) then a else b) K := by
  split
  · rename_i hc; exact h (fx_len fun e => by rw [e, hl] at hc; cases hc)
  · exact g
theorem W.ite {c : Prop} [Decidable c] {a b : Rs} (h : W a K) (g : W b K) : W (if c then a else b) K := by split; exact h; exact g
end
def Cnt (E : Int) (rec : NT → List Tk → Rs) : Prop := ∀ nt R, okN nt → W (rec nt R) fun t R1 => mN nt t + R1.length ≤ bN nt + R.length
theorem W.call {E : Int} {rec : NT → List Tk → Rs} {R : List Tk} {K : Tr → List Tk → Prop} (H : Cnt E rec) (nt : NT) (ho : okN nt) (h : ∀ t R1, mN nt t + R1.length ≤ bN nt + R.length → K t R1) : W (rec nt R) K := fun t R' e => h t R' (H nt R ho t R' e)

set_option maxHeartbeats 4000000 in
theorem body_cnt {E : Int} {rec : NT → List Tk → Rs} (H : Cnt E rec) : Cnt E (body E rec) := by
  intro nt R ho
  have tl : R.tail.length ≤ R.length := by rw [List.length_tail]; omega
  cases nt
  case binMore least x =>
    simp only [body]
    split
    · exact W.ret (by simp only [mN, bN]; omega)
    · rename_i hl
      have ho' : (1 : Int) ≤ least := ho
      have hlen : R.length = R.tail.length + 1 := fx_len (E := E) fun e => by rw [e] at hl; exact hl (by show (0 : Int) < least; omega)
      refine W.bnd (W.call H _ (by show (1 : Int) ≤ _; omega) fun t R1 h1 => W.call H _ ho' fun t2 R2 h2 => ?_)
      simp only [mN, bN, layT, layTs, List.length_cons, List.length_append, List.length_nil] at *
      omega
  case program =>
    simp only [body]
    cases R with
    | nil => exact W.ret (by simp [mN, layTs, kids_node])
    | cons a l =>
      refine W.bnd (W.call H _ trivial fun t R1 h1 => W.bnd (W.call H _ trivial fun t2 R2 h2 => W.ret ?_))
      simp only [mN, bN, layT, layTs, layTs_append, kids_node, List.length_cons, List.length_append] at *
      omega
  all_goals
    simp only [body]
    repeat' (first
      | (refine W.need (by first | decide | exact ho | exact ho.1) fun _ => ?_)
      | (refine W.bnd ?_)
      | (refine W.nameK fun _ _ => ?_)
      | (refine W.keyK fun _ _ => ?_)
      | (refine W.propK fun _ _ => ?_)
      | (refine W.ifF (by first | decide | exact ho | exact ho.1) (fun _ => ?_) ?_)
      | (refine W.ifK (by decide) (fun _ => ?_) ?_)
      | (refine W.ifC (by decide) (fun _ => ?_) ?_)
      | (refine W.ite ?_ ?_)
      | (refine W.ret ?_)
      | (exact W.bad)
      | (refine W.call H _ (by first | trivial | exact plain_ok ho | exact plain_ok ho.2 | exact ho | exact ho.2 | rfl | (simp [okN, plainN]; done)) fun _ _ _ => ?_))
    all_goals (try simp only [plain_m ho.2, plain_b ho.2] at *)
    all_goals (try simp only [plain_m ho, plain_b ho] at *)
    all_goals (try simp only [mN, bN, layT, layTs, layTs_append, kids_node, List.length_cons, List.length_append, List.length_nil] at *)
    all_goals (try omega)
theorem Q_cnt (E : Int) : ∀ n, Cnt E (Q E n)
  | 0 => fun _ _ _ _ _ e => by cases e
  | n + 1 => body_cnt (Q_cnt E n)
theorem D.cnt {E : Int} {nt : NT} {R R' : List Tk} {t : Tr} (h : D E nt R (.ok (t, R'))) (ho : okN nt) : mN nt t + R'.length ≤ bN nt + R.length := by
  obtain ⟨n, h⟩ := h
  exact Q_cnt E n nt R ho t R' (h n (Nat.le_refl _))
/-- The nodes of a whole source's tree. -/
theorem prog_cnt {E : Int} {R R' : List Tk} {t : Tr} (h : D E .program R (.ok (t, R'))) : (layT (nd 1 [] t.kids)).length ≤ R.length + 1 := by
  have := h.cnt trivial
  simp only [mN, bN] at this
  rw [layT, List.length_cons]; omega
end Go.Proofs.YtnkfodelgpidkaaGreatDoor
