/- What ends of itself comes out as it did, whatever is behind: programs behind one another, and within a body. -/
import Derived.Test.YtnkfodelgpidkaaGreatDoorBal
namespace Go.Proofs.YtnkfodelgpidkaaGreatDoor
set_option linter.unusedVariables false
set_option linter.unusedSimpArgs false
/-- What ends with a token of its own: nothing that follows is looked at (but an else, a catch, a finally). -/
def stmN : NT → Bool
  | .element | .statement | .block | .ifElse | .whileDo | .doWhile | .forLoop | .forStart | .giveBack | .throwIt | .tryIt | .catchIt | .function _ _ | .leave _ | .list _ _ | .untl _ _ | .optional _ | .bracketed | .called _ | .part _ | .param | .primary | .fixedPrimary => true
  | _ => false
def okE : NT → Prop
  | .untl s it | .list s it => s ≠ [] ∧ plainN it = true
  | .row it | .rowMore it => plainN it = true
  | .optional s => s ≠ []
  | .binary l | .binMore l _ => 1 ≤ l
  | .program => False
  | _ => True
theorem plain_okE {it : NT} (h : plainN it = true) : okE it := by cases it <;> first | trivial | cases h
/-- With no token left nothing that ends of itself comes out; what does takes none. -/
def Dead (s : Bool) (x : Rs) : Prop := W x fun _ Y => Y = [] ∧ s = false
def DeadN (f : NT → List Tk → Rs) : Prop := ∀ nt, okE nt → Dead (stmN nt) (f nt [])
section
variable {E : Int} {s : Bool}
theorem Dead.ret {t : Tr} : Dead false (Go.Proofs.YtnkfodelgpidkaaGreatDoor.ret t []) := W.ret ⟨rfl, rfl⟩
theorem Dead.bad {R : List Tk} : Dead s (Go.Proofs.YtnkfodelgpidkaaGreatDoor.bad E R) := W.bad
theorem isF_nil {q : List UInt8} (hq : q ≠ []) : isF E q [] = false := by
  unfold isF; rw [fx_nil]; exact beq_eq_false_iff_ne.2 fun e => hq (by first | exact e | exact e.symm)
theorem Dead.need {q : List UInt8} {k : List Tk → Rs} (hq : q ≠ []) : Dead s (Go.Proofs.YtnkfodelgpidkaaGreatDoor.need E q [] k) := by
  unfold Go.Proofs.YtnkfodelgpidkaaGreatDoor.need; rw [isF_nil hq]; exact Dead.bad
theorem Dead.nameK {k : List UInt8 → List Tk → Rs} : Dead s (Go.Proofs.YtnkfodelgpidkaaGreatDoor.nameK E [] k) := Dead.bad
theorem Dead.keyK {k : List UInt8 → List Tk → Rs} : Dead s (Go.Proofs.YtnkfodelgpidkaaGreatDoor.keyK E [] k) := Dead.bad
theorem Dead.propK {k : List UInt8 → List Tk → Rs} : Dead s (Go.Proofs.YtnkfodelgpidkaaGreatDoor.propK E [] k) := Dead.bad
theorem Dead.ifF {q : List UInt8} {x y : Rs} (hq : q ≠ []) (h : Dead s y) : Dead s (if isF E q [] = true then x else y) := by rw [isF_nil hq]; exact h
theorem Dead.ifK {n : Int} {x y : Rs} (hn : n ≠ 0) (h : Dead s y) : Dead s (if (hd E []).kind = n then x else y) := by rw [if_neg (fun e => hn (e.symm.trans rfl))]; exact h
theorem Dead.ifC {l : List (List UInt8)} {x y : Rs} (hl : l.contains [] = false) (h : Dead s y) : Dead s (if l.contains (fx (hd E [])) = true then x else y) := by rw [fx_nil, hl]; exact h
theorem Dead.ite {c : Prop} [Decidable c] {x y : Rs} (h : Dead s x) (g : Dead s y) : Dead s (if c then x else y) := by split; exact h; exact g
theorem Dead.bnd {f : NT → List Tk → Rs} (H : DeadN f) (nt : NT) (ho : okE nt) {k : Tr → List Tk → Rs} (h : stmN nt = false → ∀ t, Dead s (k t [])) : Dead s (Go.Proofs.YtnkfodelgpidkaaGreatDoor.bnd (f nt []) k) :=
  W.bnd fun t R1 e => by
    obtain ⟨rfl, h2⟩ := H nt ho t R1 e
    exact h h2 t
theorem Dead.call {f : NT → List Tk → Rs} (H : DeadN f) (nt : NT) (ho : okE nt) (h : s = true → stmN nt = true) : Dead s (f nt []) := fun t Y e => by
  obtain ⟨h1, h2⟩ := H nt ho t Y e
  exact ⟨h1, by cases s; rfl; rw [h rfl] at h2; cases h2⟩
end
set_option maxHeartbeats 4000000 in
theorem body_dead {E : Int} {f : NT → List Tk → Rs} (H : DeadN f) : DeadN (body E f) := by
  intro nt ho
  cases nt
  case program => exact ho.elim
  case binMore least x =>
    have ho' : (1 : Int) ≤ least := ho
    simp only [body]
    rw [if_pos (by rw [fx_nil]; show (0 : Int) < _; omega)]
    exact Dead.ret
  all_goals
    simp only [body, stmN, List.tail_nil]
    repeat' (first
      | exact Dead.ret
      | exact Dead.bad
      | exact Dead.need (by first | decide | exact ho | exact ho.1)
      | exact Dead.nameK
      | exact Dead.keyK
      | exact Dead.propK
      | (refine Dead.ifF (by first | decide | exact ho | exact ho.1) ?_)
      | (refine Dead.ifK (by decide) ?_)
      | (refine Dead.ifC (by decide) ?_)
      | (refine Dead.bnd H _ (by first | trivial | exact ho | exact plain_okE ho | exact plain_okE ho.2 | exact ho.2 | exact Int.le_refl 1 | exact ⟨by decide, rfl⟩) fun h _ => ?_; (try cases h))
      | exact Dead.call H _ (by first | trivial | exact ho) (by first | exact fun _ => rfl | exact fun h => by cases h)
      | (refine Dead.ite ?_ ?_))
theorem Q_dead (E : Int) : ∀ n, DeadN (Q E n)
  | 0 => fun _ _ _ _ e => by cases e
  | n + 1 => body_dead (Q_dead E n)

/-- The same, with R0 behind. -/
def Ex (R0 : List Tk) (s : Bool) (x y : Rs) : Prop := W x fun t Y => (Y ≠ [] ∨ s = true) → y = some (.ok (t, Y ++ R0))
def ExN (R0 : List Tk) (f g : NT → List Tk → Rs) : Prop := ∀ nt R, okE nt → Ex R0 (stmN nt) (f nt R) (g nt (R ++ R0))
section
variable {E E' : Int} {s : Bool} {R R0 : List Tk}
theorem Ex.ret {t : Tr} : Ex R0 s (Go.Proofs.YtnkfodelgpidkaaGreatDoor.ret t R) (Go.Proofs.YtnkfodelgpidkaaGreatDoor.ret t (R ++ R0)) := W.ret fun _ => rfl
theorem Ex.bad {y : Rs} : Ex R0 s (Go.Proofs.YtnkfodelgpidkaaGreatDoor.bad E R) y := W.bad
theorem Ex.dead {x y : Rs} (h : Dead s x) : Ex R0 s x y := fun t Y e c => by
  obtain ⟨h1, h2⟩ := h t Y e
  rcases c with c | c
  · exact absurd h1 c
  · rw [h2] at c; cases c
theorem Ex.ite {c : Prop} [Decidable c] {x y a b : Rs} (h : Ex R0 s x a) (g : Ex R0 s y b) : Ex R0 s (if c then x else y) (if c then a else b) := by split; exact h; exact g
theorem Ex.need {q : List UInt8} {k k' : List Tk → Rs} (hq : q ≠ []) (h : ∀ l, Ex R0 s (k l) (k' (l ++ R0))) : Ex R0 s (Go.Proofs.YtnkfodelgpidkaaGreatDoor.need E q R k) (Go.Proofs.YtnkfodelgpidkaaGreatDoor.need E' q (R ++ R0) k') := by
  cases R with
  | nil => exact Ex.dead (Dead.need hq)
  | cons a l => exact Ex.ite (h l) Ex.bad
theorem Ex.nameK {k k' : List UInt8 → List Tk → Rs} (h : ∀ x l, Ex R0 s (k x l) (k' x (l ++ R0))) : Ex R0 s (Go.Proofs.YtnkfodelgpidkaaGreatDoor.nameK E R k) (Go.Proofs.YtnkfodelgpidkaaGreatDoor.nameK E' (R ++ R0) k') := by
  cases R with
  | nil => exact Ex.dead Dead.nameK
  | cons a l => exact Ex.ite (h _ l) Ex.bad
theorem Ex.keyK {k k' : List UInt8 → List Tk → Rs} (h : ∀ x l, Ex R0 s (k x l) (k' x (l ++ R0))) : Ex R0 s (Go.Proofs.YtnkfodelgpidkaaGreatDoor.keyK E R k) (Go.Proofs.YtnkfodelgpidkaaGreatDoor.keyK E' (R ++ R0) k') := by
  cases R with
  | nil => exact Ex.dead Dead.keyK
  | cons a l => exact Ex.ite (h _ l) Ex.bad
theorem Ex.propK {k k' : List UInt8 → List Tk → Rs} (h : ∀ x l, Ex R0 s (k x l) (k' x (l ++ R0))) : Ex R0 s (Go.Proofs.YtnkfodelgpidkaaGreatDoor.propK E R k) (Go.Proofs.YtnkfodelgpidkaaGreatDoor.propK E' (R ++ R0) k') := by
  cases R with
  | nil => exact Ex.dead Dead.propK
  | cons a l => exact Ex.ite (h _ l) (Ex.ite (h _ l) (Ex.keyK (R := a :: l) h))
theorem Ex.call {f g : NT → List Tk → Rs} (H : ExN R0 f g) (nt : NT) (ho : okE nt) (h : s = true → stmN nt = true) : Ex R0 s (f nt R) (g nt (R ++ R0)) := fun t Y e c => H nt R ho t Y e (c.imp id h)
theorem Ex.bndS {f g : NT → List Tk → Rs} (H : ExN R0 f g) (nt : NT) (ho : okE nt) (hs : stmN nt = true) {k k' : Tr → List Tk → Rs} (h : ∀ t Y, Ex R0 s (k t Y) (k' t (Y ++ R0))) : Ex R0 s (Go.Proofs.YtnkfodelgpidkaaGreatDoor.bnd (f nt R) k) (Go.Proofs.YtnkfodelgpidkaaGreatDoor.bnd (g nt (R ++ R0)) k') :=
  W.bnd fun t Y e => by
    have := H nt R ho t Y e (.inr hs)
    unfold Go.Proofs.YtnkfodelgpidkaaGreatDoor.bnd; rw [this]; exact h t Y
theorem Ex.bndN {f g : NT → List Tk → Rs} (H : ExN R0 f g) (nt : NT) (ho : okE nt) {k k' : Tr → List Tk → Rs} (h : ∀ t a l, Ex R0 s (k t (a :: l)) (k' t (a :: (l ++ R0)))) (d : ∀ t, Dead s (k t [])) : Ex R0 s (Go.Proofs.YtnkfodelgpidkaaGreatDoor.bnd (f nt R) k) (Go.Proofs.YtnkfodelgpidkaaGreatDoor.bnd (g nt (R ++ R0)) k') :=
  W.bnd fun t Y e => by
    cases Y with
    | nil => exact Ex.dead (d t)
    | cons a l =>
      have := H nt R ho t (a :: l) e (.inl (List.cons_ne_nil _ _))
      unfold Go.Proofs.YtnkfodelgpidkaaGreatDoor.bnd; rw [this]; exact h t a l
theorem Ex.ifF {q : List UInt8} {x y a b : Rs} (hq : q ≠ []) (h : ∀ t l, R = t :: l → Ex R0 s x a) (g : Ex R0 s y b) (d : isF E' q R0 = false ∨ (R = [] → Dead s y)) : Ex R0 s (if isF E q R = true then x else y) (if isF E' q (R ++ R0) = true then a else b) := by
  cases R with
  | nil =>
    rw [isF_nil hq]
    rcases d with d | d
    · rw [List.nil_append, d]; exact g
    · exact Ex.dead (d rfl)
  | cons t l => exact Ex.ite (h t l rfl) g
end
/-- What the tokens behind may not begin with. -/
def Calm (E' : Int) (R0 : List Tk) : Prop := isF E' [101, 108, 115, 101] R0 = false ∧ isF E' [99, 97, 116, 99, 104] R0 = false ∧ isF E' [102, 105, 110, 97, 108, 108, 121] R0 = false
theorem Ex.iteH {R0 : List Tk} {s : Bool} {c : Prop} [Decidable c] {x y a b : Rs} (h : c → Ex R0 s x a) (g : ¬ c → Ex R0 s y b) : Ex R0 s (if c then x else y) (if c then a else b) := by split; exact h ‹_›; exact g ‹_›
set_option maxHeartbeats 4000000 in
theorem body_ex {E E' : Int} {R0 : List Tk} (hc : Calm E' R0) {f g : NT → List Tk → Rs} (HD : DeadN f) (H : ExN R0 f g) : ExN R0 (body E f) (body E' g) := by
  intro nt R ho
  cases R with
  | nil => exact Ex.dead (body_dead HD nt ho)
  | cons a l =>
  cases nt
  case program => exact ho.elim
  case binMore least x =>
    have ho' : (1 : Int) ≤ least := ho
    simp only [body, stmN]
    refine Ex.iteH (fun _ => Ex.ret (R := a :: l)) fun hl => ?_
    have hl2 : ¬ levelI (fx a) < least := hl
    exact (Ex.bndN (R := l) H (.binary (levelI (fx a) + 1)) (by show (1 : Int) ≤ _; omega) (fun t a l => Ex.call (R := a :: l) H (.binMore least _) ho' (fun h => by cases h)) (fun t => Dead.call HD (.binMore least _) ho' (fun h => by cases h)))
  case decl =>
    simp only [body, stmN]
    refine Ex.nameK (R := a :: l) fun x R1 => Ex.ifF (by decide) (fun t l e => ?_) Ex.ret (.inr fun e => by subst e; exact Dead.ret)
    subst e
    exact Ex.bndN (R := l) H .assign trivial (fun _ a l => Ex.ret (R := a :: l)) (fun _ => Dead.ret)
  case ifElse =>
    simp only [body, stmN]
    refine Ex.need (R := a :: l) (by decide) fun R1 => Ex.bndS H _ (by trivial) rfl fun x R2 => Ex.bndS H _ (by trivial) rfl fun y R3 => Ex.ifF (by decide) (fun t l e => ?_) Ex.ret (.inl hc.1)
    subst e
    exact Ex.bndS (R := l) H .statement trivial rfl fun _ _ => Ex.ret
  case giveBack =>
    simp only [body, stmN]
    refine Ex.need (R := a :: l) (by decide) fun R1 => Ex.ifF (by decide) (fun t l e => Ex.need (by decide) fun _ => Ex.ret) (Ex.bndN H .expr trivial (fun _ a l => Ex.need (R := a :: l) (by decide) fun _ => Ex.ret) (fun _ => Dead.need (by decide))) (.inr fun e => by subst e; exact Dead.bnd HD .expr trivial fun _ _ => Dead.need (by decide))
  case tryIt =>
    simp only [body, stmN]
    refine Ex.need (R := a :: l) (by decide) fun R1 => Ex.bndS H _ (by trivial) rfl fun x R2 => Ex.ifF (by decide) (fun _ _ _ => Ex.bndS H _ (by trivial) rfl fun y R3 => Ex.ifF (by decide) (fun t l e => ?_) Ex.ret (.inl hc.2.2)) (Ex.ifF (by decide) (fun t l e => ?_) Ex.bad (.inl hc.2.2)) (.inl hc.2.1)
    · subst e
      exact Ex.bndS (R := l) H .block trivial rfl fun _ _ => Ex.ret
    · subst e
      exact Ex.bndS (R := l) H .block trivial rfl fun _ _ => Ex.ret
  case fixedPrimary =>
    simp only [body, stmN, List.cons_append, List.tail_cons]
    refine Ex.ite Ex.ret (Ex.ite Ex.ret (Ex.ite Ex.ret (Ex.ite Ex.ret (Ex.ite (Ex.call (R := a :: l) H _ (by trivial) (fun _ => rfl)) (Ex.ite (Ex.bndS H (.list [93] .assign) ⟨by decide, rfl⟩ rfl fun _ _ => Ex.ret) (Ex.ite (Ex.bndS H (.list [125] .prop) ⟨by decide, rfl⟩ rfl fun _ _ => Ex.ret) (Ex.ite ?_ Ex.bad)))))))
    exact Ex.ifF (by decide) (fun _ _ _ => Ex.call H (.function 31 []) trivial fun _ => rfl) (Ex.nameK fun x _ => Ex.call H (.function 31 x) trivial fun _ => rfl) (.inr fun e => by subst e; exact Dead.nameK)
  all_goals
    simp only [body, stmN, List.cons_append, List.tail_cons]
    repeat' (first
      | exact Ex.ret
      | exact Ex.ret (R := _ :: _)
      | exact Ex.bad
      | exact Dead.ret
      | exact Dead.bad
      | exact Dead.need (by first | decide | exact ho | exact ho.1)
      | (refine Dead.ifF (by first | decide | exact ho | exact ho.1) ?_)
      | (refine Dead.ifK (by decide) ?_)
      | (refine Dead.ifC (by decide) ?_)
      | exact Dead.call HD _ (by first | trivial | exact ho) (fun h => by cases h)
      | (refine Dead.bnd HD _ (by first | trivial | exact ho | exact plain_okE ho | exact plain_okE ho.2 | exact ho.2 | exact Int.le_refl 1 | exact ⟨by decide, rfl⟩) fun h _ => ?_; (try cases h))
      | (refine Dead.ite ?_ ?_)
      | (refine Ex.need (by first | decide | exact ho | exact ho.1) fun _ => ?_)
      | (refine Ex.nameK fun _ _ => ?_)
      | (refine Ex.keyK fun _ _ => ?_)
      | (refine Ex.propK fun _ _ => ?_)
      | (refine Ex.bndS H _ (by first | trivial | exact ho | exact ⟨by decide, rfl⟩ | exact List.cons_ne_nil _ _ | exact plain_okE ho.2) (by rfl) fun _ _ => ?_)
      | (refine Ex.bndN H _ (by first | trivial | exact ho | exact ⟨by decide, rfl⟩ | exact List.cons_ne_nil _ _ | exact plain_okE ho | exact plain_okE ho.2 | exact ho.2 | rfl | exact Int.le_refl 1) (fun _ _ _ => ?_) (fun _ => ?_))
      | exact Ex.call H _ (by first | trivial | exact ho) (by first | exact fun _ => rfl | exact fun h => by cases h)
      | exact Ex.call (R := _ :: _) H _ (by first | trivial | exact ho) (by first | exact fun _ => rfl | exact fun h => by cases h)
      | (refine Ex.ite ?_ ?_))
theorem Q_ex {E E' : Int} {R0 : List Tk} (hc : Calm E' R0) : ∀ n, ExN R0 (Q E n) (Q E' n)
  | 0 => fun _ _ _ _ _ e => by cases e
  | n + 1 => body_ex hc (Q_dead E n) (Q_ex hc n)
/-- What ends of itself comes out as it did, whatever is behind. -/
theorem D.behind {E E' : Int} {R0 R Y : List Tk} {t : Tr} {nt : NT} (hc : Calm E' R0) (ho : okE nt) (hs : stmN nt = true) (h : D E nt R (.ok (t, Y))) : D E' nt (R ++ R0) (.ok (t, Y ++ R0)) := by
  obtain ⟨n, h⟩ := h
  exact D.of (Q_ex hc n nt R ho t Y (h n (Nat.le_refl _)) (.inr hs))
/-- A program's elements, one by one. -/
theorem prog_split {E : Int} {t : Tr} : ∀ {n : Nat} {R : List Tk}, Q E n .program R = some (.ok (t, [])) → (R = [] ∧ t.kids = []) ∨ ∃ x R1 l, R ≠ [] ∧ D E .element R (.ok (x, R1)) ∧ (∃ m, m < n ∧ Q E m .program R1 = some (.ok (l, []))) ∧ t.kids = x :: l.kids
  | 0, R, h => by cases h
  | n + 1, R, h => by
    rw [Q] at h
    simp only [body] at h
    cases R with
    | nil =>
      simp only [ret] at h
      injection h with h; injection h with h; injection h with h _
      subst h; exact .inl ⟨rfl, rfl⟩
    | cons a l =>
      simp only [bnd] at h
      cases h1 : Q E n .element (a :: l) with
      | none => rw [h1] at h; cases h
      | some r => cases r with
        | error p => rw [h1] at h; cases h
        | ok x =>
          obtain ⟨x, R1⟩ := x
          rw [h1] at h
          simp only at h
          cases h2 : Q E n .program R1 with
          | none => rw [h2] at h; cases h
          | some r => cases r with
            | error p => rw [h2] at h; cases h
            | ok y =>
              obtain ⟨y, R2⟩ := y
              rw [h2] at h
              simp only [ret] at h
              injection h with h; injection h with h; injection h with h3 h4
              subst h4; subst h3
              exact .inr ⟨x, R1, y, List.cons_ne_nil _ _, D.of h1, ⟨n, Nat.lt_succ_self n, h2⟩, rfl⟩
/-- Elements, and then those of what is behind. -/
theorem prog_join {E E' : Int} {R0 : List Tk} (hc : Calm E' R0) : ∀ (n : Nat) {t u : Tr} {R : List Tk}, Q E n .program R = some (.ok (t, [])) → D E' .program R0 (.ok (u, [])) → D E' .program (R ++ R0) (.ok (bag (t.kids ++ u.kids), []))
  | n, t, u, R, h, h0 => by
    rcases prog_split h with ⟨rfl, h2⟩ | ⟨x, R1, l, hne, h1, ⟨m, hm, h2⟩, h3⟩
    · rw [h2]
      obtain ⟨k, hk⟩ := h0
      have hk := hk (k + 1) (by omega)
      rw [List.nil_append, List.nil_append]
      rcases prog_split hk with ⟨rfl, h4⟩ | ⟨x, R1, l, hne, h1, ⟨m, hm, h5⟩, h3⟩
      · rw [h4]; exact D.mk0 fun m => rfl
      · rw [h3]
        cases R0 with
        | nil => exact absurd rfl hne
        | cons a r => exact D.mk2 h1 (D.of h5) fun m e1 e2 => by simp only [body, e1, e2, bnd]; rfl
    · rw [h3]
      have g1 := h1.behind hc (nt := .element) trivial rfl
      have g2 := prog_join hc m h2 h0
      cases R with
      | nil => exact absurd rfl hne
      | cons a r =>
        exact D.mk2 g1 g2 fun m e1 e2 => by
          rw [List.cons_append] at e1 ⊢
          simp only [body, e1, e2, bnd]; rfl
/-- No element begins with what shuts a body. -/
theorem el_not {E E' : Int} {a : Tk} {r R0 : List Tk} {x : Tr} {R1 : List Tk} (hb : isF E' [125] (a :: r ++ R0) = true) (h : D E .element (a :: r) (.ok (x, R1))) : False := by
  have ht : fx a = [125] := by
    have : isF E' [125] (a :: r ++ R0) = (fx a == [125]) := rfl
    rw [this, beq_iff_eq] at hb; exact hb
  have hk : a.kind = 2 ∨ a.kind = 5 := by
    unfold fx at ht; split at ht; assumption; cases ht
  have hF : ∀ s, isF E s (a :: r) = ([125] == s) := fun s => by show (fx a == s) = _; rw [ht]
  have k1 : ¬ (hd E (a :: r)).kind = 1 := fun e => by have e : a.kind = 1 := e; omega
  have k3 : ¬ (hd E (a :: r)).kind = 3 := fun e => by have e : a.kind = 3 := e; omega
  have k4 : ¬ (hd E (a :: r)).kind = 4 := fun e => by have e : a.kind = 4 := e; omega
  have ifn : ∀ (s : List UInt8) (x y : Rs), isF E s (a :: r) = false → W y (fun _ _ => False) → W (if isF E s (a :: r) = true then x else y) (fun _ _ => False) := fun s x y h1 h2 => by rw [h1]; exact h2
  have sub : ∀ (nt : NT) (k : Tr → List Tk → Rs) (n : Nat), (∀ n, W (Q E n nt (a :: r)) fun _ _ => False) → W (Go.Proofs.YtnkfodelgpidkaaGreatDoor.bnd (Q E n nt (a :: r)) k) fun _ _ => False := fun nt k n h => W.bnd fun t R1 e => (h n t R1 e).elim
  have z1 : ∀ n, W (Q E n .fixedPrimary (a :: r)) fun _ _ => False := by
    intro n
    cases n with
    | zero => exact fun _ _ e => by cases e
    | succ n =>
      simp only [Q, body]
      iterate 8 refine ifn _ _ _ (by rw [hF]; decide) ?_
      exact W.bad
  have z2 : ∀ n, W (Q E n .primary (a :: r)) fun _ _ => False := by
    intro n
    cases n with
    | zero => exact fun _ _ e => by cases e
    | succ n => simp only [Q, body, if_neg k1, if_neg k3, if_neg k4]; exact z1 n
  have z3 : ∀ n, W (Q E n .primaryOrNew (a :: r)) fun _ _ => False := by
    intro n
    cases n with
    | zero => exact fun _ _ e => by cases e
    | succ n => simp only [Q, body]; exact ifn _ _ _ (by rw [hF]; decide) (z2 n)
  have z4 : ∀ n, W (Q E n .member (a :: r)) fun _ _ => False := by
    intro n
    cases n with
    | zero => exact fun _ _ e => by cases e
    | succ n => simp only [Q, body]; exact sub _ _ n z3
  have z5 : ∀ n, W (Q E n .postfx (a :: r)) fun _ _ => False := by
    intro n
    cases n with
    | zero => exact fun _ _ e => by cases e
    | succ n => simp only [Q, body]; exact sub _ _ n z4
  have z6 : ∀ n, W (Q E n .unary (a :: r)) fun _ _ => False := by
    intro n
    cases n with
    | zero => exact fun _ _ e => by cases e
    | succ n =>
      simp only [Q, body]
      rw [if_neg (by rw [show fx (hd E (a :: r)) = [125] from ht]; decide), if_neg (by rw [show fx (hd E (a :: r)) = [125] from ht]; decide)]
      exact z5 n
  have z7 : ∀ l n, W (Q E n (.binary l) (a :: r)) fun _ _ => False := by
    intro l n
    cases n with
    | zero => exact fun _ _ e => by cases e
    | succ n => simp only [Q, body]; exact sub _ _ n z6
  have z8 : ∀ n, W (Q E n .cond (a :: r)) fun _ _ => False := by
    intro n
    cases n with
    | zero => exact fun _ _ e => by cases e
    | succ n => simp only [Q, body]; exact sub _ _ n (z7 1)
  have z9 : ∀ n, W (Q E n .assign (a :: r)) fun _ _ => False := by
    intro n
    cases n with
    | zero => exact fun _ _ e => by cases e
    | succ n => simp only [Q, body]; exact sub _ _ n z8
  have z10 : ∀ n, W (Q E n .expr (a :: r)) fun _ _ => False := by
    intro n
    cases n with
    | zero => exact fun _ _ e => by cases e
    | succ n => simp only [Q, body]; exact sub _ _ n z9
  have z11 : ∀ n, W (Q E n .statement (a :: r)) fun _ _ => False := by
    intro n
    cases n with
    | zero => exact fun _ _ e => by cases e
    | succ n =>
      simp only [Q, body]
      iterate 13 refine ifn _ _ _ (by rw [hF]; decide) ?_
      exact sub _ _ n z10
  obtain ⟨n, h⟩ := h
  have h := h (n + 1) (by omega)
  simp only [Q, body] at h
  exact ifn _ _ _ (by rw [hF]; decide) (z11 n) _ _ h
/-- Elements up to a sign that begins none. -/
theorem prog_until {E E' : Int} {R0 : List Tk} (hc : Calm E' R0) (hq : isF E' [125] R0 = true) : ∀ (n : Nat) {t : Tr} {R : List Tk}, Q E n .program R = some (.ok (t, [])) → D E' (.untl [125] .element) (R ++ R0) (.ok (bag t.kids, R0.tail))
  | n, t, R, h => by
    rcases prog_split h with ⟨rfl, h2⟩ | ⟨x, R1, l, hne, h1, ⟨m, hm, h2⟩, h3⟩
    · rw [h2]
      exact D.mk0 fun m => by simp only [body, List.nil_append, hq, if_true]; rfl
    · rw [h3]
      have g1 := h1.behind hc (nt := .element) trivial rfl
      have g2 := prog_until hc hq m h2
      refine D.mk2 g1 g2 fun m e1 e2 => ?_
      have hn : isF E' [125] (R ++ R0) = false := by
        cases R with
        | nil => exact absurd rfl hne
        | cons a r =>
          cases hb : isF E' [125] (a :: r ++ R0) with
          | false => rfl
          | true => exact (el_not (E := E) hb h1).elim
      simp only [body, hn, Bool.false_eq_true, if_false, e1, e2, bnd]; rfl
end Go.Proofs.YtnkfodelgpidkaaGreatDoor
