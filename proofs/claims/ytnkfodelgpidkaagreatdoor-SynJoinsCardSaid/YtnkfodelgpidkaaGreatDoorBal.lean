/- A whole source shuts what it opens: the grammar and its brackets. -/
import Derived.Test.YtnkfodelgpidkaaGreatDoorPc
namespace Go.Proofs.YtnkfodelgpidkaaGreatDoor
set_option linter.unusedVariables false
set_option linter.unusedSimpArgs false
/-- The brackets that are open behind tokens. -/
def dep (l : List Tk) (op : Int) : Int := l.foldl (fun o t => opA t o) op
def brk (s : List UInt8) : Bool := opens s || shuts s
/-- No word is a bracket. -/
def Wrd (R : List Tk) : Prop := ∀ t ∈ R, t.kind = 2 → brk t.text = false
/-- From R with a brackets more to R' with b brackets more. -/
def Sb (a b : Int) (R R' : List Tk) : Prop := Wrd R' ∧ ∀ op : Int, 0 ≤ op → dep R (op + a) = dep R' (op + b)
section
variable {E : Int} {R R1 R0 : List Tk} {a b : Int}
theorem Wrd.tail (h : Wrd R) : Wrd R.tail := fun t ht => h t (List.mem_of_mem_tail ht)
theorem dep_cons (h : R ≠ []) (op : Int) : dep R op = dep R.tail (opA (hd E R) op) := by
  cases R with
  | nil => exact absurd rfl h
  | cons t l => rfl
theorem isF_ne {s : List UInt8} (hs : s ≠ []) (h : isF E s R = true) : R ≠ [] ∧ ((hd E R).kind = 2 ∨ (hd E R).kind = 5) ∧ (hd E R).text = s := by
  unfold isF fx at h
  rw [beq_iff_eq] at h
  by_cases hk : (hd E R).kind = 2 ∨ (hd E R).kind = 5
  · rw [if_pos hk] at h
    refine ⟨fun e => ?_, hk, h⟩
    rw [e] at hk; rcases hk with hk | hk <;> cases hk
  · rw [if_neg hk] at h; exact absurd h.symm hs
theorem hd_mem (h : R ≠ []) : hd E R ∈ R := by
  cases R with
  | nil => exact absurd rfl h
  | cons t l => exact List.mem_cons_self
theorem opA_neut {t : Tk} (h : brk t.text = false) (op : Int) : opA t op = op := by
  unfold brk at h; rw [Bool.or_eq_false_iff] at h
  unfold opA; rw [h.1, h.2]; simp
theorem Sb.go (h : Sb a b R0 R) (hR : R ≠ []) (ht : brk (hd E R).text = false ∨ (hd E R).kind ≠ 5) : Sb a b R0 R.tail := by
  refine ⟨h.1.tail, fun op ho => ?_⟩
  rw [h.2 op ho, dep_cons (E := E) hR]
  rcases ht with ht | ht
  · rw [opA_neut ht]
  · unfold opA
    rw [show ((hd E R).kind == 5) = false from beq_eq_false_iff_ne.2 ht]; simp
theorem Sb.neut (h : Sb a b R0 R) {s : List UInt8} (hs : s ≠ []) (hb : brk s = false) (hf : isF E s R = true) : Sb a b R0 R.tail := by
  obtain ⟨h1, _, h2⟩ := isF_ne hs hf
  exact h.go h1 (.inl (by rw [h2]; exact hb))
theorem Sb.opn (h : Sb a b R0 R) (hb : 0 ≤ b) {s : List UInt8} (hs : opens s = true) (hf : isF E s R = true) : Sb a (b + 1) R0 R.tail := by
  obtain ⟨h1, hk, h2⟩ := isF_ne (fun e => by rw [e] at hs; cases hs) hf
  have hk5 : (hd E R).kind = 5 := by
    rcases hk with hk | hk
    · have := h.1 _ (hd_mem (E := E) h1) hk
      unfold brk at this; rw [h2, hs] at this; cases this
    · exact hk
  refine ⟨h.1.tail, fun op ho => ?_⟩
  rw [h.2 op ho, dep_cons (E := E) h1]
  unfold opA; rw [hk5, h2, hs]; simp [Int.add_assoc]
theorem Sb.shut (h : Sb a b R0 R) (hb : 1 ≤ b) {s : List UInt8} (hs : shuts s = true) (hf : isF E s R = true) : Sb a (b - 1) R0 R.tail := by
  obtain ⟨h1, hk, h2⟩ := isF_ne (fun e => by rw [e] at hs; cases hs) hf
  have hk5 : (hd E R).kind = 5 := by
    rcases hk with hk | hk
    · have := h.1 _ (hd_mem (E := E) h1) hk
      unfold brk at this; rw [h2, hs] at this; simp at this
    · exact hk
  have ho' : opens s = false := by
    unfold shuts at hs; simp only [Bool.or_eq_true, beq_iff_eq] at hs
    rcases hs with (hs | hs) | hs <;> subst hs <;> rfl
  refine ⟨h.1.tail, fun op ho => ?_⟩
  rw [h.2 op ho, dep_cons (E := E) h1]
  unfold opA; rw [hk5, h2, hs, ho']; simp
  congr 1; omega
theorem Sb.trans {c : Int} {R2 : List Tk} (h : Sb a (b + c) R0 R1) (hc : 0 ≤ c) {d e : Int} (g : Wrd R1 → Sb d e R1 R2) (hd : d = b) : Sb a (e + c) R0 R2 := by
  subst hd
  have g := g h.1
  refine ⟨g.1, fun op ho => ?_⟩
  have := g.2 (op + c) (by omega)
  rw [h.2 op ho]
  rw [show op + (d + c) = op + c + d by omega, this]
  congr 1; omega
end
def clo : NT → Int
  | .untl _ _ | .list _ _ => 1
  | .optional s => if shuts s then 1 else 0
  | _ => 0
def restN : NT → Bool
  | .leave _ => false
  | _ => true
def okB : NT → List Tk → Prop
  | .untl s it, _ | .list s it, _ => shuts s = true ∧ plainN it = true ∧ restN it = true
  | .row it, _ | .rowMore it, _ => plainN it = true ∧ restN it = true
  | .optional s, _ => s = [59] ∨ s = [41]
  | .binary l, _ | .binMore l _, _ => 1 ≤ l
  | .leave _, R => ∃ t l, R = t :: l ∧ brk t.text = false
  | _, _ => True
theorem plain_okB {it : NT} (h : plainN it = true ∧ restN it = true) (R : List Tk) : okB it R := by obtain ⟨h, g⟩ := h; cases it <;> first | trivial | cases h | cases g
theorem plain_clo {it : NT} (h : plainN it = true) : clo it = 0 := by cases it <;> first | rfl | cases h
def BalN (rec : NT → List Tk → Rs) : Prop := ∀ nt R, okB nt R → W (rec nt R) fun _ R1 => Wrd R → Sb (clo nt) 0 R R1
/-- What is left to be shown when the tokens R are left, with b brackets open. -/
def V (a b : Int) (R0 R : List Tk) (x : Rs) : Prop := Sb a b R0 R → W x fun _ R1 => Sb a 0 R0 R1
section
variable {E : Int} {R R0 : List Tk} {a b : Int}
theorem V.ret {t : Tr} : V a 0 R0 R (Go.Proofs.YtnkfodelgpidkaaGreatDoor.ret t R) := fun h => W.ret h
theorem V.bad {R' : List Tk} : V a b R0 R (Go.Proofs.YtnkfodelgpidkaaGreatDoor.bad E R') := fun _ => W.bad
theorem V.bnd {rec : NT → List Tk → Rs} (H : BalN rec) (nt : NT) (ho : okB nt R) {k : Tr → List Tk → Rs} (c : Int) (hc : 0 ≤ c) (hb : b = clo nt + c) (h : ∀ t R1, V a c R0 R1 (k t R1)) : V a b R0 R (Go.Proofs.YtnkfodelgpidkaaGreatDoor.bnd (rec nt R) k) := by
  subst hb
  intro hs
  refine W.bnd fun t R1 e => ?_
  have h1 := H nt R ho t R1 e
  have h2 := Sb.trans (c := c) hs hc h1 rfl
  rw [Int.zero_add] at h2
  exact h t R1 h2
theorem V.call {rec : NT → List Tk → Rs} (H : BalN rec) (nt : NT) (ho : okB nt R) (hb : b = clo nt) : V a b R0 R (rec nt R) := by
  subst hb
  intro hs t R1 e
  have h1 := H nt R ho t R1 e
  have h2 := Sb.trans (c := 0) (by rw [Int.add_zero]; exact hs) (Int.le_refl _) h1 rfl
  rw [Int.zero_add] at h2
  exact h2
theorem V.opn {s : List UInt8} {k : List Tk → Rs} (hs : opens s = true) (hb : 0 ≤ b) (h : V a (b + 1) R0 R.tail (k R.tail)) : V a b R0 R (Go.Proofs.YtnkfodelgpidkaaGreatDoor.need E s R k) := by
  intro hS; unfold Go.Proofs.YtnkfodelgpidkaaGreatDoor.need; split
  · exact h (hS.opn hb hs ‹_›)
  · exact W.bad
theorem V.shut {s : List UInt8} {k : List Tk → Rs} (hs : shuts s = true) (hb : 1 ≤ b) (h : V a (b - 1) R0 R.tail (k R.tail)) : V a b R0 R (Go.Proofs.YtnkfodelgpidkaaGreatDoor.need E s R k) := by
  intro hS; unfold Go.Proofs.YtnkfodelgpidkaaGreatDoor.need; split
  · exact h (hS.shut hb hs ‹_›)
  · exact W.bad
theorem V.neut {s : List UInt8} {k : List Tk → Rs} (hs : s ≠ []) (hn : brk s = false) (h : V a b R0 R.tail (k R.tail)) : V a b R0 R (Go.Proofs.YtnkfodelgpidkaaGreatDoor.need E s R k) := by
  intro hS; unfold Go.Proofs.YtnkfodelgpidkaaGreatDoor.need; split
  · exact h (hS.neut hs hn ‹_›)
  · exact W.bad
theorem V.ifO {s : List UInt8} {x y : Rs} (hs : opens s = true) (hb : 0 ≤ b) (h : V a (b + 1) R0 R.tail x) (g : V a b R0 R y) : V a b R0 R (if isF E s R then x else y) := by
  intro hS; split
  · exact h (hS.opn hb hs ‹_›)
  · exact g hS
theorem V.ifS {s : List UInt8} {x y : Rs} (hs : shuts s = true) (hb : 1 ≤ b) (h : V a (b - 1) R0 R.tail x) (g : V a b R0 R y) : V a b R0 R (if isF E s R then x else y) := by
  intro hS; split
  · exact h (hS.shut hb hs ‹_›)
  · exact g hS
theorem V.ifN {s : List UInt8} {x y : Rs} (hs : s ≠ []) (hn : brk s = false) (h : V a b R0 R.tail x) (g : V a b R0 R y) : V a b R0 R (if isF E s R then x else y) := by
  intro hS; split
  · exact h (hS.neut hs hn ‹_›)
  · exact g hS
theorem V.ite {c : Prop} [Decidable c] {x y : Rs} (h : V a b R0 R x) (g : V a b R0 R y) : V a b R0 R (if c then x else y) := by
  intro hS; split
  · exact h hS
  · exact g hS
theorem kind_ne {n : Int} (hn : n ≠ 0) (h : (hd E R).kind = n) : R ≠ [] := fun e => by rw [e] at h; exact hn h.symm
theorem V.nameK {k : List UInt8 → List Tk → Rs} (h : ∀ x, V a b R0 R.tail (k x R.tail)) : V a b R0 R (Go.Proofs.YtnkfodelgpidkaaGreatDoor.nameK E R k) := by
  intro hS; unfold Go.Proofs.YtnkfodelgpidkaaGreatDoor.nameK; split
  · rename_i hk
    exact h _ (hS.go (kind_ne (by decide) hk) (.inr (by rw [hk]; decide)))
  · exact W.bad
theorem V.keyK {k : List UInt8 → List Tk → Rs} (h : ∀ x, V a b R0 R.tail (k x R.tail)) : V a b R0 R (Go.Proofs.YtnkfodelgpidkaaGreatDoor.keyK E R k) := by
  intro hS; unfold Go.Proofs.YtnkfodelgpidkaaGreatDoor.keyK; split
  · rename_i hk
    rcases hk with hk | hk
    · exact h _ (hS.go (kind_ne (by decide) hk) (.inr (by rw [hk]; decide)))
    · exact h _ (hS.go (kind_ne (by decide) hk) (.inr (by rw [hk]; decide)))
  · exact W.bad
theorem V.propK {k : List UInt8 → List Tk → Rs} (h : ∀ x, V a b R0 R.tail (k x R.tail)) : V a b R0 R (Go.Proofs.YtnkfodelgpidkaaGreatDoor.propK E R k) := by
  intro hS; unfold Go.Proofs.YtnkfodelgpidkaaGreatDoor.propK; split
  · rename_i hk
    exact h _ (hS.go (kind_ne (by decide) hk) (.inr (by rw [hk]; decide)))
  · split
    · rename_i hk
      exact h _ (hS.go (kind_ne (by decide) hk) (.inr (by rw [hk]; decide)))
    · exact V.keyK h hS
theorem V.ifK {n : Int} {x y : Rs} (hn : n ≠ 0) (h5 : n ≠ 5) (h : V a b R0 R.tail x) (g : V a b R0 R y) : V a b R0 R (if (hd E R).kind = n then x else y) := by
  intro hS; split
  · rename_i hk
    exact h (hS.go (kind_ne hn hk) (.inr (by rw [hk]; exact h5)))
  · exact g hS
theorem fx_ne (h : fx (hd E R) ≠ []) : R ≠ [] ∧ fx (hd E R) = (hd E R).text := by
  refine ⟨fun e => by rw [e] at h; exact h rfl, ?_⟩
  unfold fx at h ⊢
  split
  · rfl
  · rename_i hn; rw [if_neg hn] at h; exact absurd rfl h
theorem V.ifC {l : List (List UInt8)} {x y : Rs} (hl : (l.all fun s => s != [] && !brk s) = true) (h : V a b R0 R.tail x) (g : V a b R0 R y) : V a b R0 R (if l.contains (fx (hd E R)) = true then x else y) := by
  intro hS; split
  · rename_i hk
    rw [List.contains_iff_mem] at hk
    have := List.all_eq_true.1 hl _ hk
    simp only [Bool.and_eq_true, bne_iff_ne, Bool.not_eq_true'] at this
    obtain ⟨h1, h2⟩ := fx_ne this.1
    exact h (hS.go h1 (.inl (by rw [← h2]; exact this.2)))
  · exact g hS
theorem V.leave {rec : NT → List Tk → Rs} (H : BalN rec) {kind : Int} {s : List UInt8} {y : Rs} (hs : s ≠ []) (hn : brk s = false) (g : V 0 0 R0 R y) : V 0 0 R0 R (if isF E s R then rec (.leave kind) R else y) := by
  intro hS; split
  · rename_i hf
    obtain ⟨h1, _, h2⟩ := isF_ne hs hf
    refine V.call H (.leave kind) ?_ rfl hS
    cases R with
    | nil => exact absurd rfl h1
    | cons t l => exact ⟨t, l, rfl, by rw [show t.text = s from h2]; exact hn⟩
  · exact g hS
theorem V.up {x : Rs} {c : Int} (h : V a c R0 R x) (e : b = c) : V a b R0 R x := by subst e; exact h
end
theorem level_neut {s : List UInt8} (h : 1 ≤ levelI s) : s ≠ [] ∧ brk s = false := by
  have key : ∀ (l : List (List UInt8 × Int)), (l.all fun p => p.1 != [] && !brk p.1) = true → l.lookup s ≠ none → s ≠ [] ∧ brk s = false := by
    intro l
    induction l with
    | nil => intro _ h; exact absurd rfl h
    | cons p r ih =>
      intro h1 h2
      rw [List.all_cons, Bool.and_eq_true] at h1
      rw [List.lookup_cons] at h2
      by_cases hp : (s == p.1) = true
      · rw [beq_iff_eq] at hp; subst hp
        simpa using h1.1
      · rw [Bool.not_eq_true] at hp
        rw [hp] at h2
        exact ih h1.2 h2
  refine key levels (by decide) fun e => ?_
  unfold levelI at h; rw [e] at h; exact absurd h (by decide)
set_option maxHeartbeats 4000000 in
theorem body_bal {E : Int} {rec : NT → List Tk → Rs} (H : BalN rec) : BalN (body E rec) := by
  intro nt R ho
  suffices h : V (clo nt) (clo nt) R R (body E rec nt R) from fun t R1 e hW => h ⟨hW, fun _ _ => rfl⟩ t R1 e
  cases nt
  case binMore least x =>
    simp only [body, clo]
    intro hS
    split
    · exact W.ret hS
    · rename_i hl
      have ho' : (1 : Int) ≤ least := ho
      obtain ⟨h1, h2⟩ := level_neut (s := fx (hd E R)) (by omega)
      obtain ⟨h3, h4⟩ := fx_ne h1
      refine (V.bnd H (.binary (levelI (fx (hd E R)) + 1)) (by show (1 : Int) ≤ _; omega) 0 (Int.le_refl _) rfl fun t R1 => V.call H (.binMore least _) ho rfl) (hS.go h3 (.inl (by rw [← h4]; exact h2)))
  case program =>
    simp only [body, clo]
    cases R with
    | nil => exact V.ret
    | cons a l => exact V.bnd H _ (by trivial) 0 (Int.le_refl _) rfl fun t R1 => V.bnd H _ (by trivial) 0 (Int.le_refl _) rfl fun t2 R2 => V.ret
  case optional s =>
    rcases ho with rfl | rfl
    · simp only [body, clo, show shuts [59] = false from rfl, Bool.false_eq_true, if_false]
      exact V.ifN (by decide) (by decide) V.ret (V.bnd H _ (by trivial) 0 (by decide) rfl fun _ _ => V.neut (by decide) (by decide) V.ret)
    · simp only [body, clo, show shuts [41] = true from rfl, if_true]
      exact V.ifS (by decide) (by decide) (V.up V.ret rfl) (V.bnd H _ (by trivial) 1 (by decide) rfl fun _ _ => V.shut (by decide) (by decide) (V.up V.ret rfl))
  case leave kind =>
    obtain ⟨t, l, rfl, h⟩ := ho
    simp only [body, clo]
    intro hS
    exact V.neut (by decide) (by decide) V.ret (hS.go (E := E) (List.cons_ne_nil _ _) (.inl h))
  case untl s it =>
    obtain ⟨h1, h2⟩ := ho
    simp only [body, clo]
    exact V.ifS h1 (by decide) (V.up V.ret rfl) (V.bnd H it (plain_okB h2 _) 1 (by decide) (by rw [plain_clo h2.1]; rfl) fun _ _ => V.bnd H (.untl s it) ⟨h1, h2⟩ 0 (by decide) rfl fun _ _ => V.ret)
  case list s it =>
    obtain ⟨h1, h2⟩ := ho
    simp only [body, clo]
    exact V.ifS h1 (by decide) (V.up V.ret rfl) (V.bnd H (.row it) h2 1 (by decide) rfl fun _ _ => V.shut h1 (by decide) (V.up V.ret rfl))
  case row it =>
    have h2 : plainN it = true ∧ restN it = true := ho
    simp only [body, clo]
    exact V.bnd H it (plain_okB h2 _) 0 (by decide) (by rw [plain_clo h2.1]; rfl) fun _ _ => V.bnd H (.rowMore it) h2 0 (by decide) rfl fun _ _ => V.ret
  case rowMore it =>
    have h2 : plainN it = true ∧ restN it = true := ho
    simp only [body, clo]
    exact V.ifN (by decide) (by decide) (V.bnd H it (plain_okB h2 _) 0 (by decide) (by rw [plain_clo h2.1]; rfl) fun _ _ => V.bnd H (.rowMore it) h2 0 (by decide) rfl fun _ _ => V.ret) V.ret
  all_goals
    simp only [body, clo]
    repeat' (first
      | exact V.bad
      | exact V.ret
      | exact V.up V.ret rfl
      | (refine V.neut (by decide) (by decide) ?_)
      | (refine V.opn (by decide) (by decide) ?_)
      | (refine V.shut (by decide) (by decide) ?_)
      | (refine V.nameK fun _ => ?_)
      | (refine V.keyK fun _ => ?_)
      | (refine V.propK fun _ => ?_)
      | (refine V.bnd H _ (by first | trivial | exact ho | exact Int.le_refl 1 | exact ⟨rfl, rfl, rfl⟩ | exact ⟨rfl, rfl⟩ | exact .inl rfl | exact .inr rfl | rfl) 0 (by decide) rfl fun _ _ => ?_)
      | (refine V.bnd H _ (by first | trivial | exact ho | exact Int.le_refl 1 | exact ⟨rfl, rfl, rfl⟩ | exact ⟨rfl, rfl⟩ | exact .inl rfl | exact .inr rfl | rfl) 1 (by decide) rfl fun _ _ => ?_)
      | exact V.call H _ (by first | trivial | exact ho | decide) rfl
      | (refine V.leave H (by decide) (by decide) ?_)
      | (refine V.ifN (by decide) (by decide) (by first | exact V.keyK fun _ => V.ret | exact V.ret | exact V.call H _ (by trivial) rfl | exact V.bnd H _ (by trivial) 0 (by decide) rfl fun _ _ => V.ret | exact V.nameK fun _ => V.call H _ (by trivial) rfl | exact V.ite (V.call H _ (by trivial) rfl) (V.nameK fun _ => V.call H _ (by trivial) rfl) | exact V.bnd H _ (by trivial) 0 (by decide) rfl fun _ _ => V.neut (by decide) (by decide) (V.bnd H _ (by trivial) 0 (by decide) rfl fun _ _ => V.ret) | exact V.bnd H _ (by trivial) 0 (by decide) rfl fun _ _ => V.call H _ (by trivial) rfl) ?_)
      | (refine V.ifK (by decide) (by decide) V.ret ?_)
      | (refine V.ifC (by decide) ?_ ?_)
      | (refine V.ifO (by decide) (by decide) (V.bnd H _ (by first | trivial | decide | exact ⟨rfl, rfl, rfl⟩ | exact ⟨rfl, rfl⟩) 0 (by decide) rfl fun _ _ => V.ret) ?_)
      | (refine V.ite ?_ ?_))
theorem Q_bal (E : Int) : ∀ n, BalN (Q E n)
  | 0 => fun _ _ _ _ _ e => by cases e
  | n + 1 => body_bal (Q_bal E n)
theorem D.bal {E : Int} {nt : NT} {R R' : List Tk} {t : Tr} (h : D E nt R (.ok (t, R'))) (ho : okB nt R) (hw : Wrd R) : Sb (clo nt) 0 R R' := by
  obtain ⟨n, h⟩ := h
  exact Q_bal E n nt R ho t R' (h n (Nat.le_refl _)) hw
/-- A whole source shuts what it opens. -/
theorem prog_bal {E : Int} {R : List Tk} {t : Tr} (h : D E .program R (.ok (t, []))) (hw : Wrd R) (op : Int) (ho : 0 ≤ op) : dep R op = op := by
  have := (h.bal (nt := .program) trivial hw).2 op ho
  simpa [clo, dep] using this
end Go.Proofs.YtnkfodelgpidkaaGreatDoor
