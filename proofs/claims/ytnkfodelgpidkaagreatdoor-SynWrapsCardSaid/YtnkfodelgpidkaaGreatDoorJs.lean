/- Two sources, a line feed between: their trees. -/
import Derived.Test.YtnkfodelgpidkaaGreatDoorLz
namespace Go.Proofs.YtnkfodelgpidkaaGreatDoor
open Go.RowKit
set_option linter.unusedVariables false
set_option linter.unusedSimpArgs false

theorem dep_nil (op : Int) : dep [] op = op := rfl
theorem dep_at (t : Tk) (a : Int) (l : List Tk) (op : Int) : dep ({ t with pos := a } :: l) op = dep l (opA t op) := rfl
/-- The one's tokens, then the other's, from the brackets that are open behind the first. -/
theorem lexA_then (B : List UInt8) : ∀ (j : Nat) (R : List UInt8) (a op : Int) (l : List Tk), R.length ≤ j → lexA R a op = .ok l → lexA (R ++ 10 :: B) a op = pre l (lexA B (a + R.length + 1) (dep l op))
  | j, R, a, op, l, hj, h => by
    cases hg : gap R with
    | mk k f =>
      cases f
      · rw [lexA_stop hg] at h; cases h
      · rw [lexA_go hg] at h
        have hk := gap_le _ R (Nat.le_refl _)
        rw [hg] at hk
        have hgj := gap_join B _ R k (Nat.le_refl _) hg
        by_cases hlt : k < R.length
        · rw [if_pos hlt] at hgj
          rw [lexA_go hgj, drop_join _ hk]
          obtain ⟨c, r, hr⟩ : ∃ c r, R.drop k = c :: r := by
            cases hd : R.drop k with
            | nil => have := congrArg List.length hd; rw [List.length_drop] at this; simp at this; omega
            | cons c r => exact ⟨c, r, rfl⟩
          have hlen : r.length + 1 + k = R.length := by
            have := congrArg List.length hr; rw [List.length_drop] at this; simp at this; omega
          rw [hr] at h ⊢
          rw [lexB_cons] at h
          rw [List.cons_append, lexB_cons]
          cases ht : tokO (c :: r) with
          | none => rw [ht] at h; cases h
          | some x =>
            obtain ⟨t, n⟩ := x
            have htj := tok_join B ht
            rw [List.cons_append] at htj
            rw [htj]
            rw [ht] at h
            simp only at h ⊢
            have hts := tokO_size ht
            simp only [List.length_cons] at hts
            cases hd : tooDeep t op
            · rw [hd] at h
              simp only [Bool.false_eq_true, if_false] at h ⊢
              cases hx : lexA (r.drop (n - 1)) (a + k + n) (opA t op) with
              | error e => rw [hx] at h; cases h
              | ok l2 =>
                rw [hx] at h
                simp only [consT, Except.ok.injEq] at h
                subst h
                match j, hj with
                | 0, hj => omega
                | j + 1, hj =>
                  have ho := lexA_then B j (r.drop (n - 1)) _ _ _ (by rw [List.length_drop]; omega) hx
                  rw [drop_join _ (by omega), ho, pre_consT, List.length_drop, dep_at]
                  rw [show a + k + n + ((r.length - (n - 1) : Nat) : Int) + 1 = a + R.length + 1 by omega]
            · rw [hd] at h; cases h
        · rw [if_neg hlt] at hgj
          have hke : k = R.length := by simp at hk; omega
          have hl : l = [] := by
            rw [hke, List.drop_length, lexB] at h; injection h with h; exact h.symm
          subst hl
          rw [pre_nil, dep_nil]
          cases hb : gap B with
          | mk m f =>
            rw [hb] at hgj
            have hdr : (R ++ 10 :: B).drop (k + 1 + m) = B.drop m := by
              rw [hke, show R.length + 1 + m = R.length + (m + 1) by omega, ← List.drop_drop]
              simp
            cases f
            · rw [lexA_stop hgj, lexA_stop hb]; congr 2; simp; omega
            · rw [lexA_go hgj, lexA_go hb, hdr]; congr 1; simp; omega
/-- From another place, in as many brackets. -/
theorem lexB_same : ∀ (j : Nat) (R : List UInt8) (a0 a op : Int) (m : List Tk), R.length ≤ j → lexB R a0 op = .ok m → lexB R a op = .ok (m.map (shift (a - a0)))
  | j, [], a0, a, op, m, _, h => by
    rw [lexB] at h ⊢; injection h with h; subst h; rfl
  | 0, c :: r, a0, a, op, m, hj, h => by simp at hj
  | j + 1, c :: r, a0, a, op, m, hj, h => by
    rw [lexB_cons] at h ⊢
    cases ht : tokO (c :: r) with
    | none => rw [ht] at h; cases h
    | some x =>
      obtain ⟨t, n⟩ := x
      rw [ht] at h
      simp only at h ⊢
      cases hd : tooDeep t op
      · simp only [Bool.false_eq_true, if_false]
        rw [hd] at h
        simp only [Bool.false_eq_true, if_false] at h
        cases hg : gap (r.drop (n - 1)) with
        | mk k f =>
          cases f
          · rw [lexA_stop hg] at h; cases h
          · rw [lexA_go hg] at h ⊢
            cases hx : lexB ((r.drop (n - 1)).drop k) (a0 + n + k) (opA t op) with
            | error e => rw [hx] at h; cases h
            | ok l =>
              rw [hx] at h
              simp only [consT, Except.ok.injEq] at h
              subst h
              rw [lexB_same j _ _ (a + n + k) (opA t op) l (by rw [List.length_drop, List.length_drop]; simp at hj; omega) hx]
              simp only [consT, List.map_cons, Except.ok.injEq, List.cons.injEq]
              refine ⟨?_, ?_⟩
              · unfold shift; simp; omega
              · rw [show a + n + k - (a0 + n + k) = a - a0 by omega]
      · rw [hd] at h; cases h
theorem lexA_same {R : List UInt8} {a0 a op : Int} {m : List Tk} (h : lexA R a0 op = .ok m) : lexA R a op = .ok (m.map (shift (a - a0))) := by
  cases hg : gap R with
  | mk k f =>
    cases f
    · rw [lexA_stop hg] at h; cases h
    · rw [lexA_go hg] at h ⊢
      have := lexB_same _ _ _ (a + k) op m (Nat.le_refl _) h
      rw [show a + k - (a0 + k) = a - a0 by omega] at this; exact this
theorem words_neut : ∀ q ∈ words, brk q = false := by decide
theorem lex_wrd {L : List UInt8} {l : List Tk} (h : lexL L = .ok l) : Wrd l := by
  intro t ht hk
  rcases (lexL_parts h).2.1 t ht with ⟨h1, _⟩ | ⟨_, h2, _⟩ | ⟨h1, _⟩ | ⟨h1, _⟩ | ⟨h1, _⟩
  · omega
  · exact words_neut _ (by unfold wordB at h2; exact List.contains_iff_mem.1 h2)
  · omega
  · omega
  · omega
/-- What begins no element. -/
def noStart : List (List UInt8) := [[125], [101, 108, 115, 101], [99, 97, 116, 99, 104], [102, 105, 110, 97, 108, 108, 121]]
def starts : List (List UInt8) := [[116, 104, 105, 115], [110, 117, 108, 108], [116, 114, 117, 101], [102, 97, 108, 115, 101], [40], [91], [123], [102, 117, 110, 99, 116, 105, 111, 110], [110, 101, 119], [118, 97, 114], [59], [105, 102], [119, 104, 105, 108, 101], [100, 111], [102, 111, 114], [98, 114, 101, 97, 107], [99, 111, 110, 116, 105, 110, 117, 101], [114, 101, 116, 117, 114, 110], [116, 104, 114, 111, 119], [116, 114, 121]]
set_option maxHeartbeats 2000000 in
theorem el_none {E : Int} {a : Tk} {r : List Tk} {x : Tr} {R1 : List Tk} (s : List UInt8) (hs : s ∈ noStart) (ht : fx a = s) (h : D E .element (a :: r) (.ok (x, R1))) : False := by
  have hne : s ≠ [] := by intro e; rw [e] at hs; revert hs; decide
  have hk : a.kind = 2 ∨ a.kind = 5 := by
    unfold fx at ht; split at ht; assumption; exact absurd ht.symm hne
  have hF : ∀ q, isF E q (a :: r) = (s == q) := fun q => by show (fx a == q) = _; rw [ht]
  have k1 : ¬ (hd E (a :: r)).kind = 1 := fun e => by have e : a.kind = 1 := e; omega
  have k3 : ¬ (hd E (a :: r)).kind = 3 := fun e => by have e : a.kind = 3 := e; omega
  have k4 : ¬ (hd E (a :: r)).kind = 4 := fun e => by have e : a.kind = 4 := e; omega
  have ifn : ∀ (q : List UInt8) (x y : Rs), isF E q (a :: r) = false → W y (fun _ _ => False) → W (if isF E q (a :: r) = true then x else y) (fun _ _ => False) := fun q x y h1 h2 => by rw [h1]; exact h2
  have sub : ∀ (nt : NT) (k : Tr → List Tk → Rs) (n : Nat), (∀ n, W (Q E n nt (a :: r)) fun _ _ => False) → W (Go.Proofs.YtnkfodelgpidkaaGreatDoor.bnd (Q E n nt (a :: r)) k) fun _ _ => False := fun nt k n h => W.bnd fun t R1 e => (h n t R1 e).elim
  have all0 : ∀ s ∈ noStart, ∀ q ∈ starts, (s == q) = false := by decide
  have all := all0 s hs
  have np : prefixes.contains s = false ∧ steps.contains s = false := by
    have : ∀ q ∈ noStart, prefixes.contains q = false ∧ steps.contains q = false := by decide
    exact this s hs
  have no : ∀ q ∈ starts, isF E q (a :: r) = false := fun q hq => by rw [hF]; exact all q hq
  have z1 : ∀ n, W (Q E n .fixedPrimary (a :: r)) fun _ _ => False := by
    intro n
    cases n with
    | zero => exact fun _ _ e => by cases e
    | succ n =>
      simp only [Q, body]
      iterate 8 refine ifn _ _ _ (no _ (by decide)) ?_
      exact W.bad
  have z2 : ∀ n, W (Q E n .primary (a :: r)) fun _ _ => False := by
    intro n
    cases n with
    | zero => exact fun _ _ e => by cases e
    | succ n => simp only [Q, body, if_neg k1, if_neg k3, if_neg k4]; exact z1 n
  have z3 : ∀ n, W (Q E n .primaryOrNew (a :: r)) fun _ _ => False := by
    intro n
    cases n with
    | zero => exact fun _ _ e => by cases e
    | succ n => simp only [Q, body]; exact ifn _ _ _ (no _ (by decide)) (z2 n)
  have z4 : ∀ n, W (Q E n .member (a :: r)) fun _ _ => False := by
    intro n
    cases n with
    | zero => exact fun _ _ e => by cases e
    | succ n => simp only [Q, body]; exact sub _ _ n z3
  have z5 : ∀ n, W (Q E n .postfx (a :: r)) fun _ _ => False := by
    intro n
    cases n with
    | zero => exact fun _ _ e => by cases e
    | succ n => simp only [Q, body]; exact sub _ _ n z4
  have z6 : ∀ n, W (Q E n .unary (a :: r)) fun _ _ => False := by
    intro n
    cases n with
    | zero => exact fun _ _ e => by cases e
    | succ n =>
      simp only [Q, body]
      rw [if_neg (by rw [show fx (hd E (a :: r)) = s from ht, np.1]; decide), if_neg (by rw [show fx (hd E (a :: r)) = s from ht, np.2]; decide)]
      exact z5 n
  have z7 : ∀ l n, W (Q E n (.binary l) (a :: r)) fun _ _ => False := by
    intro l n
    cases n with
    | zero => exact fun _ _ e => by cases e
    | succ n => simp only [Q, body]; exact sub _ _ n z6
  have z8 : ∀ n, W (Q E n .cond (a :: r)) fun _ _ => False := by
    intro n
    cases n with
    | zero => exact fun _ _ e => by cases e
    | succ n => simp only [Q, body]; exact sub _ _ n (z7 1)
  have z9 : ∀ n, W (Q E n .assign (a :: r)) fun _ _ => False := by
    intro n
    cases n with
    | zero => exact fun _ _ e => by cases e
    | succ n => simp only [Q, body]; exact sub _ _ n z8
  have z10 : ∀ n, W (Q E n .expr (a :: r)) fun _ _ => False := by
    intro n
    cases n with
    | zero => exact fun _ _ e => by cases e
    | succ n => simp only [Q, body]; exact sub _ _ n z9
  have z11 : ∀ n, W (Q E n .statement (a :: r)) fun _ _ => False := by
    intro n
    cases n with
    | zero => exact fun _ _ e => by cases e
    | succ n =>
      simp only [Q, body]
      iterate 13 refine ifn _ _ _ (no _ (by decide)) ?_
      exact sub _ _ n z10
  obtain ⟨n, h⟩ := h
  have h := h (n + 1) (by omega)
  simp only [Q, body] at h
  exact ifn _ _ _ (no _ (by decide)) (z11 n) _ _ h
theorem fx_some {a : Tk} {s : List UInt8} (h : (fx a == s) = true) : fx a = s := by rwa [beq_iff_eq] at h
/-- A program is calm behind another. -/
theorem prog_calm {E : Int} {R : List Tk} {t : Tr} (h : D E .program R (.ok (t, []))) : Calm E R := by
  obtain ⟨n, h⟩ := h
  rcases prog_split (h n (Nat.le_refl _)) with ⟨rfl, _⟩ | ⟨x, R1, l, hne, h1, _⟩
  · exact ⟨rfl, rfl, rfl⟩
  · cases R with
    | nil => exact absurd rfl hne
    | cons a r =>
      have no : ∀ s ∈ noStart, isF E s (a :: r) = false := fun s hs => by
        cases hb : isF E s (a :: r) with
        | false => rfl
        | true => exact (el_none (E := E) s hs (fx_some hb) h1).elim
      exact ⟨no _ (by decide), no _ (by decide), no _ (by decide)⟩
theorem st_shift (d : Int) (l : List Tk) : st l = st (l.map (shift d)) := by unfold st; rw [List.map_map]; rfl
theorem htTs_append : ∀ a b : List Tr, htTs (a ++ b) = max (htTs a) (htTs b)
  | [], b => by simp [htTs]
  | t :: a, b => by rw [List.cons_append, htTs, htTs, htTs_append a b]; omega
theorem out_ok {L : List UInt8} {t : Tr} (h : Out L (.ok t)) : ∃ l u, lexL L = .ok l ∧ D L.length .program l (.ok (u, [])) ∧ t = nd 1 [] u.kids ∧ htT t ≤ 60 := by
  unfold Out at h
  cases hx : lexL L with
  | error x => rw [hx] at h; cases h
  | ok l =>
    rw [hx] at h
    obtain ⟨q, hd, h⟩ := h
    rcases q with p | ⟨u, R⟩
    · cases h
    · obtain ⟨rfl, h⟩ := h
      split at h
      · cases h
      · injection h with h
        exact ⟨l, u, rfl, hd, h, by subst h; omega⟩
theorem out_mk {L : List UInt8} {l : List Tk} {u : Tr} (hx : lexL L = .ok l) (hd : D L.length .program l (.ok (u, []))) (hh : htT (nd 1 [] u.kids) ≤ 60) : Out L (.ok (nd 1 [] u.kids)) := by
  unfold Out; rw [hx]
  exact ⟨_, hd, rfl, by rw [if_neg (by omega)]⟩
/-- The tree of two sources, a line feed between. -/
theorem out_join {A B : List UInt8} {t u : Tr} (ha : Out A (.ok t)) (hb : Out B (.ok u)) (hs : A.length + 1 + B.length ≤ 4096) : Out (A ++ 10 :: B) (.ok (nd 1 [] (t.kids ++ u.kids))) := by
  obtain ⟨la, ta, xa, da, rfl, ha⟩ := out_ok ha
  obtain ⟨lb, tb, xb, db, rfl, hb⟩ := out_ok hb
  obtain ⟨_, ca, aa⟩ := lex_parts xa
  obtain ⟨_, cb, ab⟩ := lex_parts xb
  have hc : chk (A ++ 10 :: B) 0 = none := by
    rw [chk_join ca]
    have e : (10 :: B : List UInt8) = [10] ++ B := rfl
    have c10 : chk [10] 0 = none := chk_ascii _ (by intro c hc; simp at hc; subst hc; decide) _ 0 (Nat.le_refl _)
    rw [e, chk_join c10, cb]; rfl
  have e : lexL (A ++ 10 :: B) = lexA (A ++ 10 :: B) 0 0 := by
    unfold lexL; rw [if_neg (by simp; omega), hc]
  rw [lexA_then B _ A 0 0 la (Nat.le_refl _) aa, prog_bal da (lex_wrd xa) 0 (Int.le_refl _), lexA_same (a := 0 + (A.length : Int) + 1) ab] at e
  obtain ⟨R1, h1, h2⟩ := D.elsewhere (E' := ((A ++ 10 :: B).length : Int)) (st_shift (0 + (A.length : Int) + 1 - 0) lb) db
  have hR1 : R1 = [] := by
    cases R1 with
    | nil => rfl
    | cons a r => unfold st at h1; simp at h1
  subst hR1
  obtain ⟨n, hn⟩ := da
  have hj := prog_join (prog_calm h2) n (hn n (Nat.le_refl _)) h2
  exact out_mk (u := bag (ta.kids ++ tb.kids)) e hj (by
    simp only [htT, Tr.kids] at ha hb ⊢
    rw [htTs_append]; omega)
end Go.Proofs.YtnkfodelgpidkaaGreatDoor
