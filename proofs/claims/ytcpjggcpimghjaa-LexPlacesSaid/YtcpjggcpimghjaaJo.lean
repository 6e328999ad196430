/- Two sources, a line feed between: their tokens. -/
import Derived.Test.YtcpjggcpimghjaaJn
import Derived.Test.YtcpjggcpimghjaaUJoin
namespace Go.Proofs.Ytcpjggcpimghjaa
set_option linter.unusedVariables false

theorem lexA_go {R : List UInt8} {k : Nat} {a op : Int} (h : gap R = (k, true)) : lexA R a op = lexB (R.drop k) (a + k) op := by unfold lexA; rw [h]
theorem lexA_stop {R : List UInt8} {k : Nat} {a op : Int} (h : gap R = (k, false)) : lexA R a op = .error (a + k, 5) := by unfold lexA; rw [h]
theorem pre_consT (t : Tk) (a : Int) (l : List Tk) (x : Except (Int × Int) (List Tk)) : consT t a (pre l x) = pre ({ t with pos := a } :: l) x := by cases x <;> rfl
/-- The one's tokens, then the other's. -/
theorem lexA_join (B : List UInt8) : ∀ (j : Nat) (R : List UInt8) (a op : Int) (l : List Tk), R.length ≤ j → lexA R a op = .ok l → ∃ op', lexA (R ++ 10 :: B) a op = pre l (lexA B (a + R.length + 1) op')
  | j, R, a, op, l, hj, h => by
    cases hg : gap R with
    | mk k f =>
      cases f
      · rw [lexA_stop hg] at h; cases h
      · rw [lexA_go hg] at h
        have hk := gap_le _ R (Nat.le_refl _)
        rw [hg] at hk
        have hgj := gap_join B _ R k (Nat.le_refl _) hg
        by_cases hlt : k < R.length
        · rw [if_pos hlt] at hgj
          rw [lexA_go hgj, drop_join _ hk]
          obtain ⟨c, r, hr⟩ : ∃ c r, R.drop k = c :: r := by
            cases hd : R.drop k with
            | nil => have := congrArg List.length hd; rw [List.length_drop] at this; simp at this; omega
            | cons c r => exact ⟨c, r, rfl⟩
          have hlen : r.length + 1 + k = R.length := by
            have := congrArg List.length hr; rw [List.length_drop] at this; simp at this; omega
          rw [hr] at h ⊢
          rw [lexB_cons] at h
          rw [List.cons_append, lexB_cons]
          cases ht : tokO (c :: r) with
          | none => rw [ht] at h; cases h
          | some x =>
            obtain ⟨t, n⟩ := x
            have htj := tok_join B ht
            rw [List.cons_append] at htj
            rw [htj]
            rw [ht] at h
            simp only at h ⊢
            have hts := tokO_size ht
            simp only [List.length_cons] at hts
            cases hd : tooDeep t op
            · rw [hd] at h
              simp only [Bool.false_eq_true, if_false] at h ⊢
              cases hx : lexA (r.drop (n - 1)) (a + k + n) (opA t op) with
              | error e => rw [hx] at h; cases h
              | ok l2 =>
                rw [hx] at h
                simp only [consT, Except.ok.injEq] at h
                subst h
                match j, hj with
                | 0, hj => omega
                | j + 1, hj =>
                  obtain ⟨op', ho⟩ := lexA_join B j (r.drop (n - 1)) _ _ _ (by rw [List.length_drop]; omega) hx
                  refine ⟨op', ?_⟩
                  rw [drop_join _ (by omega), ho, pre_consT, List.length_drop]
                  rw [show a + k + n + ((r.length - (n - 1) : Nat) : Int) + 1 = a + R.length + 1 by omega]
            · rw [hd] at h; cases h
        · rw [if_neg hlt] at hgj
          have hke : k = R.length := by simp at hk; omega
          have hl : l = [] := by
            rw [hke, List.drop_length, lexB] at h; injection h with h; exact h.symm
          subst hl
          refine ⟨op, ?_⟩
          rw [pre_nil]
          cases hb : gap B with
          | mk m f =>
            rw [hb] at hgj
            have hdr : (R ++ 10 :: B).drop (k + 1 + m) = B.drop m := by
              rw [hke, show R.length + 1 + m = R.length + (m + 1) by omega, ← List.drop_drop]
              simp
            cases f
            · rw [lexA_stop hgj, lexA_stop hb]; congr 2; simp; omega
            · rw [lexA_go hgj, lexA_go hb, hdr]; congr 1; simp; omega
def shift (d : Int) (t : Tk) : Tk := { t with pos := t.pos + d }
/-- From another place, and in other brackets. -/
theorem lexB_else : ∀ (j : Nat) (R : List UInt8) (a0 op0 a op : Int) (m : List Tk), R.length ≤ j → lexB R a0 op0 = .ok m → lexB R a op = .ok (m.map (shift (a - a0))) ∨ ∃ p, lexB R a op = .error (p, 6)
  | j, [], a0, op0, a, op, m, _, h => by
    rw [lexB] at h ⊢; injection h with h; subst h; exact .inl rfl
  | 0, c :: r, a0, op0, a, op, m, hj, h => by simp at hj
  | j + 1, c :: r, a0, op0, a, op, m, hj, h => by
    rw [lexB_cons] at h ⊢
    cases ht : tokO (c :: r) with
    | none => rw [ht] at h; cases h
    | some x =>
      obtain ⟨t, n⟩ := x
      rw [ht] at h
      simp only at h ⊢
      cases hd : tooDeep t op
      · simp only [Bool.false_eq_true, if_false]
        cases hd0 : tooDeep t op0
        · rw [hd0] at h
          simp only [Bool.false_eq_true, if_false] at h
          cases hg : gap (r.drop (n - 1)) with
          | mk k f =>
            cases f
            · rw [lexA_stop hg] at h; cases h
            · rw [lexA_go hg] at h ⊢
              cases hx : lexB ((r.drop (n - 1)).drop k) (a0 + n + k) (opA t op0) with
              | error e => rw [hx] at h; cases h
              | ok l =>
                rw [hx] at h
                simp only [consT, Except.ok.injEq] at h
                subst h
                rcases lexB_else j _ _ _ (a + n + k) (opA t op) l (by rw [List.length_drop, List.length_drop]; simp at hj; omega) hx with e | ⟨p, e⟩
                · rw [e]
                  refine .inl ?_
                  simp only [consT, List.map_cons, Except.ok.injEq, List.cons.injEq]
                  refine ⟨?_, ?_⟩
                  · unfold shift; simp; omega
                  · rw [show a + n + k - (a0 + n + k) = a - a0 by omega]
                · rw [e]; exact .inr ⟨p, rfl⟩
        · rw [hd0] at h; cases h
      · simp only [if_true]; exact .inr ⟨_, rfl⟩
theorem lexA_else {R : List UInt8} {a0 op0 a op : Int} {m : List Tk} (h : lexA R a0 op0 = .ok m) : lexA R a op = .ok (m.map (shift (a - a0))) ∨ ∃ p, lexA R a op = .error (p, 6) := by
  cases hg : gap R with
  | mk k f =>
    cases f
    · rw [lexA_stop hg] at h; cases h
    · rw [lexA_go hg] at h ⊢
      rcases lexB_else _ _ _ _ (a + k) op m (Nat.le_refl _) h with e | e
      · rw [show a + k - (a0 + k) = a - a0 by omega] at e; exact .inl e
      · exact .inr e
theorem lex_parts {L : List UInt8} {l : List Tk} (h : lexL L = .ok l) : L.length ≤ 4096 ∧ chk L 0 = none ∧ lexA L 0 0 = .ok l := by
  unfold lexL at h
  split at h
  · cases h
  · split at h
    · cases h
    · rename_i hc; exact ⟨by omega, hc, h⟩
theorem lex_join {A B : List UInt8} {l m : List Tk} (ha : lexL A = .ok l) (hb : lexL B = .ok m) (hs : A.length + 1 + B.length ≤ 4096) :
    lexL (A ++ 10 :: B) = .ok (l ++ m.map (shift (A.length + 1))) ∨ ∃ p, lexL (A ++ 10 :: B) = .error (p, 6) := by
  obtain ⟨_, ca, la⟩ := lex_parts ha
  obtain ⟨_, cb, lb⟩ := lex_parts hb
  have hc : chk (A ++ 10 :: B) 0 = none := by
    rw [chk_join ca]
    have e : (10 :: B : List UInt8) = [10] ++ B := rfl
    have c10 : chk [10] 0 = none := chk_ascii _ (by intro c hc; simp at hc; subst hc; decide) _ 0 (Nat.le_refl _)
    rw [e, chk_join c10, cb]; rfl
  have e : lexL (A ++ 10 :: B) = lexA (A ++ 10 :: B) 0 0 := by
    unfold lexL; rw [if_neg (by simp; omega), hc]
  obtain ⟨op', ho⟩ := lexA_join B _ A 0 0 l (Nat.le_refl _) la
  rw [e, ho]
  rcases lexA_else (a := 0 + (A.length : Int) + 1) (op := op') lb with h | ⟨p, h⟩
  · rw [h]; refine .inl ?_
    rw [show (0 : Int) + A.length + 1 - 0 = A.length + 1 by omega]; rfl
  · rw [h]; exact .inr ⟨p, rfl⟩
end Go.Proofs.Ytcpjggcpimghjaa
