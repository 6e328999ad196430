/- Two sources, a line feed between: plain lemmas. -/
import Derived.Test.YtcpjggcpimghjaaAln
namespace Go.Proofs.Ytcpjggcpimghjaa
set_option linter.unusedVariables false

theorem nm_join (R B : List UInt8) : nmL (R ++ 10 :: B) = nmL R := by
  induction R with
  | nil => rfl
  | cons c r ih => simp only [List.cons_append, nmL]; rw [ih]
theorem take_join {R : List UInt8} {n : Nat} (J : List UInt8) (h : n ≤ R.length) : (R ++ J).take n = R.take n := List.take_append_of_le_length h
theorem drop_join {R : List UInt8} {n : Nat} (J : List UInt8) (h : n ≤ R.length) : (R ++ J).drop n = R.drop n ++ J := List.drop_append_of_le_length h
theorem hex_join : ∀ (i : Nat) (R J : List UInt8) (n x : Int), hexN i R n = some x → hexN i (R ++ J) n = some x
  | 0, R, J, n, x, h => h
  | i + 1, [], J, n, x, h => by cases h
  | i + 1, c :: r, J, n, x, h => by
    rw [hexN] at h
    rw [List.cons_append, hexN]
    split at h
    · cases h
    · rename_i hc
      rw [if_neg hc]
      exact hex_join i r J _ x h
theorem esc_join {R J : List UInt8} {x : List UInt8 × Nat} (h : escT R = some x) : escT (R ++ J) = some x := by
  match R with
  | [] => cases h
  | d :: r =>
    rw [List.cons_append]
    unfold escT at h ⊢
    simp only at h ⊢
    split at h
    · rename_i c1; rw [if_pos c1]; exact h
    rename_i c1; rw [if_neg c1]; clear c1
    split at h
    · rename_i c1; rw [if_pos c1]; exact h
    rename_i c1; rw [if_neg c1]; clear c1
    split at h
    · rename_i c1; rw [if_pos c1]; exact h
    rename_i c1; rw [if_neg c1]; clear c1
    split at h
    · rename_i c1; rw [if_pos c1]; exact h
    rename_i c1; rw [if_neg c1]; clear c1
    split at h
    · rename_i c1; rw [if_pos c1]; exact h
    rename_i c1; rw [if_neg c1]; clear c1
    split at h
    · rename_i c1
      rw [if_pos c1]
      cases hx : hexN 4 r 0 with
      | none => rw [hx] at h; cases h
      | some n => rw [hex_join _ _ J _ _ hx]; rw [hx] at h; exact h
    · cases h
theorem one_join {R J : List UInt8} {x : List UInt8 × Nat} (h : oneT R = some x) : oneT (R ++ J) = some x := by
  match R with
  | [] => cases h
  | c :: r =>
    rw [List.cons_append]
    unfold oneT at h ⊢
    simp only at h ⊢
    split at h
    · rename_i hc
      rw [if_pos hc]
      cases he : escT r with
      | none => rw [he] at h; cases h
      | some y => rw [he] at h; rw [esc_join he]; exact h
    · rename_i hc
      rw [if_neg hc]; exact h
theorem line_join (R B : List UInt8) : lineN (R ++ 10 :: B) = lineN R := by
  induction R with
  | nil => simp [lineN]
  | cons c r ih => simp only [List.cons_append, lineN]; rw [ih]
theorem end_join : ∀ (R J : List UInt8) (x : Nat), endN R = some x → endN (R ++ J) = some x
  | [], J, x, h => by cases h
  | [_], J, x, h => by cases h
  | c :: d :: r, J, x, h => by
    rw [endN] at h
    rw [List.cons_append, List.cons_append, endN]
    split at h
    · rename_i hc; rw [if_pos hc]; exact h
    · rename_i hc
      rw [if_neg hc]
      cases he : endN (d :: r) with
      | none => rw [he] at h; cases h
      | some y => rw [he] at h; have := end_join (d :: r) J y he; rw [List.cons_append] at this; rw [this]; exact h
theorem rem_join {R : List UInt8} {n : Nat} (B : List UInt8) (h0 : R ≠ []) (h : remN R = some n) : remN (R ++ 10 :: B) = some n := by
  match R with
  | [c] =>
    have e : n = 0 := by cases h; rfl
    subst e
    show remN (c :: 10 :: B) = some 0
    unfold remN; simp
  | a :: b :: r =>
    have hl := line_join (a :: b :: r) B
    rw [List.cons_append, List.cons_append] at hl ⊢
    unfold remN at h ⊢
    simp only at h ⊢
    split at h
    · rename_i hc; rw [if_pos hc, hl]; exact h
    · rename_i hc
      rw [if_neg hc]
      split at h
      · rename_i hc2
        rw [if_pos hc2]
        cases he : endN r with
        | none => rw [he] at h; cases h
        | some y => rw [he] at h; rw [end_join r _ y he]; exact h
      · rename_i hc2; rw [if_neg hc2]; exact h
theorem signs_ten : ∀ P ∈ signs, ¬ (10 : UInt8) ∈ P := by decide +kernel
theorem sgn_join (R B : List UInt8) : ∀ n, sgnN (R ++ 10 :: B) n = sgnN R n
  | 0 => rfl
  | n + 1 => by
    have ih := sgn_join R B n
    rw [sgnN, sgnN, ih]
    by_cases hl : n + 1 ≤ R.length
    · rw [take_join _ hl]
      have : n + 1 ≤ (R ++ 10 :: B).length := by simp; omega
      simp only [hl, this]
    · have hno : ¬ (n + 1 ≤ (R ++ 10 :: B).length ∧ sgnB ((R ++ 10 :: B).take (n + 1)) = true) := by
        intro ⟨h1, h2⟩
        have hm : (10 : UInt8) ∈ (R ++ 10 :: B).take (n + 1) := by
          rw [List.take_append, List.mem_append]
          right
          obtain ⟨m, hm⟩ : ∃ m, n + 1 - R.length = m + 1 := ⟨n - R.length, by omega⟩
          rw [hm]; simp
        exact signs_ten _ (by unfold sgnB at h2; simpa using h2) hm
      rw [if_neg hno, if_neg (fun h => hl h.1)]
theorem txt_join (J : List UInt8) : ∀ (j : Nat) {q : UInt8} {R o : List UInt8} {m : Nat}, R.length ≤ j → txt q R = some (o, m) → txt q (R ++ J) = some (o, m)
  | j, q, [], o, m, _, h => by rw [txt] at h; cases h
  | 0, q, c :: r, o, m, hj, h => by simp at hj
  | j + 1, q, c :: r, o, m, hj, h => by
    rw [txt] at h
    rw [List.cons_append, txt]
    split at h
    · rename_i hc; rw [if_pos hc]; exact h
    · rename_i hc
      rw [if_neg hc]
      cases ho : oneT (c :: r) with
      | none => rw [ho] at h; cases h
      | some x =>
        obtain ⟨o1, n⟩ := x
        have h1 := one_join (J := J) ho
        rw [List.cons_append] at h1
        rw [ho] at h; rw [h1]
        simp only at h ⊢
        cases ht : txt q (r.drop (n - 1)) with
        | none => rw [ht] at h; cases h
        | some y =>
          obtain ⟨o2, m2⟩ := y
          have hn : n - 1 ≤ r.length := by
            have hs := txt_size _ (Nat.le_refl _) ht
            rw [List.length_drop] at hs; omega
          have h2 := txt_join J j (by rw [List.length_drop]; simp at hj; omega) ht
          rw [drop_join J hn, h2]
          rw [ht] at h; exact h
theorem tok_join {R : List UInt8} {t : Tk} {n : Nat} (B : List UInt8) (h : tokO R = some (t, n)) : tokO (R ++ 10 :: B) = some (t, n) := by
  match R with
  | [] => cases h
  | c :: r =>
    have hn := nm_join (c :: r) B
    have ht := take_join (10 :: B) (nmL_le (c :: r))
    have hs := sgn_join (c :: r) B 4
    have hst := take_join (10 :: B) (sgnN_le (c :: r) 4).2
    rw [List.cons_append] at hn ht hs hst ⊢
    unfold tokO at h ⊢
    simp only at h ⊢
    rw [hn, ht, hs, hst]
    split at h
    · rename_i hc; rw [if_pos hc]; exact h
    · rename_i hc
      rw [if_neg hc]
      split at h
      · rename_i hc2; rw [if_pos hc2]; exact h
      · rename_i hc2
        rw [if_neg hc2]
        split at h
        · rename_i hc3
          rw [if_pos hc3]
          cases hx : txt c r with
          | none => rw [hx] at h; cases h
          | some x =>
            obtain ⟨o, m⟩ := x
            rw [txt_join (10 :: B) _ (Nat.le_refl _) hx]
            rw [hx] at h; exact h
        · rename_i hc3; rw [if_neg hc3]; exact h
theorem gap_join (B : List UInt8) : ∀ (j : Nat) (R : List UInt8) (k : Nat), R.length ≤ j → gap R = (k, true) → gap (R ++ 10 :: B) = if k < R.length then (k, true) else (k + 1 + (gap B).1, (gap B).2)
  | j, [], k, _, h => by
    rw [gap] at h
    have e : k = 0 := by injection h with h _; exact h.symm
    subst e
    rw [List.nil_append, gap]
    simp [blankB]; omega
  | 0, c :: r, k, hj, h => by simp at hj
  | j + 1, c :: r, k, hj, h => by
    rw [gap] at h
    rw [List.cons_append, gap]
    split at h
    · rename_i hb
      rw [if_pos hb]
      cases hg : gap r with
      | mk k2 f =>
        rw [hg] at h
        simp only [Prod.mk.injEq] at h
        obtain ⟨rfl, rfl⟩ := h
        rw [gap_join B j r k2 (by simp at hj; omega) hg]
        by_cases hk : k2 < r.length
        · rw [if_pos hk, if_pos (by simp; omega)]
        · rw [if_neg hk, if_neg (by simp; omega)]; simp; omega
    · rename_i hb
      rw [if_neg hb]
      have hrj : ∀ n, remN (c :: r) = some n → remN (c :: (r ++ 10 :: B)) = some n := fun n hn => by
        have := rem_join B (by simp) hn; rwa [List.cons_append] at this
      split at h
      · cases h
      · rename_i hr
        rw [hrj 0 hr]
        injection h with h _
        subst h
        simp
      · rename_i n hr
        rw [hrj _ hr]
        simp only
        have hle := rem_le hr
        simp at hle
        cases hg : gap (r.drop n) with
        | mk k2 f =>
          rw [hg] at h
          simp only [Prod.mk.injEq] at h
          obtain ⟨rfl, rfl⟩ := h
          rw [drop_join _ (by omega), gap_join B j (r.drop n) k2 (by rw [List.length_drop]; simp at hj; omega) hg, List.length_drop]
          by_cases hk : k2 < r.length - n
          · rw [if_pos hk, if_pos (by simp; omega)]
          · rw [if_neg hk, if_neg (by simp; omega)]; simp; omega
end Go.Proofs.Ytcpjggcpimghjaa
