/- A piece of a source, from one token's place to the next one's: plain lemmas. -/
import Derived.Test.YtcpjggcpimghjaaJo
namespace Go.Proofs.Ytcpjggcpimghjaa
set_option linter.unusedVariables false

theorem nm_cut : ∀ (R : List UInt8) (m : Nat), nmL R ≤ m → nmL (R.take m) = nmL R
  | [], m, _ => by simp
  | c :: r, m, h => by
    rw [nmL] at h ⊢
    cases hc : npB (ci c)
    · cases m with
      | zero => rfl
      | succ m => rw [List.take_succ_cons, nmL, hc]; rfl
    · rw [hc] at h
      simp only [if_true] at h ⊢
      obtain ⟨m, rfl⟩ : ∃ j, m = j + 1 := ⟨m - 1, by omega⟩
      rw [List.take_succ_cons, nmL, hc]
      simp only [if_true]
      rw [nm_cut r m (by omega)]
theorem take_cut {R : List UInt8} {n m : Nat} (h : n ≤ m) : (R.take m).take n = R.take n := by rw [List.take_take, Nat.min_eq_left h]
theorem hex_cut : ∀ (i : Nat) (R : List UInt8) (n x : Int) (m : Nat), i ≤ m → hexN i R n = some x → hexN i (R.take m) n = some x
  | 0, R, n, x, m, _, h => h
  | i + 1, [], n, x, m, _, h => by cases h
  | i + 1, c :: r, n, x, m, hm, h => by
    obtain ⟨m, rfl⟩ : ∃ j, m = j + 1 := ⟨m - 1, by omega⟩
    rw [hexN] at h
    rw [List.take_succ_cons, hexN]
    split at h
    · cases h
    · rename_i hc
      rw [if_neg hc]
      exact hex_cut i r _ x m (by omega) h
theorem esc_cut {R : List UInt8} {o : List UInt8} {n m : Nat} (hm : n ≤ m) (h : escT R = some (o, n)) : escT (R.take m) = some (o, n) := by
  match R with
  | [] => cases h
  | d :: r =>
    have hn := escT_size h
    obtain ⟨m, rfl⟩ : ∃ j, m = j + 1 := ⟨m - 1, by omega⟩
    rw [List.take_succ_cons]
    unfold escT at h ⊢
    simp only at h ⊢
    split at h
    · rename_i c1; rw [if_pos c1]; exact h
    rename_i c1; rw [if_neg c1]; clear c1
    split at h
    · rename_i c1; rw [if_pos c1]; exact h
    rename_i c1; rw [if_neg c1]; clear c1
    split at h
    · rename_i c1; rw [if_pos c1]; exact h
    rename_i c1; rw [if_neg c1]; clear c1
    split at h
    · rename_i c1; rw [if_pos c1]; exact h
    rename_i c1; rw [if_neg c1]; clear c1
    split at h
    · rename_i c1; rw [if_pos c1]; exact h
    rename_i c1; rw [if_neg c1]; clear c1
    split at h
    · rename_i c1
      rw [if_pos c1]
      cases hx : hexN 4 r 0 with
      | none => rw [hx] at h; cases h
      | some x =>
        have h5 : n = 5 := by
          rw [hx] at h; simp only at h
          split at h
          · cases h
          · injection h with h; injection h with _ h; exact h.symm
        rw [hex_cut 4 r 0 x m (by omega) hx]; rw [hx] at h; exact h
    · cases h
theorem one_cut {R : List UInt8} {o : List UInt8} {n m : Nat} (hm : n ≤ m) (hn : 1 ≤ n) (h : oneT R = some (o, n)) : oneT (R.take m) = some (o, n) := by
  match R with
  | [] => cases h
  | c :: r =>
    obtain ⟨m, rfl⟩ : ∃ j, m = j + 1 := ⟨m - 1, by omega⟩
    rw [List.take_succ_cons]
    unfold oneT at h ⊢
    simp only at h ⊢
    split at h
    · rename_i hc
      rw [if_pos hc]
      cases he : escT r with
      | none => rw [he] at h; cases h
      | some y =>
        obtain ⟨o1, n1⟩ := y
        rw [he] at h
        have e : n1 + 1 = n := by injection h with h; injection h
        rw [esc_cut (by omega) he]; exact h
    · rename_i hc
      rw [if_neg hc]; exact h
theorem one_pos {R o : List UInt8} {n : Nat} (h : oneT R = some (o, n)) : 1 ≤ n := by
  match R with
  | [] => cases h
  | c :: r =>
    unfold oneT at h
    simp only at h
    split at h
    · cases he : escT r with
      | none => rw [he] at h; cases h
      | some y => obtain ⟨o1, n1⟩ := y; rw [he] at h; injection h with h; injection h with _ h; omega
    · split at h
      · cases h
      · injection h with h; injection h with _ h; omega
theorem txt_cut : ∀ (j : Nat) {q : UInt8} {R o : List UInt8} {n m : Nat}, R.length ≤ j → n ≤ m → txt q R = some (o, n) → txt q (R.take m) = some (o, n)
  | j, q, [], o, n, m, _, _, h => by rw [txt] at h; cases h
  | 0, q, c :: r, o, n, m, hj, _, h => by simp at hj
  | j + 1, q, c :: r, o, n, m, hj, hm, h => by
    have hts := txt_size _ (Nat.le_refl _) h
    obtain ⟨m, rfl⟩ : ∃ i, m = i + 1 := ⟨m - 1, by omega⟩
    rw [txt] at h
    rw [List.take_succ_cons, txt]
    split at h
    · rename_i hc; rw [if_pos hc]; exact h
    · rename_i hc
      rw [if_neg hc]
      cases ho : oneT (c :: r) with
      | none => rw [ho] at h; cases h
      | some x =>
        obtain ⟨o1, n1⟩ := x
        have hp := one_pos ho
        rw [ho] at h
        simp only at h
        cases ht : txt q (r.drop (n1 - 1)) with
        | none => rw [ht] at h; cases h
        | some y =>
          obtain ⟨o2, n2⟩ := y
          rw [ht] at h
          have e : n1 + n2 = n := by injection h with h; injection h
          have h1 := one_cut (m := m + 1) (by omega) hp ho
          rw [List.take_succ_cons] at h1
          rw [h1]
          simp only
          have h2 := txt_cut j (m := m - (n1 - 1)) (by rw [List.length_drop]; simp at hj; omega) (by omega) ht
          rw [List.drop_take, h2]; exact h
theorem sgn_cut (R : List UInt8) (m : Nat) : ∀ n, sgnN R n ≤ m → sgnN (R.take m) n = sgnN R n
  | 0, _ => rfl
  | n + 1, h => by
    rw [sgnN] at h ⊢
    rw [sgnN]
    by_cases hc : n + 1 ≤ R.length ∧ sgnB (R.take (n + 1)) = true
    · rw [if_pos hc] at h ⊢
      rw [if_pos]
      rw [take_cut h]
      exact ⟨by rw [List.length_take]; omega, hc.2⟩
    · rw [if_neg hc] at h ⊢
      rw [if_neg]
      · exact sgn_cut R m n h
      · intro ⟨h1, h2⟩
        rw [List.length_take] at h1
        rw [take_cut (by omega)] at h2
        exact hc ⟨by omega, h2⟩
/-- The token at the front does not hang on what stands behind it. -/
theorem tok_cut {R : List UInt8} {t : Tk} {n m : Nat} (hm : n ≤ m) (h : tokO R = some (t, n)) : tokO (R.take m) = some (t, n) := by
  match R with
  | [] => cases h
  | c :: r =>
    have hts := tokO_size h
    have hN := nm_cut (c :: r) m
    have hS := sgn_cut (c :: r) m 4
    obtain ⟨i, rfl⟩ : ∃ i, m = i + 1 := ⟨m - 1, by omega⟩
    have hT := fun j (hj : j ≤ i + 1) => take_cut (R := c :: r) hj
    rw [List.take_succ_cons] at hN hS hT ⊢
    unfold tokO at h ⊢
    simp only at h ⊢
    split at h
    · rename_i hc
      rw [if_pos hc]
      cases hx : numO ((c :: r).take (nmL (c :: r))) with
      | none => rw [hx] at h; cases h
      | some v =>
        rw [hx] at h
        have e : nmL (c :: r) = n := by injection h with h; injection h
        rw [hN (by omega), hT _ (by omega), hx]; exact h
    · rename_i hc
      rw [if_neg hc]
      split at h
      · rename_i hc2
        rw [if_pos hc2]
        have e : nmL (c :: r) = n := by injection h with h; injection h
        rw [hN (by omega), hT _ (by omega)]; exact h
      · rename_i hc2
        rw [if_neg hc2]
        split at h
        · rename_i hc3
          rw [if_pos hc3]
          cases hx : txt c r with
          | none => rw [hx] at h; cases h
          | some y =>
            obtain ⟨o, k⟩ := y
            rw [hx] at h
            have e : k + 1 = n := by injection h with h; injection h
            rw [txt_cut _ (Nat.le_refl _) (by omega) hx]; exact h
        · rename_i hc3
          rw [if_neg hc3]
          split at h
          · cases h
          · rename_i hc4
            have e : sgnN (c :: r) 4 = n := by injection h with h; injection h
            rw [hS (by omega), if_neg hc4, hT _ (by omega)]; exact h
theorem line_cut : ∀ (R : List UInt8) (m : Nat), lineN R ≤ m → lineN (R.take m) = lineN R
  | [], m, _ => by simp
  | c :: r, m, h => by
    rw [lineN] at h ⊢
    by_cases hc : c = 10
    · rw [if_pos hc]
      cases m with
      | zero => rfl
      | succ m => rw [List.take_succ_cons, lineN, if_pos hc]
    · rw [if_neg hc] at h ⊢
      obtain ⟨m, rfl⟩ : ∃ j, m = j + 1 := ⟨m - 1, by omega⟩
      rw [List.take_succ_cons, lineN, if_neg hc, line_cut r m (by omega)]
theorem end_cut : ∀ (R : List UInt8) (x m : Nat), x + 2 ≤ m → endN R = some x → endN (R.take m) = some x
  | [], x, m, _, h => by cases h
  | [_], x, m, _, h => by cases h
  | c :: d :: r, x, m, hm, h => by
    obtain ⟨m, rfl⟩ : ∃ j, m = j + 2 := ⟨m - 2, by omega⟩
    rw [endN] at h
    rw [List.take_succ_cons, List.take_succ_cons, endN]
    split at h
    · rename_i hc; rw [if_pos hc]; exact h
    · rename_i hc
      rw [if_neg hc]
      cases he : endN (d :: r) with
      | none => rw [he] at h; cases h
      | some y =>
        rw [he] at h
        simp only [Option.map_some, Option.some.injEq] at h
        have := end_cut (d :: r) y (m + 1) (by omega) he
        rw [List.take_succ_cons] at this
        rw [this]; simp [h]
theorem rem_cut {R : List UInt8} {n m : Nat} (hm : n ≤ m) (h : remN R = some n) : remN (R.take m) = some n ∨ n = 0 := by
  match R with
  | [] => exact .inr (by cases h; rfl)
  | [c] => exact .inr (by cases h; rfl)
  | a :: b :: r =>
    by_cases h0 : n = 0
    · exact .inr h0
    left
    have hl := line_cut (a :: b :: r) m
    unfold remN at h
    simp only at h
    split at h
    · rename_i hc
      injection h with h
      have h2 : 2 ≤ n := by rw [← h, hc.1, hc.2]; simp [lineN]
      obtain ⟨m, rfl⟩ : ∃ j, m = j + 2 := ⟨m - 2, by omega⟩
      rw [List.take_succ_cons, List.take_succ_cons] at hl ⊢
      unfold remN
      simp only
      rw [if_pos hc, hl (by omega), h]
    · rename_i hc
      split at h
      · rename_i hc2
        cases he : endN r with
        | none => rw [he] at h; cases h
        | some y =>
          rw [he] at h
          simp only [Option.map_some, Option.some.injEq] at h
          obtain ⟨m, rfl⟩ : ∃ j, m = j + 2 := ⟨m - 2, by omega⟩
          rw [List.take_succ_cons, List.take_succ_cons]
          unfold remN
          simp only
          rw [if_neg hc, if_pos hc2, end_cut r y m (by omega) he]
          simp [h]
      · injection h with h; exact absurd h.symm h0
/-- What stands between tokens, cut at its end. -/
theorem gap_cut : ∀ (j : Nat) (R : List UInt8) (k : Nat), R.length ≤ j → gap R = (k, true) → gap (R.take k) = (k, true)
  | j, [], k, _, h => by
    rw [gap] at h; injection h with h _; subst h; rw [List.take_nil, gap]
  | 0, c :: r, k, hj, h => by simp at hj
  | j + 1, c :: r, k, hj, h => by
    rw [gap] at h
    split at h
    · rename_i hb
      cases hg : gap r with
      | mk k2 f =>
        rw [hg] at h
        simp only [Prod.mk.injEq] at h
        obtain ⟨rfl, rfl⟩ := h
        rw [List.take_succ_cons, gap, if_pos hb, gap_cut j r k2 (by simp at hj; omega) hg]
    · rename_i hb
      split at h
      · cases h
      · injection h with h _; subst h; rw [List.take_zero, gap]
      · rename_i n hr
        have hle := rem_le hr
        simp at hle
        cases hg : gap (r.drop n) with
        | mk k2 f =>
          rw [hg] at h
          simp only [Prod.mk.injEq] at h
          obtain ⟨rfl, rfl⟩ := h
          have hrc := rem_cut (m := k2 + (n + 1)) (by omega) hr
          rcases hrc with hrc | hrc
          · rw [show k2 + (n + 1) = (k2 + n) + 1 by omega, List.take_succ_cons] at hrc ⊢
            rw [gap, if_neg hb, hrc]
            simp only
            rw [List.drop_take, show k2 + n - n = k2 by omega, gap_cut j (r.drop n) k2 (by rw [List.length_drop]; simp at hj; omega) hg]
            simp; omega
          · omega
/-- Behind what stands between tokens nothing of the kind goes on. -/
theorem gap_still : ∀ (j : Nat) (R : List UInt8) (k : Nat), R.length ≤ j → gap R = (k, true) → gap (R.drop k) = (0, true)
  | j, [], k, _, h => by rw [List.drop_nil, gap]
  | 0, c :: r, k, hj, h => by simp at hj
  | j + 1, c :: r, k, hj, h => by
    have h0 := h
    rw [gap] at h
    split at h
    · cases hg : gap r with
      | mk k2 f =>
        rw [hg] at h
        simp only [Prod.mk.injEq] at h
        obtain ⟨rfl, rfl⟩ := h
        rw [List.drop_succ_cons]; exact gap_still j r k2 (by simp at hj; omega) hg
    · split at h
      · cases h
      · injection h with h _; subst h; rw [List.drop_zero]; exact h0
      · rename_i n hr
        cases hg : gap (r.drop n) with
        | mk k2 f =>
          rw [hg] at h
          simp only [Prod.mk.injEq] at h
          obtain ⟨rfl, rfl⟩ := h
          have := gap_still j (r.drop n) k2 (by rw [List.length_drop]; simp at hj; omega) hg
          rw [List.drop_drop] at this
          rw [show k2 + (n + 1) = (n + k2) + 1 by omega, List.drop_succ_cons]; exact this
end Go.Proofs.Ytcpjggcpimghjaa
