/- The pieces of a source: right texts, one token each. -/
import Derived.Test.YtcpjggcpimghjaaPl
namespace Go.Proofs.Ytcpjggcpimghjaa
set_option linter.unusedVariables false

theorem by8_ci {L : List UInt8} {a : Nat} (ha : a < L.length) : by8 L a = ci L[a] := by unfold by8 ci; simp [List.getElem?_eq_getElem ha]
/-- A place whose byte is below 128 is where a sign begins. -/
theorem chk_at (L : List UInt8) (a : Nat) (hb : by8 L a < 128) : ∀ (j k : Nat), a - k ≤ j → k ≤ a → a ≤ L.length → chk L k = none → chk L a = none
  | 0, k, hj, hk, hl, h => by rw [show a = k by omega]; exact h
  | j + 1, k, hj, hk, hl, h => by
    by_cases he : k = a
    · rw [← he]; exact h
    · have hs : ¬ signAt L k < 0 := fun hs => by rw [chk_bad (by omega) hs] at h; cases h
      rw [chk_more (by omega) hs] at h
      refine chk_at L a hb j _ (by have := stepAt_range L k; omega) ?_ hl h
      have hr := siz4_range (by8 L k) (by8 L (k + 1)) (by8 L (k + 2)) (by8 L (k + 3))
      have hf := siz4_fits (by8 L k) (by8 L (k + 1)) (by8 L (k + 2)) (by8 L (k + 3))
      rcases Nat.lt_or_ge a (k + stepAt L k) with hlt | hge
      · exfalso
        unfold stepAt sizeAt at hlt
        have hne : ∀ i, a = k + i → by8 L (k + i) < 128 := fun i hi => by rw [← hi]; exact hb
        split at hlt
        · omega
        · have h4 : siz4 (by8 L k) (by8 L (k + 1)) (by8 L (k + 2)) (by8 L (k + 3)) = 1 ∨ siz4 (by8 L k) (by8 L (k + 1)) (by8 L (k + 2)) (by8 L (k + 3)) = 2 ∨ siz4 (by8 L k) (by8 L (k + 1)) (by8 L (k + 2)) (by8 L (k + 3)) = 3 ∨ siz4 (by8 L k) (by8 L (k + 1)) (by8 L (k + 2)) (by8 L (k + 3)) = 4 := by omega
          rcases h4 with h4 | h4 | h4 | h4
          · rw [h4] at hlt; simp at hlt; omega
          · rw [h4] at hlt; simp at hlt
            have := hf.1 h4; have := hne 1 (by omega); omega
          · rw [h4] at hlt; simp at hlt
            have := hf.2.1 h4
            rcases (show a = k + 1 ∨ a = k + 2 by omega) with e | e
            · have := hne 1 e; omega
            · have := hne 2 e; omega
          · rw [h4] at hlt; simp at hlt
            have := hf.2.2 h4
            rcases (show a = k + 1 ∨ a = k + 2 ∨ a = k + 3 by omega) with e | e | e
            · have := hne 1 e; omega
            · have := hne 2 e; omega
            · have := hne 3 e; omega
      · exact hge
theorem chk_drop {L : List UInt8} {a : Nat} (hl : a ≤ L.length) (hb : by8 L a < 128) (h : chk L 0 = none) : chk (L.drop a) 0 = none := by
  have h1 := chk_at L a hb _ 0 (Nat.le_refl _) (Nat.zero_le _) hl h
  have h2 := chk_right (L.take a) (L.drop a) _ 0 (Nat.le_refl _)
  rw [List.take_append_drop, List.length_take, Nat.min_eq_left hl, Nat.add_zero, h1] at h2
  cases hx : chk (L.drop a) 0 with
  | none => rfl
  | some x => rw [hx] at h2; cases h2
theorem by8_take {L : List UInt8} {m i : Nat} (h : i < m) : by8 (L.take m) i = by8 L i := by
  unfold by8; rw [List.getD_eq_getElem?_getD, List.getD_eq_getElem?_getD, List.getElem?_take, if_pos h]
theorem siz4_own {c d e f : Int} (d' e' f' : Int) : (siz4 c d e f = 1 → siz4 c d' e' f' = 1 ∧ sgn4 c d' e' f' = sgn4 c d e f) ∧ (siz4 c d e f = 2 → siz4 c d e' f' = 2 ∧ sgn4 c d e' f' = sgn4 c d e f) ∧
    (siz4 c d e f = 3 → siz4 c d e f' = 3 ∧ sgn4 c d e f' = sgn4 c d e f) := by
  have a1 := siz4_is c d e f
  have a2 := siz4_is c d' e' f'
  have a3 := siz4_is c d e' f'
  have a4 := siz4_is c d e f'
  have b1 := sgn4_is c d e f
  have b2 := sgn4_is c d' e' f'
  have b3 := sgn4_is c d e' f'
  have b4 := sgn4_is c d e f'
  refine ⟨fun h => ?_, fun h => ?_, fun h => ?_⟩
  · have h2 := a2.1.2 (a1.1.1 h)
    exact ⟨h2, by rw [b1.1 h, b2.1 h2]⟩
  · have h2 := a3.2.1.2 (a1.2.1.1 h)
    exact ⟨h2, by rw [b1.2.1 h, b3.2.1 h2]⟩
  · have h2 := a4.2.2.1.2 (a1.2.2.1.1 h)
    exact ⟨h2, by rw [b1.2.2.1 h, b4.2.2.1 h2]⟩
theorem chk_take (L : List UInt8) (m : Nat) (hm : m ≤ L.length) (hb : by8 L m < 128) : ∀ (j k : Nat), m - k ≤ j → k ≤ m → chk L k = none → chk (L.take m) k = none
  | 0, k, hj, hk, h => chk_done (by rw [List.length_take]; omega)
  | j + 1, k, hj, hk, h => by
    by_cases he : k = m
    · exact chk_done (by rw [List.length_take]; omega)
    · have hs : ¬ signAt L k < 0 := fun hs => by rw [chk_bad (by omega) hs] at h; cases h
      have hn : chk L (k + stepAt L k) = none := by rw [chk_more (by omega) hs] at h; exact h
      have hr := siz4_range (by8 L k) (by8 L (k + 1)) (by8 L (k + 2)) (by8 L (k + 3))
      have hf := siz4_fits (by8 L k) (by8 L (k + 1)) (by8 L (k + 2)) (by8 L (k + 3))
      have hz : siz4 (by8 L k) (by8 L (k + 1)) (by8 L (k + 2)) (by8 L (k + 3)) ≠ 0 := fun hz => hs (by unfold signAt sgn4; rw [if_pos hz]; decide)
      have hne : ∀ i, m = k + i → by8 L (k + i) < 128 := fun i hi => by rw [← hi]; exact hb
      have own := siz4_own (c := by8 L k) (d := by8 L (k + 1)) (e := by8 L (k + 2)) (f := by8 L (k + 3)) (by8 (L.take m) (k + 1)) (by8 (L.take m) (k + 2)) (by8 (L.take m) (k + 3))
      have h4 : siz4 (by8 L k) (by8 L (k + 1)) (by8 L (k + 2)) (by8 L (k + 3)) = 1 ∨ siz4 (by8 L k) (by8 L (k + 1)) (by8 L (k + 2)) (by8 L (k + 3)) = 2 ∨ siz4 (by8 L k) (by8 L (k + 1)) (by8 L (k + 2)) (by8 L (k + 3)) = 3 ∨ siz4 (by8 L k) (by8 L (k + 1)) (by8 L (k + 2)) (by8 L (k + 3)) = 4 := by omega
      have key : sizeAt (L.take m) k = sizeAt L k ∧ signAt (L.take m) k = signAt L k ∧ k + stepAt L k ≤ m := by
        unfold stepAt sizeAt signAt
        rw [by8_take (show k < m by omega), if_neg hz]
        rcases h4 with h4 | h4 | h4 | h4
        · have o := own.1 h4
          exact ⟨o.1.trans h4.symm, o.2, by rw [h4]; show k + 1 ≤ m; omega⟩
        · have hd := hf.1 h4
          have k1 : ¬ m = k + 1 := fun e => by have := hne 1 e; omega
          have o := own.2.1 h4
          rw [by8_take (show k + 1 < m by omega)]
          exact ⟨o.1.trans h4.symm, o.2, by rw [h4]; show k + 2 ≤ m; omega⟩
        · have hd := hf.2.1 h4
          have k1 : ¬ m = k + 1 := fun e => by have := hne 1 e; omega
          have k2 : ¬ m = k + 2 := fun e => by have := hne 2 e; omega
          have o := own.2.2 h4
          rw [by8_take (show k + 1 < m by omega), by8_take (show k + 2 < m by omega)]
          exact ⟨o.1.trans h4.symm, o.2, by rw [h4]; show k + 3 ≤ m; omega⟩
        · have hd := hf.2.2 h4
          have k1 : ¬ m = k + 1 := fun e => by have := hne 1 e; omega
          have k2 : ¬ m = k + 2 := fun e => by have := hne 2 e; omega
          have k3 : ¬ m = k + 3 := fun e => by have := hne 3 e; omega
          rw [by8_take (show k + 1 < m by omega), by8_take (show k + 2 < m by omega), by8_take (show k + 3 < m by omega)]
          exact ⟨rfl, rfl, by rw [h4]; show k + 4 ≤ m; omega⟩
      have hst : stepAt (L.take m) k = stepAt L k := by unfold stepAt; rw [key.1]
      rw [chk_more (by rw [List.length_take]; omega) (by rw [key.2.1]; exact hs), hst]
      exact chk_take L m hm hb j _ (by have := stepAt_range L k; omega) key.2.2 hn
theorem sign_heads : ∀ P ∈ signs, ∀ c ∈ P, ci c < 128 := by decide +kernel
theorem sgn_in (R : List UInt8) : ∀ n, sgnN R n ≠ 0 → sgnB (R.take (sgnN R n)) = true
  | 0, h => absurd rfl h
  | n + 1, h => by
    rw [sgnN] at h ⊢
    by_cases hc : n + 1 ≤ R.length ∧ sgnB (R.take (n + 1)) = true
    · rw [if_pos hc]; exact hc.2
    · rw [if_neg hc] at h ⊢; exact sgn_in R n h
theorem tok_head {c : UInt8} {r : List UInt8} {t : Tk} {n : Nat} (h : tokO (c :: r) = some (t, n)) : ci c < 128 := by
  unfold tokO at h
  simp only at h
  split at h
  · rename_i hc; unfold digB at hc; simp only [decide_eq_true_eq] at hc; omega
  · split at h
    · rename_i hc; exact np_small hc
    · split at h
      · omega
      · split at h
        · cases h
        · rename_i hs
          have h1 := sgn_in (c :: r) 4 hs
          obtain ⟨k, hk⟩ : ∃ k, sgnN (c :: r) 4 = k + 1 := ⟨sgnN (c :: r) 4 - 1, by omega⟩
          rw [hk, List.take_succ_cons] at h1
          exact sign_heads _ (by unfold sgnB at h1; simpa using h1) c (by simp)
/-- A piece is one token. -/
theorem piece_one {R : List UInt8} {t : Tk} {n k : Nat} (h0 : gap R = (0, true)) (ht : tokO R = some (t, n)) (hg : gap (R.drop n) = (k, true)) : lexA (R.take (n + k)) 0 0 = .ok [{ t with pos := 0 }] := by
  match R with
  | [] => cases ht
  | c :: r =>
    have hts := tokO_size ht
    have htc := tok_cut (m := n + k) (by omega) ht
    have hgc := gap_cut _ _ _ (Nat.le_refl _) hg
    obtain ⟨i, hi⟩ : ∃ i, n + k = i + 1 := ⟨n + k - 1, by omega⟩
    have hdr : (r.take i).drop (n - 1) = ((c :: r).drop n).take k := by
      obtain ⟨n', rfl⟩ : ∃ j, n = j + 1 := ⟨n - 1, by omega⟩
      rw [List.drop_succ_cons, List.drop_take]
      rw [show i - (n' + 1 - 1) = k by omega]; rfl
    have hgp : gap (c :: r.take i) = (0, true) := by
      rw [gap] at h0 ⊢
      split at h0
      · injection h0 with h0 _; omega
      · rename_i hb
        rw [if_neg hb]
        split at h0
        · cases h0
        · rename_i hr
          have hrr : remN (c :: r.take i) = some 0 := by
            match r, i with
            | [], i => simp [remN]
            | d :: r', 0 => simp [remN]
            | d :: r', i + 1 =>
              rw [List.take_succ_cons]
              unfold remN at hr ⊢
              simp only at hr ⊢
              split at hr
              · rename_i hc
                injection hr with hr
                rw [hc.1, hc.2] at hr; simp [lineN] at hr
              · rename_i hc
                rw [if_neg hc]
                split at hr
                · cases he : endN r' with
                  | none => rw [he] at hr; cases hr
                  | some y => rw [he] at hr; simp at hr
                · rename_i hc2; rw [if_neg hc2]
          rw [hrr]
        · injection h0 with h0 _; omega
    rw [hi, List.take_succ_cons] at htc ⊢
    rw [lexA_go hgp, List.drop_zero, lexB_cons, htc]
    have hd : tooDeep t 0 = false := by unfold tooDeep; simp
    simp only [hd, Bool.false_eq_true, if_false]
    rw [hdr, lexA_go hgc]
    have hl : ((c :: r).drop n).take k = [] ∨ True := .inr trivial
    rw [List.drop_eq_nil_of_le (by rw [List.length_take]; omega), lexB]
    simp [consT]
/-- The tokens' places, and the pieces between them. -/
theorem places (L : List UInt8) : ∀ (j p : Nat) (op : Int) (l : List Tk), L.length - p ≤ j → p ≤ L.length → gap (L.drop p) = (0, true) → lexB (L.drop p) (p : Int) op = .ok l →
    (l = [] ∧ p = L.length) ∨ ∃ t l' q, l = t :: l' ∧ t.pos = (p : Int) ∧ p < q ∧ q ≤ L.length ∧ by8 L p < 128 ∧ lexA ((L.take q).drop p) 0 0 = .ok [{ t with pos := 0 }] ∧
      gap (L.drop q) = (0, true) ∧ (∃ op', lexB (L.drop q) (q : Int) op' = .ok l')
  | j, p, op, l, hj, hp, hg, h => by
    by_cases he : p = L.length
    · rw [List.drop_eq_nil_of_le (by omega), lexB] at h; injection h with h; exact .inl ⟨h.symm, he⟩
    · right
      have hlt : p < L.length := by omega
      have hd : L.drop p = L[p] :: L.drop (p + 1) := List.drop_eq_getElem_cons hlt
      rw [hd, lexB_cons] at h
      cases ht : tokO (L[p] :: L.drop (p + 1)) with
      | none => rw [ht] at h; cases h
      | some x =>
        obtain ⟨t, n⟩ := x
        rw [ht] at h
        simp only at h
        have hts := tokO_size ht
        simp only [List.length_cons, List.length_drop] at hts
        have hdn : (L.drop (p + 1)).drop (n - 1) = L.drop (p + n) := by rw [List.drop_drop]; congr 1; omega
        rw [hdn] at h
        split at h
        · cases h
        · cases hg2 : gap (L.drop (p + n)) with
          | mk k f =>
            cases f
            · rw [lexA_stop hg2] at h; cases h
            · rw [lexA_go hg2, List.drop_drop] at h
              have hk := gap_le _ (L.drop (p + n)) (Nat.le_refl _)
              rw [hg2, List.length_drop] at hk
              simp only at hk
              cases hx : lexB (L.drop (p + n + k)) ((p : Int) + n + k) (opA t op) with
              | error e => rw [hx] at h; cases h
              | ok l' =>
                rw [hx] at h
                simp only [consT, Except.ok.injEq] at h
                subst h
                refine ⟨_, l', p + n + k, rfl, rfl, by omega, by omega, ?_, ?_, ?_, ⟨opA t op, ?_⟩⟩
                · rw [by8_ci hlt]; exact tok_head ht
                · have := piece_one (R := L.drop p) hg (by rw [hd]; exact ht) (by rw [List.drop_drop]; exact hg2)
                  rw [List.drop_take, show p + n + k - p = n + k by omega]; exact this
                · have := gap_still _ _ _ (Nat.le_refl _) hg2
                  rw [List.drop_drop] at this; exact this
                · rw [show (((p + n + k : Nat)) : Int) = (p : Int) + n + k by omega]; exact hx
end Go.Proofs.Ytcpjggcpimghjaa
