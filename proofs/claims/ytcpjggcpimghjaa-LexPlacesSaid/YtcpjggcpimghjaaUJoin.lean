/- Texts one behind the other, steps and columns: plain lemmas. -/
import Derived.Test.YtcpjggcpimghjaaUScan
namespace Go.Proofs.Ytcpjggcpimghjaa
open Go.RowKit
set_option linter.unusedVariables false

theorem by8_left {A : List UInt8} (B : List UInt8) {k : Nat} (h : k < A.length) : by8 (A ++ B) k = by8 A k := by
  unfold by8; rw [List.getD_eq_getElem?_getD, List.getD_eq_getElem?_getD, List.getElem?_append_left h]
theorem by8_right (A B : List UInt8) (k : Nat) : by8 (A ++ B) (A.length + k) = by8 B k := by
  unfold by8; rw [List.getD_eq_getElem?_getD, List.getD_eq_getElem?_getD, List.getElem?_append_right (by omega), Nat.add_sub_cancel_left]
theorem siz4_is (c d e f : Int) : (siz4 c d e f = 1 ↔ c < 128) ∧ (siz4 c d e f = 2 ↔ 192 ≤ c ∧ c < 224 ∧ 128 ≤ d ∧ d < 192 ∧ 128 ≤ n2 c d) ∧
    (siz4 c d e f = 3 ↔ 224 ≤ c ∧ c < 240 ∧ 128 ≤ d ∧ d < 192 ∧ 128 ≤ e ∧ e < 192 ∧ 2048 ≤ n3 c d e ∧ ¬ (55296 ≤ n3 c d e ∧ n3 c d e ≤ 57343)) ∧
    (siz4 c d e f = 4 ↔ 240 ≤ c ∧ c < 248 ∧ 128 ≤ d ∧ d < 192 ∧ 128 ≤ e ∧ e < 192 ∧ 128 ≤ f ∧ f < 192 ∧ 65536 ≤ n4 c d e f ∧ n4 c d e f ≤ 1114111) := by
  unfold siz4; (repeat' split) <;> omega
theorem sgn4_is (c d e f : Int) : (siz4 c d e f = 1 → sgn4 c d e f = c) ∧ (siz4 c d e f = 2 → sgn4 c d e f = n2 c d) ∧ (siz4 c d e f = 3 → sgn4 c d e f = n3 c d e) ∧ (siz4 c d e f = 4 → sgn4 c d e f = n4 c d e f) := by
  unfold sgn4
  refine ⟨?_, ?_, ?_, ?_⟩ <;> (intro h; rw [h]; rfl)
/-- What stands whole in the one text stands so in both. -/
theorem at_left {A : List UInt8} (B : List UInt8) {k : Nat} (hk : k < A.length) (h : sizeAt A k ≠ 0) : sizeAt (A ++ B) k = sizeAt A k ∧ signAt (A ++ B) k = signAt A k := by
  have hs := step_in hk
  have hr : 0 ≤ sizeAt A k ∧ sizeAt A k ≤ 4 := siz4_range _ _ _ _
  have hj : stepAt A k = (sizeAt A k).toNat := by unfold stepAt; rw [if_neg h]
  rw [hj] at hs
  have e0 := by8_left B hk
  rcases (by omega : sizeAt A k = 1 ∨ sizeAt A k = 2 ∨ sizeAt A k = 3 ∨ sizeAt A k = 4) with h1 | h1 | h1 | h1
  · have hz := (siz4_is (by8 A k) (by8 A (k + 1)) (by8 A (k + 2)) (by8 A (k + 3))).1.1 h1
    have hz2 : sizeAt (A ++ B) k = 1 := (siz4_is _ _ _ _).1.2 (by rw [e0]; exact hz)
    refine ⟨hz2.trans h1.symm, ?_⟩
    exact ((sgn4_is _ _ _ _).1 hz2).trans (e0.trans ((sgn4_is _ _ _ _).1 h1).symm)
  · have e1 := by8_left B (show k + 1 < A.length by omega)
    have hz := (siz4_is (by8 A k) (by8 A (k + 1)) (by8 A (k + 2)) (by8 A (k + 3))).2.1.1 h1
    have hz2 : sizeAt (A ++ B) k = 2 := (siz4_is _ _ _ _).2.1.2 (by rw [e0, e1]; exact hz)
    refine ⟨hz2.trans h1.symm, ?_⟩
    exact ((sgn4_is _ _ _ _).2.1 hz2).trans ((by rw [e0, e1] : n2 _ _ = n2 _ _).trans ((sgn4_is _ _ _ _).2.1 h1).symm)
  · have e1 := by8_left B (show k + 1 < A.length by omega)
    have e2 := by8_left B (show k + 2 < A.length by omega)
    have hz := (siz4_is (by8 A k) (by8 A (k + 1)) (by8 A (k + 2)) (by8 A (k + 3))).2.2.1.1 h1
    have hz2 : sizeAt (A ++ B) k = 3 := (siz4_is _ _ _ _).2.2.1.2 (by rw [e0, e1, e2]; exact hz)
    refine ⟨hz2.trans h1.symm, ?_⟩
    exact ((sgn4_is _ _ _ _).2.2.1 hz2).trans ((by rw [e0, e1, e2] : n3 _ _ _ = n3 _ _ _).trans ((sgn4_is _ _ _ _).2.2.1 h1).symm)
  · have e1 := by8_left B (show k + 1 < A.length by omega)
    have e2 := by8_left B (show k + 2 < A.length by omega)
    have e3 := by8_left B (show k + 3 < A.length by omega)
    have hz := (siz4_is (by8 A k) (by8 A (k + 1)) (by8 A (k + 2)) (by8 A (k + 3))).2.2.2.1 h1
    have hz2 : sizeAt (A ++ B) k = 4 := (siz4_is _ _ _ _).2.2.2.2 (by rw [e0, e1, e2, e3]; exact hz)
    refine ⟨hz2.trans h1.symm, ?_⟩
    exact ((sgn4_is _ _ _ _).2.2.2 hz2).trans ((by rw [e0, e1, e2, e3] : n4 _ _ _ _ = n4 _ _ _ _).trans ((sgn4_is _ _ _ _).2.2.2 h1).symm)
theorem at_right (A B : List UInt8) (k : Nat) : sizeAt (A ++ B) (A.length + k) = sizeAt B k ∧ signAt (A ++ B) (A.length + k) = signAt B k ∧ stepAt (A ++ B) (A.length + k) = stepAt B k := by
  have e : sizeAt (A ++ B) (A.length + k) = sizeAt B k := by unfold sizeAt; rw [by8_right, Nat.add_assoc, by8_right, Nat.add_assoc, by8_right, Nat.add_assoc, by8_right]
  refine ⟨e, ?_, ?_⟩
  · unfold signAt; rw [by8_right, Nat.add_assoc, by8_right, Nat.add_assoc, by8_right, Nat.add_assoc, by8_right]
  · unfold stepAt; rw [e]
theorem step_left {A : List UInt8} (B : List UInt8) {k : Nat} (hk : k < A.length) (h : sizeAt A k ≠ 0) : stepAt (A ++ B) k = stepAt A k := by
  unfold stepAt; rw [(at_left B hk h).1]

theorem chk_right (A B : List UInt8) : ∀ (n k : Nat), B.length - k ≤ n → chk (A ++ B) (A.length + k) = (chk B k).map (A.length + ·)
  | 0, k, h => by rw [chk_done (by rw [List.length_append]; omega), chk_done (by omega)]; rfl
  | n + 1, k, h => by
    by_cases hk : k < B.length
    · obtain ⟨e1, e2, e3⟩ := at_right A B k
      have hs := stepAt_range B k
      by_cases hb : signAt B k < 0
      · rw [chk_bad (by rw [List.length_append]; omega) (by rw [e2]; exact hb), chk_bad hk hb]; rfl
      · rw [chk_more (by rw [List.length_append]; omega) (by rw [e2]; exact hb), chk_more hk hb, e3, Nat.add_assoc]
        exact chk_right A B n _ (by omega)
    · rw [chk_done (by rw [List.length_append]; omega), chk_done (by omega)]; rfl
theorem chk_left (A B : List UInt8) : ∀ (n k : Nat), A.length - k ≤ n → k ≤ A.length → chk A k = none → chk (A ++ B) k = chk (A ++ B) A.length
  | 0, k, h, hk, _ => by rw [show k = A.length by omega]
  | n + 1, k, h, hk, hc => by
    by_cases hlt : k < A.length
    · have hb : ¬ signAt A k < 0 := by
        intro hb; rw [chk_bad hlt hb] at hc; cases hc
      have hz : sizeAt A k ≠ 0 := fun h => hb ((sign_range A k).2.2.1.2 h)
      have hs := stepAt_range A k
      have hi := step_in hlt
      rw [chk_more hlt hb] at hc
      rw [chk_more (by rw [List.length_append]; omega) (by rw [(at_left B hlt hz).2]; exact hb), step_left B hlt hz]
      exact chk_left A B n _ (by omega) hi hc
    · rw [show k = A.length by omega]
theorem chk_join {A B : List UInt8} (h : chk A 0 = none) : chk (A ++ B) 0 = (chk B 0).map (A.length + ·) := by
  rw [chk_left A B _ 0 (Nat.le_refl _) (Nat.zero_le _) h]
  exact chk_right A B _ 0 (Nat.le_refl _)
theorem stp_right (A B : List UInt8) : ∀ (n k : Nat), B.length - k ≤ n → stp (A ++ B) (A.length + k) (A ++ B).length = stp B k B.length
  | 0, k, h => by rw [stp_done (by rw [List.length_append]; omega), stp_done (by omega)]
  | n + 1, k, h => by
    by_cases hk : k < B.length
    · obtain ⟨e1, e2, e3⟩ := at_right A B k
      have hs := stepAt_range B k
      rw [stp_more (by rw [List.length_append]; omega), stp_more hk, e3, Nat.add_assoc]
      rw [stp_right A B n _ (by omega)]
    · rw [stp_done (by rw [List.length_append]; omega), stp_done (by omega)]
theorem stp_left (A B : List UInt8) : ∀ (n k : Nat), A.length - k ≤ n → k ≤ A.length → chk A k = none → stp (A ++ B) k (A ++ B).length = stp A k A.length + stp (A ++ B) A.length (A ++ B).length
  | 0, k, h, hk, _ => by rw [show k = A.length by omega, stp_done (L := A) (Nat.le_refl _), Nat.zero_add]
  | n + 1, k, h, hk, hc => by
    by_cases hlt : k < A.length
    · have hb : ¬ signAt A k < 0 := by
        intro hb; rw [chk_bad hlt hb] at hc; cases hc
      have hz : sizeAt A k ≠ 0 := fun h => hb ((sign_range A k).2.2.1.2 h)
      have hs := stepAt_range A k
      have hi := step_in hlt
      rw [chk_more hlt hb] at hc
      rw [stp_more (by rw [List.length_append]; omega), stp_more hlt, step_left B hlt hz, stp_left A B n _ (by omega) hi hc]
      omega
    · rw [show k = A.length by omega, stp_done (L := A) (Nat.le_refl _), Nat.zero_add]
theorem stp_join {A B : List UInt8} (h : chk A 0 = none) : stp (A ++ B) 0 (A ++ B).length = stp A 0 A.length + stp B 0 B.length := by
  rw [stp_left A B _ 0 (Nat.le_refl _) (Nat.zero_le _) h]
  rw [show stp (A ++ B) A.length (A ++ B).length = stp B 0 B.length from stp_right A B _ 0 (Nat.le_refl _)]

theorem chkE_zero {L : List UInt8} : chkE L = 0 ↔ chk L 0 = none := by
  unfold chkE
  cases chk L 0 with
  | none => simp
  | some k => simp
theorem chkE_join {A B : List UInt8} (h : chkE A = 0) : chkE (A ++ B) = chkE B := by
  unfold chkE
  rw [chk_join (chkE_zero.1 h)]
  cases chk B 0 <;> rfl
theorem chkA_zero {L : List UInt8} (h : chkE L = 0) : chkA L = 0 := by
  unfold chkA; rw [chkE_zero.1 h]
theorem chkE_range (L : List UInt8) : chkE L = 0 ∨ chkE L = 4 := by
  unfold chkE; cases chk L 0
  · left; rfl
  · right; rfl

/- What is put is told. -/
theorem put_told (A : List UInt8) {x : Int} (hx : sizeI x ≠ 0) : sizeAt (A ++ putL x) A.length = sizeI x ∧ signAt (A ++ putL x) A.length = x ∧ stepAt (A ++ putL x) A.length = (putL x).length := by
  have hr := sizeI_range x
  have hl := putL_length x
  have hs := @size_is x
  have key : sizeAt (putL x) 0 = sizeI x ∧ signAt (putL x) 0 = x := by
    rcases (by omega : sizeI x = 1 ∨ sizeI x = 2 ∨ sizeI x = 3 ∨ sizeI x = 4) with h | h | h | h
    · have hb := hs.1 h
      rw [put_one h, h]
      have e0 : by8 [b8 x] 0 = x := b8_nat (by omega) (by omega)
      unfold signAt
      have hz : sizeAt [b8 x] 0 = 1 := (siz4_is _ _ _ _).1.2 (by rw [e0]; omega)
      exact ⟨hz, ((sgn4_is _ _ _ _).1 hz).trans e0⟩
    · have hb := hs.2.1 h
      rw [put_two h, h]
      have e0 : by8 [b8 (192 + x / 64), b8 (128 + x % 64)] 0 = 192 + x / 64 := b8_nat (by omega) (by omega)
      have e1 : by8 [b8 (192 + x / 64), b8 (128 + x % 64)] (0 + 1) = 128 + x % 64 := b8_nat (by omega) (by omega)
      have ev : n2 (192 + x / 64) (128 + x % 64) = x := by unfold n2; omega
      unfold signAt
      have hz : sizeAt [b8 (192 + x / 64), b8 (128 + x % 64)] 0 = 2 := (siz4_is _ _ _ _).2.1.2 (by rw [e0, e1, ev]; omega)
      exact ⟨hz, ((sgn4_is _ _ _ _).2.1 hz).trans (by rw [e0, e1, ev])⟩
    · have hb := hs.2.2.1 h
      rw [put_three h, h]
      have e0 : by8 [b8 (224 + x / 4096), b8 (128 + x / 64 % 64), b8 (128 + x % 64)] 0 = 224 + x / 4096 := b8_nat (by omega) (by omega)
      have e1 : by8 [b8 (224 + x / 4096), b8 (128 + x / 64 % 64), b8 (128 + x % 64)] (0 + 1) = 128 + x / 64 % 64 := b8_nat (by omega) (by omega)
      have e2 : by8 [b8 (224 + x / 4096), b8 (128 + x / 64 % 64), b8 (128 + x % 64)] (0 + 2) = 128 + x % 64 := b8_nat (by omega) (by omega)
      have ev : n3 (224 + x / 4096) (128 + x / 64 % 64) (128 + x % 64) = x := by unfold n3; omega
      unfold signAt
      have hz : sizeAt [b8 (224 + x / 4096), b8 (128 + x / 64 % 64), b8 (128 + x % 64)] 0 = 3 := (siz4_is _ _ _ _).2.2.1.2 (by rw [e0, e1, e2, ev]; omega)
      exact ⟨hz, ((sgn4_is _ _ _ _).2.2.1 hz).trans (by rw [e0, e1, e2, ev])⟩
    · have hb := hs.2.2.2 h
      rw [put_four h, h]
      have e0 : by8 [b8 (240 + x / 262144), b8 (128 + x / 4096 % 64), b8 (128 + x / 64 % 64), b8 (128 + x % 64)] 0 = 240 + x / 262144 := b8_nat (by omega) (by omega)
      have e1 : by8 [b8 (240 + x / 262144), b8 (128 + x / 4096 % 64), b8 (128 + x / 64 % 64), b8 (128 + x % 64)] (0 + 1) = 128 + x / 4096 % 64 := b8_nat (by omega) (by omega)
      have e2 : by8 [b8 (240 + x / 262144), b8 (128 + x / 4096 % 64), b8 (128 + x / 64 % 64), b8 (128 + x % 64)] (0 + 2) = 128 + x / 64 % 64 := b8_nat (by omega) (by omega)
      have e3 : by8 [b8 (240 + x / 262144), b8 (128 + x / 4096 % 64), b8 (128 + x / 64 % 64), b8 (128 + x % 64)] (0 + 3) = 128 + x % 64 := b8_nat (by omega) (by omega)
      have ev : n4 (240 + x / 262144) (128 + x / 4096 % 64) (128 + x / 64 % 64) (128 + x % 64) = x := by unfold n4; omega
      unfold signAt
      have hz : sizeAt [b8 (240 + x / 262144), b8 (128 + x / 4096 % 64), b8 (128 + x / 64 % 64), b8 (128 + x % 64)] 0 = 4 := (siz4_is _ _ _ _).2.2.2.2 (by rw [e0, e1, e2, e3, ev]; omega)
      exact ⟨hz, ((sgn4_is _ _ _ _).2.2.2 hz).trans (by rw [e0, e1, e2, e3, ev])⟩
  obtain ⟨e1, e2, e3⟩ := at_right A (putL x) 0
  rw [Nat.add_zero] at e1 e2 e3
  refine ⟨e1.trans key.1, e2.trans key.2, ?_⟩
  rw [e3]; unfold stepAt; rw [if_neg (by omega), key.1]; omega
theorem put_right {x : Int} (hx : sizeI x ≠ 0) : chk (putL x) 0 = none ∧ stp (putL x) 0 (putL x).length = 1 := by
  obtain ⟨h1, h2, h3⟩ := put_told [] hx
  simp only [List.nil_append, List.length_nil] at h1 h2 h3
  have hl := putL_length x
  have hr := sizeI_range x
  have hpos : 0 < (putL x).length := by omega
  have hb : ¬ signAt (putL x) 0 < 0 := fun h => by
    have := (sign_range (putL x) 0).2.2.1.1 h
    omega
  constructor
  · rw [chk_more hpos hb, h3, chk_done (by omega)]
  · rw [stp_more hpos, h3, stp_done (by omega)]
/-- A right text with one sign more is right, and has one more. -/
theorem more_right {T : List UInt8} {x : Int} (hT : chk T 0 = none) (hx : sizeI x ≠ 0) : chk (T ++ putL x) 0 = none ∧ stp (T ++ putL x) 0 (T ++ putL x).length = stp T 0 T.length + 1 := by
  obtain ⟨h1, h2⟩ := put_right hx
  exact ⟨by rw [chk_join hT, h1]; rfl, by rw [stp_join hT, h2]⟩

/- Columns. -/
def adv (L : List UInt8) : Nat → Nat → Nat
  | 0, a => a
  | n + 1, a => adv L n (a + stepAt L a)
theorem adv_le (L : List UInt8) : ∀ n a, a ≤ adv L n a
  | 0, a => Nat.le_refl _
  | n + 1, a => by have := adv_le L n (a + stepAt L a); unfold adv; omega
theorem adv_next (L : List UInt8) (k : Nat) : ∀ (j b : Nat), k - b ≤ j → b ≤ k → adv L (stp L b k) b = k →
    stp L b (k + stepAt L k) = stp L b k + 1 ∧ adv L (stp L b (k + stepAt L k)) b = k + stepAt L k
  | j, b, hj, hb, h => by
    have hs := stepAt_range L k
    by_cases e : b = k
    · subst e
      rw [stp_more (by omega), stp_done (a := b + stepAt L b) (Nat.le_refl _), stp_done (a := b) (Nat.le_refl _)]
      exact ⟨rfl, rfl⟩
    · match j, hj with
      | 0, hj => exact absurd hj (by omega)
      | j + 1, hj =>
        have hsb := stepAt_range L b
        rw [stp_more (a := b) (to := k) (by omega)] at h
        have h2 : adv L (stp L (b + stepAt L b) k) (b + stepAt L b) = k := h
        have hle := adv_le L (stp L (b + stepAt L b) k) (b + stepAt L b)
        obtain ⟨i1, i2⟩ := adv_next L k j (b + stepAt L b) (by omega) (by omega) h2
        rw [stp_more (a := b) (to := k) (by omega), stp_more (a := b) (to := k + stepAt L k) (by omega), i1]
        rw [i1] at i2
        exact ⟨rfl, i2⟩
/-- Within a sign no line feed stands. -/
theorem no_feed {L : List UInt8} {k t : Nat} (h1 : k < t) (h2 : t < k + stepAt L k) : by8 L t ≠ 10 := by
  have hs := stepAt_range L k
  have hz : sizeAt L k ≠ 0 := by
    intro h; unfold stepAt at h2; rw [if_pos h] at h2; omega
  have hj : (stepAt L k : Int) = sizeAt L k := by
    have hr : 0 ≤ sizeAt L k := (siz4_range _ _ _ _).1
    unfold stepAt; rw [if_neg hz]; omega
  obtain ⟨i1, i2, i3, i4⟩ := siz4_is (by8 L k) (by8 L (k + 1)) (by8 L (k + 2)) (by8 L (k + 3))
  unfold sizeAt at hj
  rcases (by omega : stepAt L k = 1 ∨ stepAt L k = 2 ∨ stepAt L k = 3 ∨ stepAt L k = 4) with h | h | h | h
  · omega
  · obtain rfl : t = k + 1 := by omega
    have := i2.1 (by omega); omega
  · have := i3.1 (by omega)
    rcases (by omega : t = k + 1 ∨ t = k + 2) with rfl | rfl <;> omega
  · have := i4.1 (by omega)
    rcases (by omega : t = k + 1 ∨ t = k + 2 ∨ t = k + 3) with rfl | rfl | rfl <;> omega
theorem feeds_same (L : List UInt8) (k : Nat) : ∀ n, k + 1 + n ≤ k + stepAt L k → lfs L (k + 1 + n) = lfs L (k + 1) ∧ begI L (k + 1 + n) = begI L (k + 1)
  | 0, _ => ⟨rfl, rfl⟩
  | n + 1, h => by
    obtain ⟨i1, i2⟩ := feeds_same L k n (by omega)
    have hne : by8 L (k + 1 + n) ≠ 10 := no_feed (k := k) (by omega) (by omega)
    refine ⟨?_, ?_⟩
    · show (if by8 L (k + 1 + n) = 10 then lfs L (k + 1 + n) + 1 else lfs L (k + 1 + n)) = _
      rw [if_neg hne, i1]
    · show (if by8 L (k + 1 + n) = 10 then k + 1 + n + 1 else begI L (k + 1 + n)) = _
      rw [if_neg hne, i2]
theorem feed_one {L : List UInt8} {k : Nat} (h : by8 L k = 10) : stepAt L k = 1 := by
  have hz : sizeAt L k = 1 := (siz4_is _ _ _ _).1.2 (by omega)
  unfold stepAt; rw [hz]; rfl
/-- The line and the column behind a step, from a place that is reached from its line's beginning. -/
def onLine (L : List UInt8) (k : Nat) : Prop := adv L (stp L (begI L k) k) (begI L k) = k
theorem onLine_zero (L : List UInt8) : onLine L 0 := by
  unfold onLine; show adv L (stp L 0 0) 0 = 0
  rw [stp_done (Nat.le_refl _)]; rfl
theorem line_feed {L : List UInt8} {k : Nat} (h : by8 L k = 10) : lfs L (k + stepAt L k) = lfs L k + 1 ∧ stp L (begI L (k + stepAt L k)) (k + stepAt L k) = 0 ∧ onLine L (k + stepAt L k) := by
  rw [feed_one h]
  have hb : begI L (k + 1) = k + 1 := by show (if by8 L k = 10 then _ else _) = _; rw [if_pos h]
  refine ⟨?_, ?_, ?_⟩
  · show (if by8 L k = 10 then _ else _) = _; rw [if_pos h]
  · rw [hb, stp_done (Nat.le_refl _)]
  · unfold onLine; rw [hb, stp_done (Nat.le_refl _)]; rfl
theorem line_same {L : List UInt8} {k : Nat} (h : by8 L k ≠ 10) (ho : onLine L k) :
    lfs L (k + stepAt L k) = lfs L k ∧ stp L (begI L (k + stepAt L k)) (k + stepAt L k) = stp L (begI L k) k + 1 ∧ onLine L (k + stepAt L k) := by
  have hs := stepAt_range L k
  obtain ⟨f1, f2⟩ := feeds_same L k (stepAt L k - 1) (by omega)
  rw [show k + 1 + (stepAt L k - 1) = k + stepAt L k by omega] at f1 f2
  have b1 : begI L (k + 1) = begI L k := by show (if by8 L k = 10 then _ else _) = _; rw [if_neg h]
  have l1 : lfs L (k + 1) = lfs L k := by show (if by8 L k = 10 then _ else _) = _; rw [if_neg h]
  obtain ⟨a1, a2⟩ := adv_next L k _ (begI L k) (Nat.le_refl _) (begI_le L k) ho
  refine ⟨by rw [f1, l1], by rw [f2, b1, a1], ?_⟩
  unfold onLine; rw [f2, b1]; exact a2
end Go.Proofs.Ytcpjggcpimghjaa
