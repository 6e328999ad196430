/- What stands at a place, as the program finds it (by its first byte) and as the document's answer does (by what is put): plain lemmas. -/
import Derived.Test.YtcpjggcpimghjaaUPlain
namespace Go.Proofs.Ytcpjggcpimghjaa
open Go.RowKit
set_option linter.unusedVariables false

def ledU (c : Int) : Int := if c < 128 then c else if c < 192 then 0 else if c < 224 then c - 192 else if c < 240 then c - 224 else if c < 248 then c - 240 else 0
def ledN (c : Int) : Int := if c < 128 then 1 else if c < 192 then 0 else if c < 224 then 2 else if c < 240 then 3 else if c < 248 then 4 else 0
theorem led_range {c : Int} (h0 : 0 ≤ c) (h1 : c < 256) : 0 ≤ ledN c ∧ ledN c ≤ 4 ∧ 0 ≤ ledU c ∧ (ledN c ≠ 1 → ledU c < 32) ∧ (ledN c = 1 → ledU c = c ∧ c < 128) ∧ (2 ≤ ledN c → ledU c < 32) := by
  unfold ledN ledU; repeat' split
  all_goals omega
/-- The first byte's bits and those of so many behind it. -/
def accA (L : List UInt8) (k : Nat) (u : Int) : Nat → Int
  | 0 => u
  | j + 1 => accA L k u j * 64 + by8 L (k + (j + 1)) % 64
theorem accA_bound (L : List UInt8) (k : Nat) {u : Int} (h0 : 0 ≤ u) (h1 : u < 32) {j : Nat} (hj : j ≤ 3) : 0 ≤ accA L k u j ∧ accA L k u j < 8388608 := by
  have a1 := by8_lo L (k + 1); have a2 := by8_lo L (k + 2); have a3 := by8_lo L (k + 3)
  rcases (by omega : j = 0 ∨ j = 1 ∨ j = 2 ∨ j = 3) with rfl | rfl | rfl | rfl <;> simp only [accA] <;> omega

theorem at_zero {L : List UInt8} {k : Nat} (h : sizeAt L k = 0) : signAt L k = -1 ∧ stepAt L k = 1 := by
  refine ⟨(sign_range L k).2.2.2.2 h, ?_⟩
  unfold stepAt; rw [if_pos h]
theorem at_one {L : List UInt8} {k : Nat} (h : ledN (by8 L k) = 1) : signAt L k = ledU (by8 L k) ∧ stepAt L k = 1 ∧ sizeI (ledU (by8 L k)) = 1 ∧ sizeAt L k = 1 := by
  have h0 := by8_lo L k
  unfold signAt stepAt sizeAt
  generalize by8 L k = c at *
  have hc : c < 128 := by
    unfold ledN at h
    by_cases hc : c < 128
    · exact hc
    · rw [if_neg hc] at h; repeat' split at h
      all_goals omega
  have hz : ∀ d e f, siz4 c d e f = 1 := by intro d e f; unfold siz4; rw [if_pos hc]
  refine ⟨?_, ?_, ?_, hz _ _ _⟩
  · unfold sgn4 ledU; rw [hz, if_neg (by decide), if_pos rfl, if_pos hc]
  · rw [hz]; rfl
  · unfold ledU sizeI; rw [if_pos hc]; repeat' split
    all_goals omega
theorem size_of_led (L : List UInt8) (k : Nat) : sizeAt L k = 0 ∨ sizeAt L k = ledN (by8 L k) := by
  unfold sizeAt
  generalize by8 L k = c; generalize by8 L (k + 1) = d; generalize by8 L (k + 2) = e; generalize by8 L (k + 3) = f
  unfold siz4 ledN; repeat' split
  all_goals first | (left; rfl) | (right; rfl)
/-- The tails of so many bytes. -/
def tails (L : List UInt8) (k : Nat) (j : Nat) : Prop := ∀ t, 1 ≤ t → t ≤ j → 128 ≤ by8 L (k + t) ∧ by8 L (k + t) < 192
theorem at_bad {L : List UInt8} {k t : Nat} (h1 : 1 ≤ t) (h2 : (t : Int) < ledN (by8 L k)) (h3 : ¬ (128 ≤ by8 L (k + t) ∧ by8 L (k + t) < 192)) : sizeAt L k = 0 := by
  have hlo := by8_lo L k
  rcases size_of_led L k with h | h
  · exact h
  · exfalso
    have hr : ledN (by8 L k) ≤ 4 := by unfold ledN; (repeat' split) <;> omega
    have hf : (sizeAt L k = 2 → 128 ≤ by8 L (k + 1) ∧ by8 L (k + 1) < 192) ∧ (sizeAt L k = 3 → 128 ≤ by8 L (k + 1) ∧ by8 L (k + 1) < 192 ∧ 128 ≤ by8 L (k + 2) ∧ by8 L (k + 2) < 192) ∧
        (sizeAt L k = 4 → 128 ≤ by8 L (k + 1) ∧ by8 L (k + 1) < 192 ∧ 128 ≤ by8 L (k + 2) ∧ by8 L (k + 2) < 192 ∧ 128 ≤ by8 L (k + 3) ∧ by8 L (k + 3) < 192) := by
      unfold sizeAt siz4; repeat' split
      all_goals omega
    rcases (by omega : t = 1 ∨ t = 2 ∨ t = 3) with rfl | rfl | rfl <;> omega
theorem at_over {L : List UInt8} {k : Nat} (hk : k < L.length) (h : (L.length : Int) < k + ledN (by8 L k)) : sizeAt L k = 0 := by
  rcases size_of_led L k with h2 | h2
  · exact h2
  · by_cases hz : sizeAt L k = 0
    · exact hz
    · exfalso
      have := step_in hk
      unfold stepAt at this
      rw [if_neg hz] at this
      omega
theorem acc_two (L : List UInt8) (k : Nat) (t : tails L k 1) : accA L k (by8 L k - 192) 1 = n2 (by8 L k) (by8 L (k + 1)) := by
  have t1 := t 1 (by omega) (by omega)
  simp only [accA, n2, Nat.zero_add]; omega
theorem acc_three (L : List UInt8) (k : Nat) (t : tails L k 2) : accA L k (by8 L k - 224) 2 = n3 (by8 L k) (by8 L (k + 1)) (by8 L (k + 2)) := by
  have t1 := t 1 (by omega) (by omega)
  have t2 := t 2 (by omega) (by omega)
  simp only [accA, n3, Nat.zero_add, Nat.reduceAdd]; omega
theorem acc_four (L : List UInt8) (k : Nat) (t : tails L k 3) : accA L k (by8 L k - 240) 3 = n4 (by8 L k) (by8 L (k + 1)) (by8 L (k + 2)) (by8 L (k + 3)) := by
  have t1 := t 1 (by omega) (by omega)
  have t2 := t 2 (by omega) (by omega)
  have t3 := t 3 (by omega) (by omega)
  simp only [accA, n4, Nat.zero_add, Nat.reduceAdd]; omega
theorem led_is {c m : Int} (h : ledN c = m) : (m = 2 → ledU c = c - 192 ∧ 192 ≤ c ∧ c < 224) ∧ (m = 3 → ledU c = c - 224 ∧ 224 ≤ c ∧ c < 240) ∧ (m = 4 → ledU c = c - 240 ∧ 240 ≤ c ∧ c < 248) := by
  subst h
  unfold ledN ledU; repeat' split
  all_goals omega
theorem at_whole {L : List UInt8} {k m : Nat} (hm : ledN (by8 L k) = m) (h2 : 2 ≤ m) (ht : tails L k (m - 1)) :
    (sizeI (accA L k (ledU (by8 L k)) (m - 1)) = m ∧ signAt L k = accA L k (ledU (by8 L k)) (m - 1) ∧ stepAt L k = m) ∨ (sizeI (accA L k (ledU (by8 L k)) (m - 1)) ≠ m ∧ sizeAt L k = 0) := by
  have hl := led_is hm
  have hr : ledN (by8 L k) ≤ 4 := by unfold ledN; (repeat' split) <;> omega
  rcases (by omega : m = 2 ∨ m = 3 ∨ m = 4) with rfl | rfl | rfl
  · obtain ⟨e1, e2, e3⟩ := hl.1 rfl
    rw [e1, show (2 - 1 : Nat) = 1 by rfl, acc_two L k ht]
    have t1 := ht 1 (by omega) (by omega)
    unfold signAt stepAt sizeAt
    generalize by8 L k = c at *; generalize by8 L (k + 1) = d at *; generalize by8 L (k + 2) = e at *; generalize by8 L (k + 3) = f at *
    have hb : n2 c d < 2048 := by unfold n2; omega
    have hz : siz4 c d e f = if 128 ≤ d ∧ d < 192 ∧ 128 ≤ n2 c d then 2 else 0 := by unfold siz4; rw [if_neg (by omega), if_neg (by omega), if_pos (by omega)]
    have hs : sizeI (n2 c d) = 2 ↔ 128 ≤ n2 c d := by unfold sizeI; (repeat' split) <;> omega
    unfold sgn4
    by_cases hc : 128 ≤ n2 c d
    · rw [if_pos ⟨t1.1, t1.2, hc⟩] at hz
      left; refine ⟨hs.2 hc, ?_, ?_⟩
      · rw [hz]; rfl
      · rw [hz]; rfl
    · rw [if_neg (by omega)] at hz
      right; exact ⟨fun h => hc (hs.1 h), hz⟩
  · obtain ⟨e1, e2, e3⟩ := hl.2.1 rfl
    rw [e1, show (3 - 1 : Nat) = 2 by rfl, acc_three L k ht]
    have t1 := ht 1 (by omega) (by omega)
    have t2 := ht 2 (by omega) (by omega)
    unfold signAt stepAt sizeAt
    generalize by8 L k = c at *; generalize by8 L (k + 1) = d at *; generalize by8 L (k + 2) = e at *; generalize by8 L (k + 3) = f at *
    have hb : n3 c d e < 65536 := by unfold n3; omega
    have hz : siz4 c d e f = if 128 ≤ d ∧ d < 192 ∧ 128 ≤ e ∧ e < 192 ∧ 2048 ≤ n3 c d e ∧ ¬ (55296 ≤ n3 c d e ∧ n3 c d e ≤ 57343) then 3 else 0 := by unfold siz4; rw [if_neg (by omega), if_neg (by omega), if_neg (by omega), if_pos (by omega)]
    have hs : sizeI (n3 c d e) = 3 ↔ (2048 ≤ n3 c d e ∧ ¬ (55296 ≤ n3 c d e ∧ n3 c d e ≤ 57343)) := by unfold sizeI; (repeat' split) <;> omega
    unfold sgn4
    by_cases hc : 2048 ≤ n3 c d e ∧ ¬ (55296 ≤ n3 c d e ∧ n3 c d e ≤ 57343)
    · rw [if_pos ⟨t1.1, t1.2, t2.1, t2.2, hc⟩] at hz
      left; refine ⟨hs.2 hc, ?_, ?_⟩
      · rw [hz]; rfl
      · rw [hz]; rfl
    · rw [if_neg (fun h => hc h.2.2.2.2)] at hz
      right; exact ⟨fun h => hc (hs.1 h), hz⟩
  · obtain ⟨e1, e2, e3⟩ := hl.2.2 rfl
    rw [e1, show (4 - 1 : Nat) = 3 by rfl, acc_four L k ht]
    have t1 := ht 1 (by omega) (by omega)
    have t2 := ht 2 (by omega) (by omega)
    have t3 := ht 3 (by omega) (by omega)
    unfold signAt stepAt sizeAt
    generalize by8 L k = c at *; generalize by8 L (k + 1) = d at *; generalize by8 L (k + 2) = e at *; generalize by8 L (k + 3) = f at *
    have hz : siz4 c d e f = if 128 ≤ d ∧ d < 192 ∧ 128 ≤ e ∧ e < 192 ∧ 128 ≤ f ∧ f < 192 ∧ 65536 ≤ n4 c d e f ∧ n4 c d e f ≤ 1114111 then 4 else 0 := by unfold siz4; rw [if_neg (by omega), if_neg (by omega), if_neg (by omega), if_neg (by omega), if_pos (by omega)]
    have hs : sizeI (n4 c d e f) = 4 ↔ (65536 ≤ n4 c d e f ∧ n4 c d e f ≤ 1114111) := by unfold sizeI; (repeat' split) <;> omega
    unfold sgn4
    by_cases hc : 65536 ≤ n4 c d e f ∧ n4 c d e f ≤ 1114111
    · rw [if_pos ⟨t1.1, t1.2, t2.1, t2.2, t3.1, t3.2, hc⟩] at hz
      left; refine ⟨hs.2 hc, ?_, ?_⟩
      · rw [hz]; rfl
      · rw [hz]; rfl
    · rw [if_neg (fun h => hc h.2.2.2.2.2.2)] at hz
      right; exact ⟨fun h => hc (hs.1 h), hz⟩

/- By what is put. -/
/-- What the sign of so many bytes would be. -/
def gsI (L : List UInt8) (k j : Nat) : Int :=
  if j = 1 then by8 L k else if j = 2 then n2 (by8 L k) (by8 L (k + 1)) else if j = 3 then n3 (by8 L k) (by8 L (k + 1)) (by8 L (k + 2)) else n4 (by8 L k) (by8 L (k + 1)) (by8 L (k + 2)) (by8 L (k + 3))
theorem take_one {L : List UInt8} {k : Nat} (h : k + 1 ≤ L.length) : (L.drop k).take 1 = [b8 (by8 L k)] := by
  rw [List.drop_eq_getElem_cons (by omega)]
  unfold by8
  rw [List.getD_eq_getElem?_getD, List.getElem?_eq_getElem (by omega), Option.getD_some, b8_byte]; rfl
theorem take_succ' {L : List UInt8} {k j : Nat} (h : k + (j + 1) ≤ L.length) : (L.drop k).take (j + 1) = b8 (by8 L k) :: (L.drop (k + 1)).take j := by
  rw [List.drop_eq_getElem_cons (by omega)]
  unfold by8
  rw [List.getD_eq_getElem?_getD, List.getElem?_eq_getElem (by omega), Option.getD_some, b8_byte]; rfl
theorem take_two {L : List UInt8} {k : Nat} (h : k + 2 ≤ L.length) : (L.drop k).take 2 = [b8 (by8 L k), b8 (by8 L (k + 1))] := by
  rw [take_succ' h, take_one (by omega)]
theorem take_three {L : List UInt8} {k : Nat} (h : k + 3 ≤ L.length) : (L.drop k).take 3 = [b8 (by8 L k), b8 (by8 L (k + 1)), b8 (by8 L (k + 2))] := by
  rw [take_succ' h, take_two (by omega)]
theorem take_four {L : List UInt8} {k : Nat} (h : k + 4 ≤ L.length) : (L.drop k).take 4 = [b8 (by8 L k), b8 (by8 L (k + 1)), b8 (by8 L (k + 2)), b8 (by8 L (k + 3))] := by
  rw [take_succ' h, take_three (by omega)]
theorem put_one {n : Int} (h : sizeI n = 1) : putL n = [b8 n] := by unfold putL; rw [if_neg (by omega), if_pos h]
theorem put_two {n : Int} (h : sizeI n = 2) : putL n = [b8 (192 + n / 64), b8 (128 + n % 64)] := by unfold putL; rw [if_neg (by omega), if_neg (by omega), if_pos h]
theorem put_three {n : Int} (h : sizeI n = 3) : putL n = [b8 (224 + n / 4096), b8 (128 + n / 64 % 64), b8 (128 + n % 64)] := by unfold putL; rw [if_neg (by omega), if_neg (by omega), if_neg (by omega), if_pos h]
theorem put_four {n : Int} (h : sizeI n = 4) : putL n = [b8 (240 + n / 262144), b8 (128 + n / 4096 % 64), b8 (128 + n / 64 % 64), b8 (128 + n % 64)] := by
  unfold putL; rw [if_neg (by omega), if_neg (by omega), if_neg (by omega), if_neg (by omega)]
theorem size_is {n : Int} : (sizeI n = 1 → 0 ≤ n ∧ n < 128) ∧ (sizeI n = 2 → 128 ≤ n ∧ n < 2048) ∧ (sizeI n = 3 → 2048 ≤ n ∧ n < 65536 ∧ ¬ (55296 ≤ n ∧ n ≤ 57343)) ∧ (sizeI n = 4 → 65536 ≤ n ∧ n ≤ 1114111) := by
  unfold sizeI; repeat' split
  all_goals omega
/-- A sign of so many bytes stands there just if what they would be is put as they are. -/
theorem match_one {L : List UInt8} {k : Nat} (h : k + 1 ≤ L.length) : (sizeI (gsI L k 1) ≠ 0 ∧ putL (gsI L k 1) = (L.drop k).take 1) ↔ sizeAt L k = 1 := by
  rw [take_one h]
  have l0 := by8_lo L k; have h0 := by8_hi L k
  have hg : gsI L k 1 = by8 L k := by unfold gsI; rw [if_pos rfl]
  rw [hg]
  unfold sizeAt
  generalize by8 L k = c at *; generalize by8 L (k + 1) = d at *; generalize by8 L (k + 2) = e at *; generalize by8 L (k + 3) = f at *
  have hs := @size_is c
  constructor
  · rintro ⟨a1, a2⟩
    have hl := putL_length c
    rw [a2] at hl
    simp only [List.length_cons, List.length_nil] at hl
    have hc := hs.1 (by omega)
    unfold siz4; rw [if_pos (by omega)]
  · intro hz
    have hc : c < 128 := by unfold siz4 at hz; (repeat' split at hz) <;> omega
    have h1 : sizeI c = 1 := by unfold sizeI; (repeat' split) <;> omega
    exact ⟨by omega, put_one h1⟩
theorem match_two {L : List UInt8} {k : Nat} (h : k + 2 ≤ L.length) : (sizeI (gsI L k 2) ≠ 0 ∧ putL (gsI L k 2) = (L.drop k).take 2) ↔ sizeAt L k = 2 := by
  rw [take_two h]
  have l0 := by8_lo L k; have h0 := by8_hi L k
  have l1 := by8_lo L (k + 1); have h1 := by8_hi L (k + 1)
  have hg : gsI L k 2 = n2 (by8 L k) (by8 L (k + 1)) := by unfold gsI; rw [if_neg (by decide), if_pos rfl]
  rw [hg]
  unfold sizeAt
  generalize by8 L k = c at *; generalize by8 L (k + 1) = d at *; generalize by8 L (k + 2) = e at *; generalize by8 L (k + 3) = f at *
  have hs := @size_is (n2 c d)
  have hx : n2 c d = (c - 192) * 64 + (d - 128) := rfl
  constructor
  · rintro ⟨a1, a2⟩
    have hl := putL_length (n2 c d)
    rw [a2] at hl
    simp only [List.length_cons, List.length_nil] at hl
    have h2 : sizeI (n2 c d) = 2 := by omega
    have hc := hs.2.1 h2
    rw [put_two h2] at a2
    have e1 := b8_inj (by omega) (by omega) l0 h0 (List.cons.inj a2).1
    have e2 := b8_inj (by omega) (by omega) l1 h1 (List.cons.inj (List.cons.inj a2).2).1
    unfold siz4
    rw [if_neg (by omega), if_neg (by omega), if_pos (by omega), if_pos (by omega)]
  · intro hz
    have hc : 192 ≤ c ∧ c < 224 ∧ 128 ≤ d ∧ d < 192 ∧ 128 ≤ n2 c d := by unfold siz4 at hz; (repeat' split at hz) <;> omega
    have h2 : sizeI (n2 c d) = 2 := by unfold sizeI; (repeat' split) <;> omega
    refine ⟨by omega, ?_⟩
    rw [put_two h2, show 192 + n2 c d / 64 = c by omega, show 128 + n2 c d % 64 = d by omega]
theorem match_three {L : List UInt8} {k : Nat} (h : k + 3 ≤ L.length) : (sizeI (gsI L k 3) ≠ 0 ∧ putL (gsI L k 3) = (L.drop k).take 3) ↔ sizeAt L k = 3 := by
  rw [take_three h]
  have l0 := by8_lo L k; have h0 := by8_hi L k
  have l1 := by8_lo L (k + 1); have h1 := by8_hi L (k + 1)
  have l2 := by8_lo L (k + 2); have h2 := by8_hi L (k + 2)
  have hg : gsI L k 3 = n3 (by8 L k) (by8 L (k + 1)) (by8 L (k + 2)) := by unfold gsI; rw [if_neg (by decide), if_neg (by decide), if_pos rfl]
  rw [hg]
  unfold sizeAt
  generalize by8 L k = c at *; generalize by8 L (k + 1) = d at *; generalize by8 L (k + 2) = e at *; generalize by8 L (k + 3) = f at *
  have hs := @size_is (n3 c d e)
  have hx : n3 c d e = ((c - 224) * 64 + (d - 128)) * 64 + (e - 128) := rfl
  constructor
  · rintro ⟨a1, a2⟩
    have hl := putL_length (n3 c d e)
    rw [a2] at hl
    simp only [List.length_cons, List.length_nil] at hl
    have h3 : sizeI (n3 c d e) = 3 := by omega
    have hc := hs.2.2.1 h3
    rw [put_three h3] at a2
    have e1 := b8_inj (by omega) (by omega) l0 h0 (List.cons.inj a2).1
    have e2 := b8_inj (by omega) (by omega) l1 h1 (List.cons.inj (List.cons.inj a2).2).1
    have e3 := b8_inj (by omega) (by omega) l2 h2 (List.cons.inj (List.cons.inj (List.cons.inj a2).2).2).1
    unfold siz4
    rw [if_neg (by omega), if_neg (by omega), if_neg (by omega), if_pos (by omega), if_pos (by omega)]
  · intro hz
    have hc : 224 ≤ c ∧ c < 240 ∧ 128 ≤ d ∧ d < 192 ∧ 128 ≤ e ∧ e < 192 ∧ 2048 ≤ n3 c d e ∧ ¬ (55296 ≤ n3 c d e ∧ n3 c d e ≤ 57343) := by unfold siz4 at hz; (repeat' split at hz) <;> omega
    have h3 : sizeI (n3 c d e) = 3 := by unfold sizeI; (repeat' split) <;> omega
    refine ⟨by omega, ?_⟩
    rw [put_three h3, show 224 + n3 c d e / 4096 = c by omega, show 128 + n3 c d e / 64 % 64 = d by omega, show 128 + n3 c d e % 64 = e by omega]
theorem match_four {L : List UInt8} {k : Nat} (h : k + 4 ≤ L.length) : (sizeI (gsI L k 4) ≠ 0 ∧ putL (gsI L k 4) = (L.drop k).take 4) ↔ sizeAt L k = 4 := by
  rw [take_four h]
  have l0 := by8_lo L k; have h0 := by8_hi L k
  have l1 := by8_lo L (k + 1); have h1 := by8_hi L (k + 1)
  have l2 := by8_lo L (k + 2); have h2 := by8_hi L (k + 2)
  have l3 := by8_lo L (k + 3); have h3 := by8_hi L (k + 3)
  have hg : gsI L k 4 = n4 (by8 L k) (by8 L (k + 1)) (by8 L (k + 2)) (by8 L (k + 3)) := by unfold gsI; rw [if_neg (by decide), if_neg (by decide), if_neg (by decide)]
  rw [hg]
  unfold sizeAt
  generalize by8 L k = c at *; generalize by8 L (k + 1) = d at *; generalize by8 L (k + 2) = e at *; generalize by8 L (k + 3) = f at *
  have hs := @size_is (n4 c d e f)
  have hx : n4 c d e f = (((c - 240) * 64 + (d - 128)) * 64 + (e - 128)) * 64 + (f - 128) := rfl
  constructor
  · rintro ⟨a1, a2⟩
    have hl := putL_length (n4 c d e f)
    rw [a2] at hl
    simp only [List.length_cons, List.length_nil] at hl
    have h4 : sizeI (n4 c d e f) = 4 := by omega
    have hc := hs.2.2.2 h4
    rw [put_four h4] at a2
    have e1 := b8_inj (by omega) (by omega) l0 h0 (List.cons.inj a2).1
    have e2 := b8_inj (by omega) (by omega) l1 h1 (List.cons.inj (List.cons.inj a2).2).1
    have e3 := b8_inj (by omega) (by omega) l2 h2 (List.cons.inj (List.cons.inj (List.cons.inj a2).2).2).1
    have e4 := b8_inj (by omega) (by omega) l3 h3 (List.cons.inj (List.cons.inj (List.cons.inj (List.cons.inj a2).2).2).2).1
    unfold siz4
    rw [if_neg (by omega), if_neg (by omega), if_neg (by omega), if_neg (by omega), if_pos (by omega), if_pos (by omega)]
  · intro hz
    have hc : 240 ≤ c ∧ c < 248 ∧ 128 ≤ d ∧ d < 192 ∧ 128 ≤ e ∧ e < 192 ∧ 128 ≤ f ∧ f < 192 ∧ 65536 ≤ n4 c d e f ∧ n4 c d e f ≤ 1114111 := by unfold siz4 at hz; (repeat' split at hz) <;> omega
    have h4 : sizeI (n4 c d e f) = 4 := by unfold sizeI; (repeat' split) <;> omega
    refine ⟨by omega, ?_⟩
    rw [put_four h4, show 240 + n4 c d e f / 262144 = c by omega, show 128 + n4 c d e f / 4096 % 64 = d by omega, show 128 + n4 c d e f / 64 % 64 = e by omega, show 128 + n4 c d e f % 64 = f by omega]
theorem match_any {L : List UInt8} {k j : Nat} (h1 : 1 ≤ j) (h4 : j ≤ 4) (h : k + j ≤ L.length) : (sizeI (gsI L k j) ≠ 0 ∧ putL (gsI L k j) = (L.drop k).take j) ↔ sizeAt L k = j := by
  rcases (by omega : j = 1 ∨ j = 2 ∨ j = 3 ∨ j = 4) with rfl | rfl | rfl | rfl
  · exact match_one h
  · exact match_two h
  · exact match_three h
  · exact match_four h
theorem sign_size {L : List UInt8} {k j : Nat} (h1 : 1 ≤ j) (h4 : j ≤ 4) (h : sizeAt L k = j) : signAt L k = gsI L k j ∧ stepAt L k = j := by
  refine ⟨?_, by unfold stepAt; rw [if_neg (by omega)]; omega⟩
  unfold signAt sgn4 gsI
  unfold sizeAt at h
  rw [h]
  rcases (by omega : j = 1 ∨ j = 2 ∨ j = 3 ∨ j = 4) with rfl | rfl | rfl | rfl <;> rfl
/-- Where a sign stands its bytes are what is put. -/
theorem put_sign {L : List UInt8} {k : Nat} (hk : k < L.length) (h : sizeAt L k ≠ 0) : sizeI (signAt L k) ≠ 0 ∧ putL (signAt L k) = (L.drop k).take (stepAt L k) := by
  have hr : 0 ≤ sizeAt L k ∧ sizeAt L k ≤ 4 := siz4_range _ _ _ _
  have hs := step_in hk
  have hj : stepAt L k = (sizeAt L k).toNat := by unfold stepAt; rw [if_neg h]
  have h1 := sign_size (L := L) (k := k) (j := (sizeAt L k).toNat) (by omega) (by omega) (by omega)
  rw [h1.1, hj]
  exact (match_any (by omega) (by omega) (by omega)).2 (by omega)
end Go.Proofs.Ytcpjggcpimghjaa
