/- Texts of numbers, and what is read of them: with no program in sight. -/
import Derived.Test.YtmepgpiihhilaaaDoorSum
namespace Go.Proofs.YtmepgpiihhilaaaDoor
open Go.RowKit
set_option linter.unusedVariables false

theorem nearest_scaled' (s : Bool) (c k : Nat) (p : Int) (hc : c ≤ 9007199254740992) (hp : -1074 ≤ p + k) :
    Ieee.double.nearest s (c * 2 ^ k) p = Ieee.double.nearest s c (p + k) := by
  by_cases h : c < 9007199254740992
  · exact nearest_scaled s c k p h hp
  · have hc2 : c = 9007199254740992 := by omega
    subst hc2
    have e1 : 9007199254740992 * 2 ^ k = 4503599627370496 * 2 ^ (k + 1) := by rw [Nat.pow_succ]; omega
    have e2 : Ieee.double.nearest s 9007199254740992 (p + k) = Ieee.double.nearest s (4503599627370496 * 2 ^ 1) (p + k) := rfl
    rw [e1, e2, nearest_scaled s _ (k + 1) p (by decide) (by omega), nearest_scaled s _ 1 (p + k) (by decide) (by omega)]
    congr 1; omega

theorem mul_word' {x y : Nat} {s t : Bool} {c d : Nat} (h : Is x s c) (k : Is y t d) (hc : c < 9007199254740992) (hd : d < 9007199254740992) (hcd : c * d ≤ 9007199254740992) :
    floatBits .mul .f64 x y = some (wordN (s ^^ t) (c * d)) := by
  obtain ⟨ex, mx⟩ := h.parts hc
  obtain ⟨ey, my⟩ := k.parts hd
  have lx := exp_lo x
  have ly := exp_lo y
  show ((Ieee.double.read x).product (Ieee.double.read y)).map Ieee.double.write = _
  rw [h.read, k.read]
  show some (Ieee.double.nearest (s ^^ t) (mantN x * mantN y) (expI x + expI y)) = _
  rw [mx, my]
  have e : c * 2 ^ (-expI x).toNat * (d * 2 ^ (-expI y).toNat) = c * d * 2 ^ ((-expI x).toNat + (-expI y).toNat) := by
    rw [Nat.pow_add]; ac_rfl
  rw [e, nearest_scaled' _ _ _ _ hcd (by omega)]
  unfold wordN
  congr 2; omega

theorem add_word' {x y : Nat} {c d : Nat} (h : Is x false c) (k : Is y false d) (hcd : c + d ≤ 9007199254740992) :
    floatBits .add .f64 x y = some (wordN false (c + d)) := by
  by_cases hc : c < 9007199254740992
  · by_cases hd : d < 9007199254740992
    · obtain ⟨ex, mx⟩ := h.parts hc
      obtain ⟨ey, my⟩ := k.parts hd
      show ((Ieee.double.read x).sum (Ieee.double.read y)).map Ieee.double.write = _
      rw [h.read, k.read]
      simp only [Ieee.Datum.sum, Option.map_some, Ieee.Format.write]
      rw [mx, my, signed_scaled, signed_scaled]
      have hb : min (expI x) (expI y) ≤ 0 := by omega
      have e1 : (-expI x).toNat + (expI x - min (expI x) (expI y)).toNat = (-min (expI x) (expI y)).toNat := by omega
      have e2 : (-expI y).toNat + (expI y - min (expI x) (expI y)).toNat = (-min (expI x) (expI y)).toNat := by omega
      rw [e1, e2, ← Int.add_mul]
      generalize min (expI x) (expI y) = B at hb ⊢
      simp only [Bool.false_eq_true, if_false, Bool.and_self]
      have e3 : ((c : Int) + (d : Int)) * 2 ^ (-B).toNat = (((c + d) * 2 ^ (-B).toNat : Nat) : Int) := by
        rw [Int.natCast_mul, Int.natCast_pow, Int.natCast_add]; rfl
      rw [e3, Int.natAbs_natCast]
      have e4 : (if (((c + d) * 2 ^ (-B).toNat : Nat) : Int) = 0 then false else decide ((((c + d) * 2 ^ (-B).toNat : Nat) : Int) < 0)) = false := by
        split
        · rfl
        · exact decide_eq_false (by omega)
      rw [e4, nearest_scaled' _ _ _ _ hcd (by omega)]
      unfold wordN
      congr 2; omega
    · have : d = 9007199254740992 ∧ c = 0 := by omega
      obtain ⟨rfl, rfl⟩ := this
      rw [h.unique (is_word false (by decide)), k.unique (is_word false (by decide))]
      decide +kernel
  · have : c = 9007199254740992 ∧ d = 0 := by omega
    obtain ⟨rfl, rfl⟩ := this
    rw [h.unique (is_word false (by decide)), k.unique (is_word false (by decide))]
    decide +kernel

theorem of_floatOf {d : Int} (h0 : 0 ≤ d) : floatOfInt .f64 d = wordN false d.toNat := by
  show Ieee.double.nearest (decide (d < 0)) d.natAbs 0 = Ieee.double.nearest false d.toNat 0
  rw [decide_eq_false (by omega), show d.natAbs = d.toNat by omega]

theorem step_word {base : Int} (hb : base = 10 ∨ base = 16) {m : Nat} {d : Int} (hd : 0 ≤ d) (h : m * base.toNat + d.toNat ≤ 9007199254740992) :
    stepF base (wordN false m) d = wordN false (m * base.toNat + d.toNat) := by
  have hb1 : 0 ≤ base := by omega
  have hb2 : base.toNat = 10 ∨ base.toNat = 16 := by omega
  have hm : m < 9007199254740992 := by rcases hb2 with e | e <;> rw [e] at h <;> omega
  have w1 := is_word false (c := m) (by omega)
  have w2 := is_word false (c := base.toNat) (by omega)
  have w3 := is_word false (c := d.toNat) (by omega)
  have hmul := mul_word' w1 w2 hm (by omega) (by omega)
  have w4 := is_word false (c := m * base.toNat) (by omega)
  have hadd := add_word' w4 w3 h
  unfold stepF
  rw [of_floatOf hb1, of_floatOf hd]
  have e1 : Ieee.double.mul (wordN false m) (wordN false base.toNat) = some (wordN (false ^^ false) (m * base.toNat)) := hmul
  have e2 : Ieee.double.add (wordN false (m * base.toNat)) (wordN false d.toNat) = some (wordN false (m * base.toNat + d.toNat)) := hadd
  rw [e1]
  show (Ieee.double.add (wordN false (m * base.toNat)) (wordN false d.toNat)).getD 0 = _
  rw [e2]; rfl

/-- What digits come to. -/
def valL (base : Nat) (l : List UInt8) (m : Nat) : Nat := l.foldl (fun a c => a * base + (digB c.toNat).toNat) m
theorem valL_cons (base : Nat) (c : UInt8) (l : List UInt8) (m : Nat) : valL base (c :: l) m = valL base l (m * base + (digB c.toNat).toNat) := rfl
theorem valL_append (base : Nat) (l k : List UInt8) (m : Nat) : valL base (l ++ k) m = valL base k (valL base l m) := by unfold valL; rw [List.foldl_append]
theorem valL_le (base : Nat) (hb : 1 ≤ base) : ∀ (l : List UInt8) (m : Nat), m ≤ valL base l m
  | [], m => Nat.le_refl _
  | c :: l, m => by
    rw [valL_cons]
    have h1 := valL_le base hb l (m * base + (digB c.toNat).toNat)
    have h2 : m * 1 ≤ m * base := Nat.mul_le_mul_left m hb
    omega

theorem sum_digits {base : Int} (hb : base = 10 ∨ base = 16) : ∀ (l : List UInt8) (m : Nat), (∀ c ∈ l, digB c.toNat < base) → valL base.toNat l m ≤ 9007199254740992 →
    sumF base l (wordN false m) = some (wordN false (valL base.toNat l m))
  | [], m, _, _ => rfl
  | c :: l, m, hd, h => by
    rw [sumF, if_pos (hd c List.mem_cons_self)]
    rw [valL_cons] at h
    have h1 := valL_le base.toNat (by omega) l (m * base.toNat + (digB c.toNat).toNat)
    rw [step_word hb (digB_lo _) (by omega), sum_digits hb l _ (fun x hx => hd x (List.mem_cons_of_mem _ hx)) h, valL_cons]

theorem word_zero : wordN false 0 = 0 := by decide +kernel
theorem digits_word {base : Int} (hb : base = 10 ∨ base = 16) {l : List UInt8} (hl : l ≠ []) (hd : ∀ c ∈ l, digB c.toNat < base) (h : valL base.toNat l 0 ≤ 9007199254740992) :
    digitsI base l = (wordN false (valL base.toNat l 0) : Nat) := by
  unfold digitsI
  rw [if_neg hl]
  have := sum_digits hb l 0 hd h
  rw [word_zero] at this
  rw [this]
  exact canon_is (is_word false h)

theorem of_nonneg {n : Nat} : ofI (n : Int) = (wordN false n : Nat) := by
  unfold ofI
  rw [of_floatOf (by omega), Int.toNat_natCast]

/- Decimal digits. -/
theorem dec_all (u : Nat) : ∀ c ∈ Lib.decDigits u, 48 ≤ c.toNat ∧ c.toNat ≤ 57 := by
  induction u using Nat.strongRecOn with
  | ind u ih =>
    rw [Lib.decDigits]
    by_cases h : u < 10
    · rw [dif_pos h]
      intro c hc
      rw [List.mem_singleton.1 hc, UInt8.toNat_ofNat']; omega
    · rw [dif_neg h]
      intro c hc
      rcases List.mem_append.1 hc with hc | hc
      · exact ih (u / 10) (by omega) c hc
      · rw [List.mem_singleton.1 hc, UInt8.toNat_ofNat']; omega
theorem dec_ne (u : Nat) : Lib.decDigits u ≠ [] := by
  rw [Lib.decDigits]
  split
  · simp
  · simp
theorem digB_dec {c : Int} (h1 : 48 ≤ c) (h2 : c ≤ 57) : digB c = c - 48 := by unfold digB; rw [if_pos ⟨h1, h2⟩]
theorem dec_val (u : Nat) : valL 10 (Lib.decDigits u) 0 = u := by
  induction u using Nat.strongRecOn with
  | ind u ih =>
    rw [Lib.decDigits]
    by_cases h : u < 10
    · rw [dif_pos h, valL_cons, UInt8.toNat_ofNat', digB_dec (by omega) (by omega)]
      show 0 * 10 + _ = u
      omega
    · rw [dif_neg h, valL_append, ih (u / 10) (by omega), valL_cons, UInt8.toNat_ofNat', digB_dec (by omega) (by omega)]
      show u / 10 * 10 + _ = u
      omega
theorem dec_small {l : List UInt8} (h : ∀ c ∈ l, 48 ≤ c.toNat ∧ c.toNat ≤ 57) : ∀ c ∈ l, digB c.toNat < 10 := by
  intro c hc
  obtain ⟨h1, h2⟩ := h c hc
  rw [digB_dec (by omega) (by omega)]; omega

/- Nothing is trimmed where no blank stands at either end. -/
theorem trim_none {l cs : List UInt8} {c d : UInt8} {r q : List UInt8} (h1 : l = c :: r) (h2 : l = q ++ [d]) (hc : cs.contains c = false) (hd : cs.contains d = false) : Lib.trimS l cs = l := by
  have e1 : Lib.trimRightS l cs = l := by
    unfold Lib.trimRightS
    rw [h2, List.reverse_append]
    simp only [List.reverse_cons, List.reverse_nil, List.nil_append, List.cons_append]
    rw [List.dropWhile_cons_of_neg (by rw [hd]; decide)]
    simp
  unfold Lib.trimS
  rw [e1]
  unfold Lib.trimLeftS
  rw [h1, List.dropWhile_cons_of_neg (by rw [hc]; decide)]

theorem last_split {l : List UInt8} (h : l ≠ []) : l = l.dropLast ++ [l.getLast h] := (List.dropLast_concat_getLast h).symm
theorem no_blank {c : UInt8} (h : 33 ≤ c.toNat) : [32, 9, 13, 10].contains c = false := by
  rw [← Bool.not_eq_true]
  intro hc
  have hm := List.contains_iff_mem.1 hc
  simp only [List.mem_cons, List.mem_nil_iff, or_false] at hm
  rcases hm with rfl | rfl | rfl | rfl <;> exact absurd h (by decide)

theorem trim_same {l : List UInt8} (h : ∀ c ∈ l, 33 ≤ c.toNat) : Lib.trimS l [32, 9, 13, 10] = l := by
  cases l with
  | nil => rfl
  | cons c r =>
    refine trim_none (c := c) (r := r) rfl (last_split (by simp)) (no_blank (h c List.mem_cons_self)) (no_blank (h _ (List.getLast_mem _)))

theorem prefix_head {c : UInt8} {r : List UInt8} {a b : UInt8} (h : Lib.hasPrefix (c :: r) [a, b] = true) : c = a ∧ ∃ q, r = b :: q := by
  unfold Lib.hasPrefix at h
  obtain ⟨q, hq⟩ := List.isPrefixOf_iff_prefix.1 h
  have := List.cons.inj hq
  exact ⟨this.1.symm, q, this.2.symm⟩

theorem eq_of_nat {c : UInt8} {n : Nat} (hn : n < 256) (h : c = UInt8.ofNat n) : c.toNat = n := by rw [h, UInt8.toNat_ofNat']; omega

theorem parseT_cons (c : UInt8) (r : List UInt8) : parseT (c :: r) = if c = 126 then parseBitsI r
    else if Lib.hasPrefix (c :: r) [48, 120] = true ∨ Lib.hasPrefix (c :: r) [48, 88] = true then digitsI 16 ((c :: r).drop 2)
    else if c = 45 then negI (plainI r)
    else if c = 43 then plainI r
    else plainI (c :: r) := rfl

/-- A text of decimal digits is no sign, no ~, and no 0x. -/
theorem parseT_digits {l : List UInt8} (hl : l ≠ []) (h : ∀ c ∈ l, 48 ≤ c.toNat ∧ c.toNat ≤ 57) : parseT l = digitsI 10 l := by
  cases l with
  | nil => exact absurd rfl hl
  | cons c r =>
    have hc := h c List.mem_cons_self
    have ne : ∀ n : Nat, n < 256 → (n < 48 ∨ 57 < n) → c ≠ UInt8.ofNat n := by
      intro n hn h1 h2
      have := eq_of_nat hn h2; omega
    have np : ∀ n : Nat, n < 256 → 57 < n → ¬ Lib.hasPrefix (c :: r) [48, UInt8.ofNat n] = true := by
      intro n hn h1 h2
      obtain ⟨_, q, hq⟩ := prefix_head h2
      have := h (UInt8.ofNat n) (by rw [hq]; simp)
      rw [UInt8.toNat_ofNat'] at this; omega
    rw [parseT_cons, if_neg (show ¬ c = 126 from ne 126 (by decide) (by decide))]
    rw [if_neg (by
      intro h2
      rcases h2 with h2 | h2
      · exact np 120 (by decide) (by decide) h2
      · exact np 88 (by decide) (by decide) h2)]
    rw [if_neg (show ¬ c = 45 from ne 45 (by decide) (by decide)), if_neg (show ¬ c = 43 from ne 43 (by decide) (by decide))]
    unfold plainI
    rw [if_neg]
    intro h2
    unfold infL at h2
    exact ne 73 (by decide) (by decide) (List.cons.inj h2).1
theorem plain_digits {l : List UInt8} (h : ∀ c ∈ l, 48 ≤ c.toNat ∧ c.toNat ≤ 57) : plainI l = digitsI 10 l := by
  unfold plainI
  rw [if_neg]
  intro h2
  have := h 73 (by rw [h2]; decide)
  exact absurd this (by decide)

theorem neg_of {n : Nat} (h1 : 1 ≤ n) (h : n ≤ 9007199254740992) : negI (ofI (n : Int)) = ofI (-(n : Int)) := by
  have w1 := is_word false h
  have w2 := is_word true h
  have e2 : ofI (-(n : Int)) = (wordN true n : Nat) := by
    rw [of_word, decide_eq_true (by omega), Int.natAbs_neg, Int.natAbs_natCast]
  rw [of_nonneg, e2]
  have hm := mag_inj (w1.mag.trans w2.mag.symm)
  have s1 := w1.sign
  have s2 := w2.sign.2 rfl
  have l1 := w1.lt
  have l2 := w2.lt
  have nn := w1.not_nan
  have s1' : ¬ wordN false n / 9223372036854775808 % 2 = 1 := fun e => absurd (s1.1 e) (by decide)
  unfold negI
  rw [nn, if_neg (by decide)]
  generalize wordN false n = x at *
  generalize wordN true n = y at *
  rw [if_pos (by omega)]; omega

/-- A whole number's text is read as that number. -/
theorem parse_itoa {n : Int} (h0 : -9007199254740992 ≤ n) (h1 : n ≤ 9007199254740992) : parseI (Lib.itoa n) = ofI n := by
  unfold parseI
  have ha := dec_all n.natAbs
  have hne := dec_ne n.natAbs
  have hv := dec_val n.natAbs
  have hd : digitsI 10 (Lib.decDigits n.natAbs) = ofI (n.natAbs : Int) := by
    rw [digits_word (.inl rfl) hne (dec_small ha) (by show valL 10 _ 0 ≤ _; rw [hv]; omega), of_nonneg]
    show ((wordN false (valL 10 _ 0) : Nat) : Int) = _
    rw [hv]
  unfold Lib.itoa
  by_cases hn : n < 0
  · rw [if_pos hn, trim_same (by
      intro c hc
      rcases List.mem_cons.1 hc with rfl | hc
      · decide
      · have := ha c hc; omega)]
    rw [parseT_cons]
    rw [if_neg (by decide), if_neg (by
      intro h2
      rcases h2 with h2 | h2
      · exact absurd (prefix_head h2).1 (by decide)
      · exact absurd (prefix_head h2).1 (by decide)), if_pos rfl, plain_digits ha, hd, neg_of (by omega) (by omega)]
    congr 1; omega
  · rw [if_neg hn]
    have e : n.toNat = n.natAbs := by omega
    rw [e, trim_same (by intro c hc; have := ha c hc; omega), parseT_digits hne ha, hd]
    congr 1; omega
end Go.Proofs.YtmepgpiihhilaaaDoor
