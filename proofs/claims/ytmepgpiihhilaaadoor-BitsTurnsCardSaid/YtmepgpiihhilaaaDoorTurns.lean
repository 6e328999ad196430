/- Sums and products either way round; signs: the walk of the statement. -/
import Derived.Test.YtmepgpiihhilaaaDoorOrder
namespace Go.Proofs.YtmepgpiihhilaaaDoor
open Go.RowKit
set_option linter.unusedVariables false

theorem sum_comm (d d' : Ieee.Datum) : d.sum d' = d'.sum d := by
  cases d with
  | nan s t => cases d' <;> rfl
  | infinity s =>
    cases d' with
    | nan _ _ => rfl
    | infinity t =>
      simp only [Ieee.Datum.sum]
      by_cases h : s = t
      · subst h; rfl
      · rw [if_neg h, if_neg (fun e => h e.symm)]
    | number _ _ _ => rfl
  | number s m i =>
    cases d' with
    | nan _ _ => rfl
    | infinity t => rfl
    | number t n j =>
      simp only [Ieee.Datum.sum]
      rw [Int.min_comm j i, Int.add_comm (Ieee.signed t n _), Bool.and_comm t s]

theorem product_comm (d d' : Ieee.Datum) : d.product d' = d'.product d := by
  cases d with
  | nan s t => cases d' <;> rfl
  | infinity s =>
    cases d' with
    | nan _ _ => rfl
    | infinity t => simp only [Ieee.Datum.product]; rw [Bool.xor_comm]
    | number _ _ _ => rfl
  | number s m i =>
    cases d' with
    | nan _ _ => rfl
    | infinity t => rfl
    | number t n j =>
      simp only [Ieee.Datum.product]
      rw [Bool.xor_comm, Nat.mul_comm, Int.add_comm]

theorem product_opposite (d d' : Ieee.Datum) : d.opposite.product d' = (d.product d').map Ieee.Datum.opposite := by
  cases d with
  | nan s t => cases d' <;> rfl
  | infinity s =>
    cases d' with
    | nan _ _ => rfl
    | infinity t => cases s <;> cases t <;> rfl
    | number t n j =>
      simp only [Ieee.Datum.product, Ieee.Datum.opposite]
      split
      · rfl
      · cases s <;> cases t <;> rfl
  | number s m i =>
    cases d' with
    | nan _ _ => rfl
    | infinity t =>
      simp only [Ieee.Datum.product, Ieee.Datum.opposite]
      split
      · rfl
      · cases s <;> cases t <;> rfl
    | number t n j =>
      simp only [Ieee.Datum.product, Ieee.Datum.opposite]
      cases s <;> cases t <;> rfl

theorem product_plain (d d' e : Ieee.Datum) (h : d.product d' = some e) : e.isNaN = false := by
  cases d with
  | nan s t => cases d' <;> cases h
  | infinity s =>
    cases d' with
    | nan _ _ => cases h
    | infinity t => cases h; rfl
    | number t n j =>
      simp only [Ieee.Datum.product] at h
      split at h
      · cases h
      · cases h; rfl
  | number s m i =>
    cases d' with
    | nan _ _ => cases h
    | infinity t =>
      simp only [Ieee.Datum.product] at h
      split at h
      · cases h
      · cases h; rfl
    | number t n j => cases h; rfl

theorem read_neg {b : Int} (h0 : 0 ≤ b) (h1 : b < 18446744073709551616) (hn : nanB b = false) : Ieee.double.read (negI b).toNat = (Ieee.double.read b.toNat).opposite := by
  have hb := not_nan hn
  obtain ⟨x, rfl⟩ := Int.eq_ofNat_of_zero_le h0
  have e : ∃ y, negI x = (y : Nat) ∧ y % 9223372036854775808 = x % 9223372036854775808 ∧ (y / 9223372036854775808 % 2 == 1) = !(x / 9223372036854775808 % 2 == 1) := by
    unfold negI
    rw [hn]
    simp only [Bool.false_eq_true, if_false]
    by_cases hl : (x : Int) < 9223372036854775808
    · rw [if_pos hl]
      refine ⟨x + 9223372036854775808, by omega, by omega, ?_⟩
      have a1 : (x + 9223372036854775808) / 9223372036854775808 % 2 = 1 := by omega
      have a2 : x / 9223372036854775808 % 2 = 0 := by omega
      rw [a1, a2]; rfl
    · rw [if_neg hl]
      refine ⟨x - 9223372036854775808, by omega, by omega, ?_⟩
      have a1 : (x - 9223372036854775808) / 9223372036854775808 % 2 = 0 := by omega
      have a2 : x / 9223372036854775808 % 2 = 1 := by omega
      rw [a1, a2]; rfl
  obtain ⟨y, e1, e2, e3⟩ := e
  rw [e1, Int.toNat_natCast, Int.toNat_natCast]
  have m1 : mantN y = mantN x := by
    have q1 : y / 4503599627370496 % 2048 = x / 4503599627370496 % 2048 := by omega
    have q2 : y % 4503599627370496 = x % 4503599627370496 := by omega
    unfold mantN; rw [q1, q2]
  have m2 : expI y = expI x := by
    have q1 : y / 4503599627370496 % 2048 = x / 4503599627370496 % 2048 := by omega
    unfold expI; rw [q1]
  rcases read_cases x with ⟨h2, _⟩ | ⟨h2, h3⟩ | ⟨h2, h3⟩
  · omega
  · rcases read_cases y with ⟨k2, _⟩ | ⟨_, k3⟩ | ⟨k2, _⟩
    · omega
    · rw [h3, k3, e3]; rfl
    · omega
  · rcases read_cases y with ⟨k2, _⟩ | ⟨k2, _⟩ | ⟨_, k3⟩
    · omega
    · omega
    · rw [h3, k3, e3, m1, m2]; rfl

theorem read_nan {b : Int} (h0 : 0 ≤ b) (hn : nanB b = true) : ∃ s t, Ieee.double.read b.toNat = .nan s t := by
  have h := of_decide_eq_true hn
  rcases read_cases b.toNat with ⟨_, h2⟩ | ⟨h2, _⟩ | ⟨h2, _⟩
  · exact ⟨_, _, h2⟩
  · omega
  · omega
theorem nan_none : nanB noneB = true := by decide
theorem negI_nan {b : Int} (hn : nanB b = true) : negI b = noneB := by unfold negI; rw [if_pos hn]
theorem sum_nan (d : Ieee.Datum) (s : Bool) (t : Nat) : d.sum (.nan s t) = none := by cases d <;> rfl
theorem product_nan (d : Ieee.Datum) (s : Bool) (t : Nat) : Ieee.Datum.product (.nan s t) d = none := by cases d <;> rfl

theorem add_turn (a b : Int) : fop .add a b = fop .add b a := by
  unfold fop
  have : floatBits .add .f64 a.toNat b.toNat = floatBits .add .f64 b.toNat a.toNat := by
    show ((Ieee.double.read _).sum (Ieee.double.read _)).map _ = ((Ieee.double.read _).sum (Ieee.double.read _)).map _
    rw [sum_comm]
  rw [this]
theorem mul_turn (a b : Int) : fop .mul a b = fop .mul b a := by
  unfold fop
  have : floatBits .mul .f64 a.toNat b.toNat = floatBits .mul .f64 b.toNat a.toNat := by
    show ((Ieee.double.read _).product (Ieee.double.read _)).map _ = ((Ieee.double.read _).product (Ieee.double.read _)).map _
    rw [product_comm]
  rw [this]

theorem sub_turn {a b : Int} (hb0 : 0 ≤ b) (hb : b < 18446744073709551616) : fop .sub a b = fop .add a (negI b) := by
  unfold fop
  have : floatBits .sub .f64 a.toNat b.toNat = floatBits .add .f64 a.toNat (negI b).toNat := by
    show ((Ieee.double.read _).sum (Ieee.double.read _).opposite).map _ = ((Ieee.double.read _).sum (Ieee.double.read _)).map _
    cases hn : nanB b
    · rw [read_neg hb0 hb hn]
    · obtain ⟨s, t, h⟩ := read_nan hb0 hn
      obtain ⟨s2, t2, h2⟩ := read_nan (b := noneB) (by decide) nan_none
      rw [h, negI_nan hn, h2]
      show ((Ieee.double.read a.toNat).sum (.nan (!s) t)).map _ = _
      rw [sum_nan, sum_nan]
  rw [this]

theorem neg_neg' {a : Int} (h0 : 0 ≤ a) (h1 : a < 18446744073709551616) : sameI (negI (negI a)) a = true := by
  unfold sameI
  cases hn : nanB a
  · have hm : ∀ c : Int, 0 ≤ c → nanB (c + 9223372036854775808) = nanB c := by
      intro c hc; unfold nanB; rw [decide_eq_decide]; omega
    have e : negI (negI a) = a := by
      by_cases hl : a < 9223372036854775808
      · have e1 : negI a = a + 9223372036854775808 := by unfold negI; rw [hn, if_neg (by decide), if_pos hl]
        rw [e1]
        unfold negI
        rw [hm a h0, hn, if_neg (by decide), if_neg (by omega)]; omega
      · have e1 : negI a = a - 9223372036854775808 := by unfold negI; rw [hn, if_neg (by decide), if_neg hl]
        have e2 : nanB (a - 9223372036854775808) = false := by
          have := hm (a - 9223372036854775808) (by omega)
          rw [Int.sub_add_cancel, hn] at this
          exact this.symm
        rw [e1]
        unfold negI
        rw [e2, if_neg (by decide), if_pos (by omega)]; omega
    rw [e]; simp
  · rw [negI_nan hn, negI_nan nan_none, nan_none]; simp

theorem cut_even_sign (s : Bool) (n d : Nat) : Ieee.Toward.cut .even s n d = Ieee.Toward.cut .even false n d := rfl

theorem nearest_sign (m : Nat) (p : Int) : ∃ r, r ≤ 9218868437227405312 ∧ ∀ s, Ieee.double.nearest s m p = if s then 9223372036854775808 + r else r := by
  refine ⟨Ieee.double.nearest false m p, nearest_good m p, fun s => ?_⟩
  cases s
  · rw [if_neg (by decide)]
  · rw [if_pos rfl]
    unfold Ieee.Format.nearest Ieee.Format.word
    by_cases h0 : m = 0
    · rw [if_pos h0, if_pos h0, dbl_sign]
      simp only [if_true, Bool.false_eq_true, if_false]
    · rw [if_neg h0, if_neg h0, dbl_sign]
      simp only [cut_even_sign true, if_true, Bool.false_eq_true, if_false]

theorem write_neg (e : Ieee.Datum) (h : e.isNaN = false) : canon (Ieee.double.write e.opposite : Nat) = negI (canon (Ieee.double.write e : Nat)) := by
  have key : ∀ r : Nat, r ≤ 9218868437227405312 → ∀ s : Bool, canon ((if (!s) = true then 9223372036854775808 + r else r : Nat) : Int) = negI (canon ((if s = true then 9223372036854775808 + r else r : Nat) : Int)) := by
    intro r hr s
    have n1 : nanB (r : Int) = false := by unfold nanB; exact decide_eq_false (by omega)
    have n2 : nanB ((9223372036854775808 + r : Nat) : Int) = false := by unfold nanB; exact decide_eq_false (by omega)
    have c1 : canon (r : Int) = r := by unfold canon; rw [n1]; rfl
    have c2 : canon ((9223372036854775808 + r : Nat) : Int) = (9223372036854775808 + r : Nat) := by unfold canon; rw [n2]; rfl
    cases s
    · simp only [Bool.not_false, if_true, Bool.false_eq_true, if_false]
      rw [c1, c2]
      unfold negI
      rw [n1, if_neg (by decide), if_pos (by omega)]; omega
    · simp only [Bool.not_true, if_true, Bool.false_eq_true, if_false]
      rw [c1, c2]
      unfold negI
      rw [n2, if_neg (by decide), if_neg (by omega)]; omega
  cases e with
  | nan s t => cases h
  | infinity s =>
    show canon (Ieee.double.word (!s) Ieee.double.infRung : Nat) = negI (canon (Ieee.double.word s Ieee.double.infRung : Nat))
    unfold Ieee.Format.word
    rw [dbl_sign, dbl_inf]
    exact key 9218868437227405312 (Nat.le_refl _) s
  | number s m p =>
    obtain ⟨r, h1, h2⟩ := nearest_sign m p
    show canon (Ieee.double.nearest (!s) m p : Nat) = negI (canon (Ieee.double.nearest s m p : Nat))
    rw [h2, h2]
    exact key r h1 s

theorem mul_neg' {a b : Int} (ha0 : 0 ≤ a) (ha : a < 18446744073709551616) : fop .mul (negI a) b = negI (fop .mul a b) := by
  unfold fop
  cases hn : nanB a
  · have e : floatBits .mul .f64 (negI a).toNat b.toNat = (((Ieee.double.read a.toNat).product (Ieee.double.read b.toNat)).map Ieee.Datum.opposite).map Ieee.double.write := by
      show ((Ieee.double.read _).product (Ieee.double.read _)).map _ = _
      rw [read_neg ha0 ha hn, product_opposite]; rfl
    have e2 : floatBits .mul .f64 a.toNat b.toNat = ((Ieee.double.read a.toNat).product (Ieee.double.read b.toNat)).map Ieee.double.write := rfl
    rw [e, e2]
    cases hp : (Ieee.double.read a.toNat).product (Ieee.double.read b.toNat) with
    | none => exact (negI_nan nan_none).symm
    | some d => exact write_neg d (product_plain _ _ _ hp)
  · obtain ⟨s, t, h⟩ := read_nan ha0 hn
    obtain ⟨s2, t2, h2⟩ := read_nan (b := noneB) (by decide) nan_none
    have e : floatBits .mul .f64 (negI a).toNat b.toNat = none := by
      show ((Ieee.double.read _).product (Ieee.double.read _)).map _ = _
      rw [negI_nan hn, h2, product_nan]; rfl
    have e2 : floatBits .mul .f64 a.toNat b.toNat = none := by
      show ((Ieee.double.read _).product (Ieee.double.read _)).map _ = _
      rw [h, product_nan]; rfl
    rw [e, e2]
    exact (negI_nan nan_none).symm

set_option maxRecDepth 100000 in
set_option maxHeartbeats 1000000 in
theorem law_BitsTurns (a : Int) (ha0 : 0 ≤ a) (ha : a < 18446744073709551616) (b : Int) (hb0 : 0 ≤ b) (hb : b < 18446744073709551616) (w : World) (htab : tab w) :
    Calls Tryd.prog 14 #[.int .u64 a, .int .u64 b] w fun e w' => e = .returned (.bool true) ∧ Below w.heap.size w w' := by
  have K := Lib.hid htab
  have na0 := negI_nonneg ha0
  have na1 := negI_lt ha
  have A1 := Lib.hid (fun w => add_any a b w)
  have A2 : Hid (∀ w, Calls Tryd.prog 15 #[.int .u64 b, .int .u64 a] w fun e w' => e = .returned (.int .u64 (fop .add a b)) ∧ Below w.heap.size w w') := fun w => by rw [add_turn a b]; exact add_any b a w
  have M1 := Lib.hid (fun w => mul_any a b w)
  have M2 : Hid (∀ w, Calls Tryd.prog 19 #[.int .u64 b, .int .u64 a] w fun e w' => e = .returned (.int .u64 (fop .mul a b)) ∧ Below w.heap.size w w') := fun w => by rw [mul_turn a b]; exact mul_any b a w
  have S1 := Lib.hid (fun w => sub_any a b w)
  have NB := Lib.hid (fun w => neg_any b hb0 hb w)
  have A3 : Hid (∀ w, Calls Tryd.prog 15 #[.int .u64 a, .int .u64 (negI b)] w fun e w' => e = .returned (.int .u64 (fop .sub a b)) ∧ Below w.heap.size w w') := fun w => by rw [sub_turn hb0 hb]; exact add_any a (negI b) w
  have NA := Lib.hid (fun w => neg_any a ha0 ha w)
  have NN := Lib.hid (fun w => neg_any (negI a) na0 na1 w)
  have SS : Hid (∀ w, Calls Tryd.prog 32 #[.int .u64 (negI (negI a)), .int .u64 a] w fun e w' => e = .returned (.bool true) ∧ w = w') := fun w => by rw [← neg_neg' ha0 ha]; exact same_any _ a (negI_nonneg na0) (negI_lt na1) ha0 ha w
  have M3 : Hid (∀ w, Calls Tryd.prog 19 #[.int .u64 (negI a), .int .u64 b] w fun e w' => e = .returned (.int .u64 (negI (fop .mul a b))) ∧ Below w.heap.size w w') := fun w => by rw [← mul_neg' ha0 ha]; exact mul_any (negI a) b w
  have NM := Lib.hid (fun w => neg_any (fop .mul a b) (fop_nonneg _ _ _) (fop_lt _ _ _) w)
  clear htab na0 na1
  go_enter Tryd.func14, Tryd.ntmps14
  go_wp2_with fail
  refine (A1.out _).mono ?_
  rintro e w1 ⟨rfl, hB1⟩
  go_wp2_with fail
  refine (A2.out _).mono ?_
  rintro e w2 ⟨rfl, hB2⟩
  go_wp2_with fail
  refine (M1.out _).mono ?_
  rintro e w3 ⟨rfl, hB3⟩
  go_wp2_with fail
  refine (M2.out _).mono ?_
  rintro e w4 ⟨rfl, hB4⟩
  go_wp2_with fail
  refine (S1.out _).mono ?_
  rintro e w5 ⟨rfl, hB5⟩
  go_wp2_with fail
  refine (NB.out _).mono ?_
  rintro e w' ⟨rfl, rfl⟩
  go_wp2_with fail
  refine (A3.out _).mono ?_
  rintro e w6 ⟨rfl, hB6⟩
  go_wp2_with fail
  refine (NA.out _).mono ?_
  rintro e w' ⟨rfl, rfl⟩
  go_wp2_with fail
  refine (NN.out _).mono ?_
  rintro e w' ⟨rfl, rfl⟩
  go_wp2_with fail
  refine (SS.out _).mono ?_
  rintro e w' ⟨rfl, rfl⟩
  go_wp2_with fail
  refine (NA.out _).mono ?_
  rintro e w' ⟨rfl, rfl⟩
  go_wp2_with fail
  refine (M3.out _).mono ?_
  rintro e w7 ⟨rfl, hB7⟩
  go_wp2_with fail
  refine (M1.out _).mono ?_
  rintro e w8 ⟨rfl, hB8⟩
  go_wp2_with fail
  refine (NM.out _).mono ?_
  rintro e w' ⟨rfl, rfl⟩
  go_wp2_with fail
  refine (works_any _ (tab_below K.out (below_trans (below_trans (below_trans (below_trans (below_trans (below_trans (below_trans hB1 hB2) hB3) hB4) hB5) hB6) hB7) hB8))).mono ?_
  rintro e w9 ⟨rfl, hB9⟩
  go_wp2_with fail
  go_ret
  exact ⟨rfl, (below_trans (below_trans (below_trans (below_trans (below_trans (below_trans (below_trans (below_trans hB1 hB2) hB3) hB4) hB5) hB6) hB7) hB8) hB9)⟩
end Go.Proofs.YtmepgpiihhilaaaDoor
