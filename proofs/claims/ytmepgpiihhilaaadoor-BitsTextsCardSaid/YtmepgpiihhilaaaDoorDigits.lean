/- Digits read, by the program: what the floats come to. -/
import Derived.Test.YtmepgpiihhilaaaDoorText
namespace Go.Proofs.YtmepgpiihhilaaaDoor
open Go.RowKit

/-- What a byte counts as a digit; 16: none. -/
def digB (c : Int) : Int := if 48 ≤ c ∧ c ≤ 57 then c - 48 else if 97 ≤ c ∧ c ≤ 102 then c - 97 + 10 else if 65 ≤ c ∧ c ≤ 70 then c - 65 + 10 else 16
def capB (c : Int) : Bool := decide (65 ≤ c) && decide (c ≤ 90)

theorem digB_lo (c : Int) : 0 ≤ digB c := by unfold digB; split <;> (try split) <;> (try split) <;> omega
theorem digB_hi (c : Int) : digB c ≤ 16 := by unfold digB; split <;> (try split) <;> (try split) <;> omega

set_option maxHeartbeats 400000 in
theorem digit_any (c : Int) (h0 : 0 ≤ c) (h1 : c < 256) (w : World) :
    Calls Tryd.prog 85 #[.int .u8 c] w fun e w' => e = .returned (.int .i64 (digB c)) ∧ w = w' := by
  have HD : Hid (digB c = if 48 ≤ c ∧ c ≤ 57 then c - 48 else if 97 ≤ c ∧ c ≤ 102 then c - 97 + 10 else if 65 ≤ c ∧ c ≤ 70 then c - 65 + 10 else 16) := rfl
  generalize digB c = d at *
  go_enter Tryd.func85, Tryd.ntmps85
  go_wp2
  all_goals
    go_ret
    refine ⟨ret_int ?_, rfl⟩
    rw [HD.out]
    repeat' split
    all_goals first | omega | rfl | (exfalso; omega)

set_option maxHeartbeats 400000 in
theorem isCapital_any (c : Int) (h0 : 0 ≤ c) (h1 : c < 256) (w : World) :
    Calls Tryd.prog 84 #[.int .u8 c] w fun e w' => e = .returned (.bool (capB c)) ∧ w = w' := by
  have HD : Hid (capB c = (decide (65 ≤ c) && decide (c ≤ 90))) := rfl
  generalize capB c = d at *
  go_enter Tryd.func84, Tryd.ntmps84
  go_wp2
  all_goals
    go_ret
    refine ⟨ret_bool ?_, rfl⟩
    rw [HD.out]
    first | rfl | (simp; omega)

/-- A number that is none below nought, and is a number. -/
def good (x : Nat) : Prop := x ≤ 9218868437227405312

theorem nearest_good (m : Nat) (p : Int) : good (Ieee.double.nearest false m p) := by
  unfold good Ieee.Format.nearest
  dsimp only
  split
  · unfold Ieee.Format.word; simp
  · unfold Ieee.Format.word
    rw [dbl_inf]
    simp only [Bool.false_eq_true, if_false]
    exact Nat.min_le_right _ _

theorem read_good {x : Nat} (h : good x) : Ieee.double.read x = .infinity false ∨ ∃ m e, Ieee.double.read x = .number false m e := by
  unfold good at h
  have hs : (x / 9223372036854775808 % 2 == 1) = false := by rw [beq_eq_false_iff_ne]; omega
  rcases read_cases x with ⟨h1, _⟩ | ⟨_, h1⟩ | ⟨_, h1⟩
  · omega
  · rw [hs] at h1; exact .inl h1
  · rw [hs] at h1; exact .inr ⟨_, _, h1⟩

theorem write_good_inf : good (Ieee.double.write (.infinity false)) := by unfold good; decide

theorem mul_good {x y : Nat} (hx : good x) {m : Nat} {e : Int} (hy : Ieee.double.read y = .number false m e) (hm : m ≠ 0) : ∃ r, Ieee.double.mul x y = some r ∧ good r := by
  unfold Ieee.Format.mul
  rw [hy]
  rcases read_good hx with h | ⟨n, f, h⟩
  · rw [h]
    refine ⟨Ieee.double.write (.infinity false), ?_, write_good_inf⟩
    simp [Ieee.Datum.product, hm]
  · rw [h]
    exact ⟨_, rfl, nearest_good _ _⟩

theorem add_good {x y : Nat} (hx : good x) (hy : good y) : ∃ r, Ieee.double.add x y = some r ∧ good r := by
  unfold Ieee.Format.add
  rcases read_good hx with h | ⟨n, f, h⟩ <;> rcases read_good hy with h' | ⟨n', f', h'⟩ <;> rw [h, h']
  · exact ⟨_, rfl, write_good_inf⟩
  · exact ⟨_, rfl, write_good_inf⟩
  · exact ⟨_, rfl, write_good_inf⟩
  · refine ⟨_, rfl, ?_⟩
    show good (Ieee.double.nearest _ _ _)
    have hsum : ∀ a b : Nat, ∀ i j : Nat, 0 ≤ Ieee.signed false a i + Ieee.signed false b j := by
      intro a b i j
      unfold Ieee.signed
      simp only [Bool.false_eq_true, if_false]
      exact Int.add_nonneg (Int.natCast_nonneg _) (Int.natCast_nonneg _)
    have hn := hsum n n' (f - min f f').toNat (f' - min f f').toNat
    have e : (if Ieee.signed false n (f - min f f').toNat + Ieee.signed false n' (f' - min f f').toNat = 0 then (false && false) else decide (Ieee.signed false n (f - min f f').toNat + Ieee.signed false n' (f' - min f f').toNat < 0)) = false := by
      split
      · rfl
      · exact decide_eq_false (by omega)
    rw [e]
    exact nearest_good _ _

def stepF (base : Int) (acc : Nat) (d : Int) : Nat := ((Ieee.double.mul acc (floatOfInt .f64 base)).bind fun p => Ieee.double.add p (floatOfInt .f64 d)).getD 0

theorem of_good {d : Int} (h : 0 ≤ d) : good (floatOfInt .f64 d) := by
  show good (Ieee.double.nearest (d < 0) d.natAbs 0)
  rw [show decide (d < 0) = false from decide_eq_false (by omega)]
  exact nearest_good _ _

theorem base_read {base : Int} (hb : base = 10 ∨ base = 16) : ∃ m e, Ieee.double.read (floatOfInt .f64 base) = .number false m e ∧ m ≠ 0 := by
  rcases hb with rfl | rfl
  · exact ⟨5629499534213120, -49, by decide +kernel, by decide⟩
  · exact ⟨4503599627370496, -48, by decide +kernel, by decide⟩

/-- One digit more: both floats are told. -/
theorem step_good {base : Int} (hb : base = 10 ∨ base = 16) {x : Nat} (hx : good x) {d : Int} (hd : 0 ≤ d) :
    ∃ p, floatBits .mul .f64 x (floatOfInt .f64 base) = some p ∧ floatBits .add .f64 p (floatOfInt .f64 d) = some (stepF base x d) ∧ good (stepF base x d) := by
  obtain ⟨m, e, h1, h2⟩ := base_read hb
  obtain ⟨p, h3, h4⟩ := mul_good hx h1 h2
  obtain ⟨r, h5, h6⟩ := add_good h4 (of_good hd)
  have hr : stepF base x d = r := by unfold stepF; rw [h3]; show (Ieee.double.add p _).getD 0 = r; rw [h5]; rfl
  rw [hr]
  exact ⟨p, h3, h5, h6⟩

def sumF (base : Int) : List UInt8 → Nat → Option Nat
  | [], acc => some acc
  | c :: l, acc => if digB c.toNat < base then sumF base l (stepF base acc (digB c.toNat)) else none
def digitsI (base : Int) (l : List UInt8) : Int := if l = [] then noneB else match sumF base l 0 with | some x => canon x | none => noneB

theorem drop_cons' {l : List UInt8} {k : Nat} (h : k < l.length) : l.drop k = l[k] :: l.drop (k + 1) := List.drop_eq_getElem_cons h

set_option maxRecDepth 100000 in
set_option maxHeartbeats 1000000 in
theorem parseDigits_any (s : ByteArray) (hs : s.size ≤ 9223372036854775807) (base : Int) (hb : base = 10 ∨ base = 16) (w : World) :
    Calls Tryd.prog 69 #[.string s, .int .i64 base] w fun e w' => e = .returned (.int .u64 (digitsI base s.data.toList)) ∧ w = w' := by
  have hb1 : 10 ≤ base := by omega
  have hb2 : base ≤ 16 := by omega
  have HB := Lib.hid hb
  clear hb
  by_cases h0 : s.size = 0
  · have hl : s.data.toList = [] := by
      have : s.data.toList.length = 0 := by simpa using h0
      exact List.eq_nil_of_length_eq_zero this
    have HR : Hid (digitsI base s.data.toList = noneB) := by show _ = _; unfold digitsI; rw [if_pos hl]
    have h1 : s.toList.isEmpty = true := by rw [Lib.toList_data, hl]; rfl
    clear hl h0
    go_enter Tryd.func69, Tryd.ntmps69
    go_wp2
    go_ret
    exact ⟨ret_int HR.out.symm, rfl⟩
  · have hl : s.data.toList ≠ [] := by
      intro h
      have : s.data.toList.length = 0 := by rw [h]; rfl
      exact h0 (by simpa using this)
    have h1 : s.toList.isEmpty = false := by rw [Lib.toList_data]; cases hh : s.data.toList with | nil => exact absurd hh hl | cons => rfl
    have HR : Hid (digitsI base s.data.toList = match sumF base s.data.toList 0 with | some x => canon x | none => noneB) := by show _ = _; unfold digitsI; rw [if_neg hl]
    clear hl h0
    go_enter Tryd.func69, Tryd.ntmps69
    go_wp2
    go_loop [5, 12] (fun v i => ∃ x k : Nat, v = .float .f64 x ∧ i = .int .i64 (k : Int) ∧ k ≤ s.size ∧ Hid (good x ∧ sumF base s.data.toList 0 = sumF base (s.data.toList.drop k) x)) (fun _ i => s.size - (intOf i).toNat)
    case atStart => exact ⟨0, 0, rfl, rfl, Nat.zero_le _, by unfold good; omega, by rw [List.drop_zero]⟩
    case round =>
      obtain ⟨x, k, rfl, rfl, hk, HS⟩ := hrel
      by_cases hlt : k < s.size
      · have hll : k < s.data.toList.length := by rw [← Lib.size_eq]; exact hlt
        have hc0 : (0 : Int) ≤ (s[k].toNat : Int) := Int.natCast_nonneg _
        have hc1 : (s[k].toNat : Int) < 256 := by have := s[k].toNat_lt; omega
        have C := Lib.hid (fun w => digit_any (s[k].toNat : Int) hc0 hc1 w)
        have hdl := digB_lo (s[k].toNat : Int)
        have hdh := digB_hi (s[k].toNat : Int)
        have hdrop : s.data.toList.drop k = s[k] :: s.data.toList.drop (k + 1) := drop_cons' hll
        obtain ⟨p, f1, f2, f3⟩ := step_good HB.out HS.out.1 hdl
        have hm := fun t w => run_float_arith (P := Tryd.prog) w .mul t .f64 x (floatOfInt .f64 base) p f1
        have ha := fun t w => run_float_arith (P := Tryd.prog) w .add t .f64 p (floatOfInt .f64 (digB (s[k].toNat : Int))) _ f2
        have HN : Hid (sumF base (s.data.toList.drop k) x = if digB (s[k].toNat : Int) < base then sumF base (s.data.toList.drop (k + 1)) (stepF base x (digB (s[k].toNat : Int))) else none) := by
          show _ = _; rw [hdrop, sumF]
        have HG := Lib.hid f3
        generalize hdd : digB (s[k].toNat : Int) = d at *
        generalize stepF base x d = y at *
        clear f1 f2 f3 hdrop hdd
        by_cases hlow : d < base
        · go_wp2_with (go_at_call 85; refine (C.out _).mono ?_; rintro e w' ⟨rfl, rfl⟩)
          refine ⟨⟨y, k + 1, rfl, by go_num, by omega, HG.out, ?_⟩, by simp [intOf]; omega⟩
          rw [HS.out.2, HN.out, if_pos hlow]
        · go_wp2_with (go_at_call 85; refine (C.out _).mono ?_; rintro e w' ⟨rfl, rfl⟩)
          go_ret
          exact ⟨ret_int (by rw [HR.out, HS.out.2, HN.out, if_neg (by omega)]; rfl), rfl⟩
      · have HN : Hid (sumF base (s.data.toList.drop k) x = some x) := by
          show _ = _
          rw [List.drop_eq_nil_of_le (by rw [← Lib.size_eq]; omega), sumF]
        have hk2 : k = s.size := by omega
        clear hk2
        go_wp2_with (go_at_call 47; refine (pack_any _ _).mono ?_; rintro e w' ⟨rfl, rfl⟩)
        go_ret
        exact ⟨ret_int (by rw [HR.out, HS.out.2, HN.out]), rfl⟩
end Go.Proofs.YtmepgpiihhilaaaDoor
