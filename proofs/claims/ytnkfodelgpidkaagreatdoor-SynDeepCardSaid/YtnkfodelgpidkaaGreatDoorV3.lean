/- Part of a proof that the program keeps SynDeep: contracts of its functions and of the document's. -/
import Derived.Test.YtnkfodelgpidkaaGreatDoorV2
import Derived.Lib.SlTrimSet
import Derived.Lib.AppendIntMem
import Derived.Lib.ItoaLen
import Derived.Deep.RegionWith
set_option maxRecDepth 100000
set_option maxHeartbeats 4000000
set_option linter.unusedVariables false
set_option linter.unusedSimpArgs false
namespace Go.Proofs.YtnkfodelgpidkaaGreatDoor.Bt
open Go.RowKit
def digB (c : Int) : Int := if 48 ≤ c ∧ c ≤ 57 then c - 48 else if 97 ≤ c ∧ c ≤ 102 then c - 97 + 10 else if 65 ≤ c ∧ c ≤ 70 then c - 65 + 10 else 16
def capB (c : Int) : Bool := decide (65 ≤ c) && decide (c ≤ 90)
def good (x : Nat) : Prop := x ≤ 9218868437227405312
def stepF (base : Int) (acc : Nat) (d : Int) : Nat := ((Ieee.double.mul acc (floatOfInt .f64 base)).bind fun p => Ieee.double.add p (floatOfInt .f64 d)).getD 0
def sumF (base : Int) : List UInt8 → Nat → Option Nat
 | [], acc => some acc
 | c :: l, acc => if digB c.toNat < base then sumF base l (stepF base acc (digB c.toNat)) else none
def digitsI (base : Int) (l : List UInt8) : Int := if l = [] then noneB else match sumF base l 0 with | some x => canon x | none => noneB
end Go.Proofs.YtnkfodelgpidkaaGreatDoor.Bt
namespace Go.Proofs.YtnkfodelgpidkaaGreatDoor.Bt
open Go.RowKit
def hexV : List UInt8 → Nat → Option Nat
 | [], acc => some acc
 | c :: l, acc => if capB c.toNat = true ∨ digB c.toNat = 16 then none else hexV l (acc * 16 + (digB c.toNat).toNat)
def parseBitsI (l : List UInt8) : Int := if l.length ≠ 16 then noneB else match hexV l 0 with | some x => canon x | none => noneB
def infL : List UInt8 := [73, 110, 102, 105, 110, 105, 116, 121]
def plainI (l : List UInt8) : Int := if l = infL then 9218868437227405312 else digitsI 10 l
def parseT (l : List UInt8) : Int :=
 match l with
 | [] => 0
 | c :: r =>
  if c = 126 then parseBitsI r
  else if Lib.hasPrefix (c :: r) [48, 120] = true ∨ Lib.hasPrefix (c :: r) [48, 88] = true then digitsI 16 ((c :: r).drop 2)
  else if c = 45 then negI (plainI r)
  else if c = 43 then plainI r
  else plainI (c :: r)
def parseI (l : List UInt8) : Int := parseT (Lib.trimS l [32, 9, 13, 10])
end Go.Proofs.YtnkfodelgpidkaaGreatDoor.Bt
namespace Go.Proofs.YtnkfodelgpidkaaGreatDoor.Bt
open Go.RowKit
theorem tab_below {w w' : World} (h : tab w) (hb : Below w.heap.size w w') : tab w' := Lib.tabBelow_of_tabIs h w' hb
theorem below_trans {w a b : World} (h : Below w.heap.size w a) (k : Below a.heap.size a b) : Below w.heap.size w b := h.trans (k.mono h.size)
end Go.Proofs.YtnkfodelgpidkaaGreatDoor.Bt
namespace Go.Proofs.YtnkfodelgpidkaaGreatDoor.Bt
open Go.RowKit
theorem shr63 {b : Int} (h0 : 0 ≤ b) (h1 : b < 18446744073709551616) {v : Bool} (hs : (b / 9223372036854775808 == 1) = v) : 9223372036854775808 ≤ b ↔ v = true := by
 subst hs
 rw [beq_iff_eq]; omega
theorem inside_of {x : Nat} (h : expI x ≤ 0) : insideN x = true := by
 unfold expI at h
 unfold insideN
 apply decide_eq_true
 split at h <;> omega
theorem odd_not_pure {x m : Nat} {e : Int} (h1 : expI x ≤ e) (h2 : e < 0) (hm : mantN x = m * 2 ^ (e - expI x).toNat) (ho : m % 2 = 1) : pureN x = false := by
 unfold pureN
 rw [decide_eq_false (by omega), Bool.false_or, beq_eq_false_iff_ne, hm]
 have e1 : (-expI x).toNat = ((-e).toNat - 1) + 1 + (e - expI x).toNat := by omega
 rw [e1, Nat.pow_add, Nat.mul_mod_mul_right]
 intro h
 rcases Nat.mul_eq_zero.1 h with h | h
 ·rw [Nat.pow_succ] at h
  have hdm := Nat.div_add_mod m (2 ^ ((-e).toNat - 1) * 2)
  rw [h, Nat.add_zero] at hdm
  have : m % 2 = 0 := by rw [← hdm, Nat.mul_assoc, Nat.mul_comm 2, ← Nat.mul_assoc]; exact Nat.mul_mod_left _ _
  omega
 ·exact absurd h (Nat.ne_of_gt (Nat.two_pow_pos _))
theorem even_step {x m : Nat} {e : Int} (h1 : expI x ≤ e) (hm : mantN x = m * 2 ^ (e - expI x).toNat) (ho : m % 2 = 0) : mantN x = m / 2 * 2 ^ (e + 1 - expI x).toNat := by
 have e1 : (e + 1 - expI x).toNat = 1 + (e - expI x).toNat := by omega
 rw [e1, Nat.pow_add, ← Nat.mul_assoc, hm]
 congr 1; omega
theorem whole_low {x m : Nat} (h1 : expI x ≤ 0) (hm : mantN x = m * 2 ^ (0 - expI x).toNat) : pureN x = true ∧ cutN x = m ∧ insideN x = true := by
 refine ⟨?_, ?_, inside_of h1⟩
 ·unfold pureN
  by_cases h : 0 ≤ expI x
  ·rw [decide_eq_true h, Bool.true_or]
  ·rw [decide_eq_false h, Bool.false_or, beq_iff_eq, hm, show (-expI x).toNat = (0 - expI x).toNat by omega]
   exact Nat.mul_mod_left _ _
 ·unfold cutN
  rw [show (expI x).toNat = 0 by omega, Nat.pow_zero, Nat.mul_one, hm, show (-expI x).toNat = (0 - expI x).toNat by omega]
  exact Nat.mul_div_cancel _ (Nat.two_pow_pos _)
theorem whole_nought {x : Nat} (h1 : expI x ≤ 0) (hm : mantN x = 0) : pureN x = true ∧ cutN x = 0 ∧ insideN x = true :=
 whole_low h1 (by rw [hm, Nat.zero_mul])
theorem high_mant {x : Nat} (h : 0 < expI x) : 4503599627370496 ≤ mantN x := by
 unfold expI at h
 unfold mantN
 split at h
 ·omega
 ·rename_i hf; rw [if_neg hf]; omega
theorem not_inside {x : Nat} (h : 1 < expI x ∨ (expI x = 1 ∧ mantN x ≠ 4503599627370496)) : insideN x = false := by
 unfold expI mantN at h
 unfold insideN
 apply decide_eq_false
 split at h <;> omega
theorem inside_one {x : Nat} (h : expI x = 1) (hm : mantN x = 4503599627370496) (hlt : x < 18446744073709551616) : insideN x = true ∧ pureN x = true ∧ cutN x = 9007199254740992 := by
 refine ⟨?_, ?_, ?_⟩
 ·unfold expI at h
  unfold mantN at hm
  unfold insideN
  apply decide_eq_true
  split at h
  ·omega
  ·rename_i hf
   rw [if_neg hf] at hm
   omega
 ·unfold pureN; rw [decide_eq_true (by omega), Bool.true_or]
 ·unfold cutN; rw [h, hm]; decide
theorem whole_false {b : Int} {x : Nat} (hx : b.toNat = x) (h : insideN x = false ∨ pureN x = false) : wholeB b = false ∧ wholeV b = 0 := by
 have e : wholeB b = false := by
  unfold wholeB
  rw [hx]
  rcases h with h | h
  ·rw [h, Bool.false_and]
  ·rw [h, Bool.and_false]
 refine ⟨e, ?_⟩
 unfold wholeV; rw [if_neg (by rw [e]; decide)]
theorem whole_true {b : Int} {x m : Nat} (hx : b.toNat = x) (h : pureN x = true ∧ cutN x = m ∧ insideN x = true) : wholeB b = true ∧ wholeV b = if 9223372036854775808 ≤ b then -(m : Int) else m := by
 have e : wholeB b = true := by
  unfold wholeB
  rw [hx, h.1, h.2.2]; rfl
 refine ⟨e, ?_⟩
 unfold wholeV
 rw [if_pos e, hx, h.2.1]
theorem nan_not_inside {b : Int} (hb0 : 0 ≤ b) (h : nanB b = true ∨ infB b = true) : insideN b.toNat = false := by
 unfold insideN
 apply decide_eq_false
 rcases h with h | h
 ·have := of_decide_eq_true h
  omega
 ·unfold infB at h
  have := beq_iff_eq.1 h
  omega
theorem ret_whole {b : Int} {r : Int} {v : Bool} (h0 : 0 ≤ b) (h1 : b < 18446744073709551616) {m : Int} (hs : (b / 9223372036854775808 == 1) = v)
  (H : wholeB b = true ∧ wholeV b = if 9223372036854775808 ≤ b then -m else m) (hr : r = if v = true then -m else m) :
  Ending.returned (.tuple #[.int .i64 r, .bool true]) = .returned (.tuple #[.int .i64 (wholeV b), .bool (wholeB b)]) := by
 rw [H.1, H.2, hr]
 simp only [shr63 h0 h1 hs]
theorem rwhole_any (b : Int) (hb0 : 0 ≤ b) (hb : b < 18446744073709551616) (w : World) :
    Calls Tryz.prog 187 #[.int .u64 b] w fun e w' => e = .returned (.tuple #[.int .i64 (wholeV b), .bool (wholeB b)]) ∧ w = w' := by
  by_cases h1 : nanB b = true ∨ infB b = true
  · have HF : Hid (wholeB b = false ∧ wholeV b = 0) := whole_false rfl (.inl (nan_not_inside hb0 h1))
    go_enter Tryz.func187, Tryz.ntmps187
    go_wp2_with (first | (go_at_call 188; refine (isNaN_any _ (by omega) (by omega) _).mono ?_; rintro e w' ⟨rfl, rfl⟩) | (go_at_call 189; refine (isInf_any _ (by omega) (by omega) _).mono ?_; rintro e w' ⟨rfl, rfl⟩) | (go_at_call 217; refine (rparts_any _ (by omega) (by omega) _).mono ?_; rintro e w' ⟨rfl, rfl⟩))
    all_goals first | (go_ret2; exact ⟨by rw [HF.out.1, HF.out.2]; rfl, rfl⟩) | (exfalso; simp_all; done)
  · simp only [not_or, Bool.not_eq_true] at h1
    obtain ⟨n1, n2⟩ := h1
    have b1 := man_nonneg b
    have b2 := man_lt b
    have b3 := pow_lo b
    have b4 := pow_hi n1 n2
    obtain ⟨x, hx⟩ : ∃ x : Nat, b.toNat = x := ⟨_, rfl⟩
    have hxb : b = (x : Int) := by omega
    have HM : Hid (manI b = (mantN x : Int)) := by show _ = _; rw [hxb]; exact man_nat x
    have HE : Hid (powI b = expI x) := by show _ = _; rw [hxb]; exact pow_nat x
    have HX := Lib.hid hx
    have HXL : Hid (x < 18446744073709551616) := by show _ < _; omega
    clear hx hxb
    by_cases hp : 0 < powI b
    · have hmant : 4503599627370496 ≤ manI b := by have := high_mant (x := x) (by rw [← HE.out]; exact hp); rw [HM.out]; omega
      go_enter Tryz.func187, Tryz.ntmps187
      go_wp2_with (first | (go_at_call 188; refine (isNaN_any _ (by omega) (by omega) _).mono ?_; rintro e w' ⟨rfl, rfl⟩) | (go_at_call 189; refine (isInf_any _ (by omega) (by omega) _).mono ?_; rintro e w' ⟨rfl, rfl⟩) | (go_at_call 217; refine (rparts_any _ (by omega) (by omega) _).mono ?_; rintro e w' ⟨rfl, rfl⟩))
      refine wp_loop_rounds 1 ?_
      rw [rounds_succ]
      go_wp2
      go_loop [4, 5] (fun v f => ∃ m e : Int, v = .int .u64 m ∧ f = .int .i64 e ∧ 0 ≤ e ∧ e ≤ 971 ∧ 4503599627370496 ≤ m ∧ m ≤ 18014398509481984 ∧ Hid ((e = powI b ∧ m = manI b) ∨ (e = powI b - 1 ∧ m = 2 * manI b) ∨ (e = powI b - 2 ∧ m = 18014398509481984))) (fun _ f => (intOf f).toNat)
      case atStart => exact ⟨manI b, powI b, rfl, rfl, by omega, by omega, hmant, by omega, .inl ⟨rfl, rfl⟩⟩
      case round =>
        obtain ⟨m, e, rfl, rfl, he1, he2, hm1, hm2, HK⟩ := hrel
        by_cases g1 : 0 < e
        · by_cases g2 : 9007199254740992 < m
          · have HF : Hid (wholeB b = false ∧ wholeV b = 0) := whole_false HX.out (.inl (not_inside (.inl (by rw [← HE.out]; rcases HK.out with h | h | h <;> omega))))
            go_wp2
            go_ret2
            exact ⟨by rw [HF.out.1, HF.out.2]; rfl, rfl⟩
          · go_wp2
            refine ⟨⟨m * 2, e - 1, rfl, rfl, by omega, by omega, by omega, by omega, ?_⟩, by simp [intOf]; omega⟩
            rcases HK.out with h | h | h
            · exact .inr (.inl (by omega))
            · exact .inr (.inr (by omega))
            · omega
        · by_cases g2 : 9007199254740992 < m
          · have HF : Hid (wholeB b = false ∧ wholeV b = 0) := whole_false HX.out (.inl (not_inside (by
              rw [← HE.out]
              have := HM.out
              rcases HK.out with h | h | h
              · omega
              · exact .inr ⟨by omega, by omega⟩
              · exact .inl (by omega))))
            go_wp2
            go_ret2
            exact ⟨by rw [HF.out.1, HF.out.2]; rfl, rfl⟩
          · have hone : powI b = 1 ∧ manI b = 4503599627370496 ∧ m = 9007199254740992 := by rcases HK.out with h | h | h <;> omega
            have HT : Hid (wholeB b = true ∧ wholeV b = if 9223372036854775808 ≤ b then -m else m) := by
              have h1 := inside_one (x := x) (by rw [← HE.out]; exact hone.1) (by have := HM.out; omega) HXL.out
              have h2 := whole_true HX.out ⟨h1.2.1, h1.2.2, h1.1⟩
              show _ ∧ _
              rw [hone.2.2]; exact h2
            clear hone HK
            go_wp2
            all_goals first
              | (have hs : (b / 9223372036854775808 == 1) = true := by assumption
                 go_ret2
                 exact ⟨ret_whole hb0 hb hs HT.out (by rfl), rfl⟩)
              | (have hs : (b / 9223372036854775808 == 1) = false := by assumption
                 go_ret2
                 exact ⟨ret_whole hb0 hb hs HT.out (by rfl), rfl⟩)
    · go_enter Tryz.func187, Tryz.ntmps187
      go_wp2_with (first | (go_at_call 188; refine (isNaN_any _ (by omega) (by omega) _).mono ?_; rintro e w' ⟨rfl, rfl⟩) | (go_at_call 189; refine (isInf_any _ (by omega) (by omega) _).mono ?_; rintro e w' ⟨rfl, rfl⟩) | (go_at_call 217; refine (rparts_any _ (by omega) (by omega) _).mono ?_; rintro e w' ⟨rfl, rfl⟩))
      go_loop [4, 5] (fun v f => ∃ m e : Int, v = .int .u64 m ∧ f = .int .i64 e ∧ 0 ≤ m ∧ m < 9007199254740992 ∧ powI b ≤ e ∧ e ≤ 0 ∧ Hid (mantN x = m.toNat * 2 ^ (e - expI x).toNat)) (fun _ f => (-intOf f).toNat)
      case atStart => exact ⟨manI b, powI b, rfl, rfl, b1, b2, by omega, by omega, by
        show _ = _
        rw [HE.out, HM.out, Int.sub_self, Int.toNat_natCast]; simp⟩
      case round =>
        obtain ⟨m, e, rfl, rfl, hm0, hm, he1, he2, HJ⟩ := hrel
        by_cases g1 : e < 0
        · by_cases g2 : 0 < m
          · by_cases g3 : m % 2 = 1
            · have hodd : (m % 2 == 1) = true := by rw [g3]; rfl
              have HF : Hid (wholeB b = false ∧ wholeV b = 0) := whole_false HX.out (.inr (odd_not_pure (by rw [← HE.out]; exact he1) g1 HJ.out (by omega)))
              clear g3
              go_wp2
              go_ret2
              exact ⟨by rw [HF.out.1, HF.out.2]; rfl, rfl⟩
            · have hodd : (m % 2 == 1) = false := by rw [beq_eq_false_iff_ne]; exact g3
              have HS : Hid (mantN x = m.toNat / 2 * 2 ^ (e + 1 - expI x).toNat) := even_step (by rw [← HE.out]; exact he1) HJ.out (by omega)
              clear g3
              go_wp2
              refine ⟨⟨m / 2, e + 1, rfl, rfl, by omega, by omega, by omega, by omega, ?_⟩, by simp [intOf]; omega⟩
              show _ = _
              rw [show (m / 2).toNat = m.toNat / 2 by omega]; exact HS.out
          · have hm2 : m = 0 := by omega
            have HT : Hid (wholeB b = true ∧ wholeV b = if 9223372036854775808 ≤ b then -m else m) := by
              have h2 := whole_true HX.out (whole_nought (by rw [← HE.out]; omega) (by rw [HJ.out, hm2]; simp))
              show _ ∧ _
              rw [hm2]; exact h2
            clear hm2
            go_wp2
            refine wp_loop_rounds 1 ?_
            rw [rounds_succ]
            go_wp2
            all_goals first
              | (have hs : (b / 9223372036854775808 == 1) = true := by assumption
                 go_ret2
                 exact ⟨ret_whole hb0 hb hs HT.out (by rfl), rfl⟩)
              | (have hs : (b / 9223372036854775808 == 1) = false := by assumption
                 go_ret2
                 exact ⟨ret_whole hb0 hb hs HT.out (by rfl), rfl⟩)
        · have he0 : e = 0 := by omega
          have HT : Hid (wholeB b = true ∧ wholeV b = if 9223372036854775808 ≤ b then -m else m) := by
            have h2 := whole_true HX.out (whole_low (m := m.toNat) (by rw [← HE.out]; omega) (by have := HJ.out; rw [he0] at this; exact this))
            show _ ∧ _
            rw [Int.toNat_of_nonneg hm0] at h2; exact h2
          clear he0
          go_wp2
          refine wp_loop_rounds 1 ?_
          rw [rounds_succ]
          go_wp2
          all_goals first
            | (have hs : (b / 9223372036854775808 == 1) = true := by assumption
               go_ret2
               exact ⟨ret_whole hb0 hb hs HT.out (by rfl), rfl⟩)
            | (have hs : (b / 9223372036854775808 == 1) = false := by assumption
               go_ret2
               exact ⟨ret_whole hb0 hb hs HT.out (by rfl), rfl⟩)
end Go.Proofs.YtnkfodelgpidkaaGreatDoor.Bt
namespace Go.Proofs.YtnkfodelgpidkaaGreatDoor.Bt
open Go.RowKit
end Go.Proofs.YtnkfodelgpidkaaGreatDoor.Bt
namespace Go.Proofs.YtnkfodelgpidkaaGreatDoor.Bt
open Go.RowKit
def ordS (b : Int) : Int := if 9223372036854775808 ≤ b then -(b % 9223372036854775808) else b % 9223372036854775808
def knownI (a b : Int) : Bool := !nanB a && !nanB b
def lessI (a b : Int) : Bool := knownI a b && decide (ordS a < ordS b)
def equalI (a b : Int) : Bool := knownI a b && (ordS a == ordS b)
def sameI (a b : Int) : Bool := (a == b) || (nanB a && nanB b)
end Go.Proofs.YtnkfodelgpidkaaGreatDoor.Bt
namespace Go.Proofs.YtnkfodelgpidkaaGreatDoor.Bt
open Go.RowKit
end Go.Proofs.YtnkfodelgpidkaaGreatDoor.Bt
namespace Go.Proofs.YtnkfodelgpidkaaGreatDoor.Bt
open Go.RowKit
structure Is (x : Nat) (neg : Bool) (c : Nat) : Prop where
 inside : insideN x = true
 pureX : pureN x = true
 cut : cutN x = c
 sign : x / 9223372036854775808 % 2 = 1 ↔ neg = true
 lt : x < 18446744073709551616
 mag : magN (x % 9223372036854775808) = c * 2 ^ kk
end Go.Proofs.YtnkfodelgpidkaaGreatDoor.Bt
namespace Go.Proofs.YtnkfodelgpidkaaGreatDoor.Bt
open Go.RowKit
end Go.Proofs.YtnkfodelgpidkaaGreatDoor.Bt
namespace Go.Proofs.YtnkfodelgpidkaaGreatDoor.Bt
open Go.RowKit
def sgnI (s : Bool) (c : Nat) : Int := if s then -(c : Int) else c
end Go.Proofs.YtnkfodelgpidkaaGreatDoor.Bt
namespace Go.Proofs.YtnkfodelgpidkaaGreatDoor.Bt
open Go.RowKit
end Go.Proofs.YtnkfodelgpidkaaGreatDoor.Bt
namespace Go.Proofs.YtnkfodelgpidkaaGreatDoor.Bt
open Go.RowKit
def valL (base : Nat) (l : List UInt8) (m : Nat) : Nat := l.foldl (fun a c => a * base + (digB c.toNat).toNat) m
/- Decimal digits. -/
/- Nothing is trimmed where no blank stands at either end. -/
end Go.Proofs.YtnkfodelgpidkaaGreatDoor.Bt
namespace Go.Proofs.YtnkfodelgpidkaaGreatDoor.Bt
open Go.RowKit
theorem tilde_list (b : Int) : (tildeS b).data.toList = 126 :: (hexS b).data.toList := by unfold tildeS; simp
end Go.Proofs.YtnkfodelgpidkaaGreatDoor.Bt
namespace Go.Proofs.YtnkfodelgpidkaaGreatDoor.Bt
open Go.RowKit
theorem append_list (a b : ByteArray) : (a ++ b).data.toList = a.data.toList ++ b.data.toList := by simp
theorem hex_char {d : Int} (h0 : 0 ≤ d) (h1 : d < 16) :
  (ByteArray.extract ⟨#[48, 49, 50, 51, 52, 53, 54, 55, 56, 57, 97, 98, 99, 100, 101, 102]⟩ d.toNat (d + 1).toNat).data.toList = [UInt8.ofNat (hexD d.toNat).toNat] ∧
  (digB ((UInt8.ofNat (hexD d.toNat).toNat).toNat : Int)).toNat = d.toNat ∧ digB ((UInt8.ofNat (hexD d.toNat).toNat).toNat : Int) < 16 ∧ 33 ≤ (UInt8.ofNat (hexD d.toNat).toNat).toNat := by
 have h3 : d = 0 ∨ d = 1 ∨ d = 2 ∨ d = 3 ∨ d = 4 ∨ d = 5 ∨ d = 6 ∨ d = 7 ∨ d = 8 ∨ d = 9 ∨ d = 10 ∨ d = 11 ∨ d = 12 ∨ d = 13 ∨ d = 14 ∨ d = 15 := by omega
 rcases h3 with rfl | rfl | rfl | rfl | rfl | rfl | rfl | rfl | rfl | rfl | rfl | rfl | rfl | rfl | rfl | rfl <;> decide +kernel
end Go.Proofs.YtnkfodelgpidkaaGreatDoor.Bt
namespace Go.Proofs.YtnkfodelgpidkaaGreatDoor.Bt
open Go.RowKit
theorem str_of {s : ByteArray} {l : List UInt8} (h : s.data.toList = l) : s = ⟨l.toArray⟩ := by rw [← Lib.mk_data s, h]
def decS (n : Int) : ByteArray := ⟨(Lib.decDigits n.toNat).toArray⟩
theorem decS_list (n : Int) : (decS n).data.toList = Lib.decDigits n.toNat := rfl
def hexC (d : Int) : ByteArray := ByteArray.extract ⟨#[48, 49, 50, 51, 52, 53, 54, 55, 56, 57, 97, 98, 99, 100, 101, 102]⟩ d.toNat (d + 1).toNat
theorem hexC_list {d : Int} (h0 : 0 ≤ d) (h1 : d < 10) : (hexC d).data.toList = [UInt8.ofNat (48 + d.toNat)] := by
 have h := (hex_char h0 (by omega)).1
 show (ByteArray.extract _ d.toNat (d + 1).toNat).data.toList = _
 rw [h]
 unfold hexD
 rw [if_pos (by omega)]
 congr 2
theorem dec_small' {n : Int} (h0 : 0 ≤ n) (h1 : n < 10) : hexC n = decS n := by
 refine str_of ?_
 rw [hexC_list h0 h1, Lib.decDigits, dif_pos (show n.toNat < 10 by omega)]
theorem dec_big {n : Int} (h : 10 ≤ n) : decS (n / 10) ++ hexC (n % 10) = decS n := by
 refine str_of ?_
 rw [append_list, decS_list, hexC_list (by omega) (by omega)]
 have e : Lib.decDigits n.toNat = Lib.decDigits (n.toNat / 10) ++ [UInt8.ofNat (48 + n.toNat % 10)] := by rw [Lib.decDigits, dif_neg (by omega)]
 rw [e, show (n / 10).toNat = n.toNat / 10 by omega, show (n % 10).toNat = n.toNat % 10 by omega]
theorem decS_size {n : Int} (h0 : 0 ≤ n) (h1 : n ≤ 9007199254740992) : (decS n).size ≤ 21 := by
 have := Lib.itoa_length_le n (by omega) (by omega)
 have e : Lib.itoa n = Lib.decDigits n.toNat := by unfold Lib.itoa; rw [if_neg (by omega)]
 rw [e] at this
 rw [Lib.size_eq, decS_list]; exact this
theorem rdig_nat (k : Nat) : ∀ (n : Int) (w : World), n ≤ k → 0 ≤ n → n ≤ 9007199254740992 →
  Calls Tryz.prog 190 #[.int .i64 n] w fun e w' => e = .returned (.string (decS n)) ∧ Below w.heap.size w w' := by
 induction k with
 | zero =>
  intro n w hk h0 h1
  have HD := Lib.hid (dec_small' (n := n) h0 (by omega))
  have h10 : n < 10 := by omega
  go_enter Tryz.func190, Tryz.ntmps190
  go_wp2_with fail
  go_ret
  exact ⟨congrArg (fun s => Ending.returned (.string s)) HD.out, Below.refl _ _⟩
 | succ k ih =>
  intro n w hk h0 h1
  by_cases h10 : n < 10
  ·have HD := Lib.hid (dec_small' (n := n) h0 (by omega))
   clear ih
   go_enter Tryz.func190, Tryz.ntmps190
   go_wp2_with fail
   go_ret
   exact ⟨congrArg (fun s => Ending.returned (.string s)) HD.out, Below.refl _ _⟩
  ·have I := Lib.hid (fun w => ih (n / 10) w (by omega) (by omega) (by omega))
   have hsz := decS_size (n := n / 10) (by omega) (by omega)
   have hcs : (hexC (n % 10)).size = 1 := by rw [Lib.size_eq, hexC_list (by omega) (by omega)]; rfl
   have hadd : ∀ W : World, (Op.stringOp .add (decS (n / 10)) (hexC (n % 10))).run Tryz.prog W = .ok (.string (decS n)) W := fun W => by
    rw [← dec_big (show 10 ≤ n by omega)]
    exact run_string_add_sum (P := Tryz.prog) (w := W) _ _ (by rw [hcs]; omega)
   have hw : IntKind.i64.wrap (n % 10 + 1) = n % 10 + 1 := IntWalk.i64_in _ (by omega)
   have hm : n.tmod 10 = n % 10 := Int.tmod_eq_emod_of_nonneg h0
   have hd : n.tdiv 10 = n / 10 := Int.tdiv_eq_ediv_of_nonneg h0
   have hw2 : IntKind.i64.wrap (n / 10) = n / 10 := IntWalk.i64_in _ (by omega)
   have hx : ByteArray.extract ⟨#[48, 49, 50, 51, 52, 53, 54, 55, 56, 57, 97, 98, 99, 100, 101, 102]⟩ (n % 10).toNat (n % 10 + 1).toNat = hexC (n % 10) := rfl
   have m0 : 0 ≤ n % 10 := by omega
   have m1 : n % 10 < 10 := by omega
   clear ih hcs hsz
   go_enter Tryz.func190, Tryz.ntmps190
   go_wp2_with fail
   go_region_with (go_at_call 190; refine (I.out _).mono ?_; rintro e w1 ⟨rfl, hB⟩)
   all_goals
    go_wp2
    go_ret
    exact ⟨rfl, below_trans (Below.refl _ _).drew hB⟩
theorem whole_dec {n : Int} (h : 0 ≤ n) : decS n = wholeS n := by
 refine (str_of ?_)
 show Lib.decDigits n.toNat = Lib.itoa n
 unfold Lib.itoa; rw [if_neg (by omega)]
theorem whole_neg {n : Int} (h : n < 0) : (⟨#[45]⟩ : ByteArray) ++ decS (-n) = wholeS n := by
 refine str_of ?_
 rw [append_list, decS_list]
 show 45 :: Lib.decDigits (-n).toNat = Lib.itoa n
 unfold Lib.itoa; rw [if_pos h, show (-n).toNat = n.natAbs by omega]
theorem rdig_any (n : Int) (h0 : -9007199254740992 ≤ n) (h1 : n ≤ 9007199254740992) (w : World) :
  Calls Tryz.prog 190 #[.int .i64 n] w fun e w' => e = .returned (.string (wholeS n)) ∧ Below w.heap.size w w' := by
 by_cases hn : n < 0
 ·have I := Lib.hid (fun w => rdig_nat (-n).toNat (-n) w (by omega) (by omega) (by omega))
  have hsz := decS_size (n := -n) (by omega) (by omega)
  have hadd : ∀ W : World, (Op.stringOp .add ⟨#[45]⟩ (decS (-n))).run Tryz.prog W = .ok (.string (wholeS n)) W := fun W => by
   rw [← whole_neg hn]
   exact run_string_add_sum (P := Tryz.prog) (w := W) _ _ (by show 1 + (decS (-n)).size ≤ _; omega)
  clear hsz
  go_enter Tryz.func190, Tryz.ntmps190
  go_wp2_with (go_at_call 190; refine (I.out _).mono ?_; rintro e w1 ⟨rfl, hB⟩)
  go_ret
  exact ⟨rfl, hB⟩
 ·rw [← whole_dec (by omega)]
  exact rdig_nat n.toNat n w (by omega) (by omega) h1
def lowHex (x : Nat) : Nat → List UInt8
 | 0 => []
 | i + 1 => UInt8.ofNat (hexD (x / 16 ^ i % 16)).toNat :: lowHex x i
theorem lowHex_all (x : Nat) : lowHex x 16 = (strOfNums (hexL x)).data.toList := by
 have h : ∀ i : Nat, lowHex x (i + 1) = UInt8.ofNat (hexD (x / 16 ^ i % 16)).toNat :: lowHex x i := fun _ => rfl
 have p0 : x / 16 ^ 0 = x := by simp
 rw [h, h, h, h, h, h, h, h, h, h, h, h, h, h, h, h, p0]
 rfl
theorem rtext_any (b : Int) (hb0 : 0 ≤ b) (hb : b < 18446744073709551616) (w : World) :
  Calls Tryz.prog 133 #[.int .u64 b] w fun e w' => e = .returned (.string (textI b)) ∧ Below w.heap.size w w' := by
 have c1 := isNaN_any b hb0 hb w
 have c2 := isInf_any b hb0 hb w
 have c3 := rwhole_any b hb0 hb w
 have wv := wholeV_lo (b := b)
 have c5 := rdig_any (wholeV b) (by omega) (by omega) w
 have HT : Hid (textI b = if nanB b = true then nanS else if infB b = true then (if 9223372036854775808 ≤ b then negInfS else infS) else if wholeB b = true then wholeS (wholeV b) else tildeS b) := rfl
 have SG : ∀ v, (b / 9223372036854775808 == 1) = v → ((9223372036854775808 ≤ b) ↔ v = true) := fun v hs => shr63 hb0 hb hs
 have SGH := Lib.hid SG
 have HTL : Hid ((tildeS b).data.toList = 126 :: lowHex b.toNat 16) := by show _ = _; rw [tilde_list, lowHex_all]; rfl
 have HX := Lib.hid (show b = (b.toNat : Int) by omega)
 generalize textI b = t at *
 generalize tildeS b = ts at *
 generalize b.toNat = x at HTL HX
 cases hn : nanB b
 ·cases hi : infB b
  ·cases hw : wholeB b
   ·rw [hn, hi, hw] at HT
    rw [hn] at c1
    rw [hi] at c2
    rw [hw] at c3
    have C1 := Lib.hid c1
    have C2 := Lib.hid c2
    have C3 := Lib.hid c3
    clear c1 c2 c3 c5 hn hi hw SG
    go_enter Tryz.func133, Tryz.ntmps133
    go_wp2_with (first | (go_at_call 188; refine C1.out.mono ?_; rintro e w' ⟨rfl, rfl⟩) | (go_at_call 189; refine C2.out.mono ?_; rintro e w' ⟨rfl, rfl⟩) | (go_at_call 187; refine C3.out.mono ?_; rintro e w' ⟨rfl, rfl⟩))
    go_loop [0, 5, 6] (fun v s f => ∃ (c : Int) (h : ByteArray) (i : Nat), v = .int .u64 c ∧ s = .string h ∧ f = .int .i64 (i : Int) ∧ i ≤ 16 ∧ 0 ≤ c ∧ c < 18446744073709551616 ∧ h.size ≤ 16 ∧ Hid (c = (x / 16 ^ i : Nat) ∧ h.data.toList = lowHex x i)) (fun _ _ f => (16 - intOf f).toNat)
    case atStart => exact ⟨b, ⟨#[]⟩, 0, rfl, rfl, rfl, by omega, hb0, hb, by show 0 ≤ 16; omega, ⟨by rw [HX.out]; simp, rfl⟩⟩
    case round =>
     obtain ⟨c, h, i, rfl, rfl, rfl, hi, hc0, hc1, hh, HS⟩ := hrel
     by_cases hlt : i < 16
     ·have HXC := Lib.hid (hex_char (d := c % 16) (by omega) (by omega))
      have hsz2 : h.size ≤ i := by
       have : ∀ j, (lowHex x j).length = j := by intro j; induction j with | zero => rfl | succ j ih => rw [lowHex, List.length_cons, ih]
       rw [Lib.size_eq, HS.out.2, this]; omega
      go_wp2
      refine ⟨⟨c / 16, _, i + 1, rfl, rfl, by go_num, by omega, by omega, by omega, ?_, ?_⟩, by simp [intOf]; omega⟩
      ·have e : (ByteArray.extract ⟨#[48, 49, 50, 51, 52, 53, 54, 55, 56, 57, 97, 98, 99, 100, 101, 102]⟩ (c % 16).toNat (c % 16 + 1).toNat).size = 1 := by rw [Lib.size_eq, HXC.out.1]; rfl
       rw [ByteArray.size_append, e]; omega
      ·show _ ∧ _
       have hc := HS.out.1
       refine ⟨?_, ?_⟩
       ·rw [hc, Nat.pow_succ, ← Nat.div_div_eq_div_mul]; omega
       ·rw [append_list, HXC.out.1, HS.out.2, lowHex, List.singleton_append]
        rw [show (c % 16).toNat = x / 16 ^ i % 16 by omega]
     ·have hi16 : i = 16 := by omega
      have HE : Hid ((⟨#[126]⟩ : ByteArray) ++ h = ts) := by
       show _ = _
       have e1 : ((⟨#[126]⟩ : ByteArray) ++ h).data.toList = ts.data.toList := by rw [append_list, HS.out.2, HTL.out, hi16]; rfl
       rw [str_of e1, Lib.mk_data]
      have hadd : ∀ W : World, (Op.stringOp .add ⟨#[126]⟩ h).run Tryz.prog W = .ok (.string ts) W := fun W => by
       rw [← HE.out]
       exact run_string_add_sum (P := Tryz.prog) (w := W) _ _ (by show 1 + h.size ≤ _; omega)
      clear hi16
      go_wp2
      go_ret
      exact ⟨congrArg (fun s => Ending.returned (.string s)) HT.out.symm, Below.refl _ _⟩
   ·rw [hn, hi, hw] at HT
    rw [hn] at c1
    rw [hi] at c2
    rw [hw] at c3
    have C1 := Lib.hid c1
    have C2 := Lib.hid c2
    have C3 := Lib.hid c3
    have C5 := Lib.hid c5
    clear c1 c2 c3 c5 hn hi hw SG
    go_enter Tryz.func133, Tryz.ntmps133
    go_wp2_with (first | (go_at_call 188; refine C1.out.mono ?_; rintro e w' ⟨rfl, rfl⟩) | (go_at_call 189; refine C2.out.mono ?_; rintro e w' ⟨rfl, rfl⟩) | (go_at_call 187; refine C3.out.mono ?_; rintro e w' ⟨rfl, rfl⟩) | (go_at_call 190; refine C5.out.mono ?_; rintro e w1 ⟨rfl, hB⟩))
    go_ret
    exact ⟨congrArg (fun s => Ending.returned (.string s)) HT.out.symm, hB⟩
  ·rw [hn, hi] at HT
   rw [hn] at c1
   rw [hi] at c2
   have C1 := Lib.hid c1
   have C2 := Lib.hid c2
   clear c1 c2 c3 c5 hn hi SG
   go_enter Tryz.func133, Tryz.ntmps133
   go_wp2_with (first | (go_at_call 188; refine C1.out.mono ?_; rintro e w' ⟨rfl, rfl⟩) | (go_at_call 189; refine C2.out.mono ?_; rintro e w' ⟨rfl, rfl⟩))
   all_goals
    rename_i hsg
    go_ret
    refine ⟨congrArg (fun s => Ending.returned (.string s)) ?_, Below.refl _ _⟩
    have h2 := SGH.out _ hsg
    rw [HT.out]
    simp only [h2]
    rfl
 ·rw [hn] at HT
  rw [hn] at c1
  have C1 := Lib.hid c1
  clear c1 c2 c3 c5 hn SG
  go_enter Tryz.func133, Tryz.ntmps133
  go_wp2_with (go_at_call 188; refine C1.out.mono ?_; rintro e w' ⟨rfl, rfl⟩)
  go_ret
  exact ⟨congrArg (fun s => Ending.returned (.string s)) HT.out.symm, Below.refl _ _⟩
end Go.Proofs.YtnkfodelgpidkaaGreatDoor.Bt
