/- Part of a proof: contracts of functions. -/
import Derived.Test.YtfcgpphodacdmaaGreatDoorY2
import Derived.Lib.SlTrimSet
import Derived.Lib.AppendIntMem
import Derived.Lib.ItoaLen
import Derived.Deep.RegionWith
set_option maxRecDepth 100000
set_option maxHeartbeats 4000000
set_option linter.all false
namespace Go.Proofs.YtfcgpphodacdmaaGreatDoor.Bt
open Go.RowKit
def digB (c : Int) : Int := if 48 ≤ c ∧ c ≤ 57 then c - 48 else if 97 ≤ c ∧ c ≤ 102 then c - 97 + 10 else if 65 ≤ c ∧ c ≤ 70 then c - 65 + 10 else 16
def zri (c : Int) : Bool := decide (65 ≤ c) && decide (c ≤ 90)
def zrM (x : Nat) : Prop := x ≤ 9218868437227405312
def zpS (base : Int) (acc : Nat) (d : Int) : Nat := ((Ieee.double.mul acc (floatOfInt .f64 base)).bind fun p => Ieee.double.add p (floatOfInt .f64 d)).getD 0
def sumF (base : Int) : List UInt8 → Nat → Option Nat
 | [], acc => some acc
 | c :: l, acc => if digB c.toNat < base then sumF base l (zpS base acc (digB c.toNat)) else none
def zfJ (base : Int) (l : List UInt8) : Int := if l = [] then noneB else match sumF base l 0 with | some x => canon x | none => noneB
def znq : List UInt8 → Nat → Option Nat
 | [], acc => some acc
 | c :: l, acc => if zri c.toNat = true ∨ digB c.toNat = 16 then none else znq l (acc * 16 + (digB c.toNat).toNat)
def zgO (l : List UInt8) : Int := if l.length ≠ 16 then noneB else match znq l 0 with | some x => canon x | none => noneB
def zrj : List UInt8 := [73, 110, 102, 105, 110, 105, 116, 121]
def zej (l : List UInt8) : Int := if l = zrj then 9218868437227405312 else zfJ 10 l
def znr (l : List UInt8) : Int :=
 match l with
 | [] => 0
 | c :: r =>
  if c = 126 then zgO r
  else if Lib.hasPrefix (c :: r) [48, 120] = true ∨ Lib.hasPrefix (c :: r) [48, 88] = true then zfJ 16 ((c :: r).drop 2)
  else if c = 45 then negI (zej r)
  else if c = 43 then zej r
  else zej (c :: r)
def zrA (l : List UInt8) : Int := znr (Lib.trimS l [32, 9, 13, 10])
theorem tab_below {w w' : World} (h : tab w) (hb : Below w.heap.size w w') : tab w' := Lib.tabBelow_of_tabIs h w' hb
def zgP (b : Int) : Int := if 9223372036854775808 ≤ b then -(b % 9223372036854775808) else b % 9223372036854775808
def zih (a b : Int) : Bool := !nanB a && !nanB b
def zrE (a b : Int) : Bool := zih a b && decide (zgP a < zgP b)
def zrB (a b : Int) : Bool := zih a b && (zgP a == zgP b)
def zrF (a b : Int) : Bool := (a == b) || (nanB a && nanB b)
structure Is (x : Nat) (neg : Bool) (c : Nat) : Prop where
 inside : yV x = true
 pureX : ui x = true
 cut : xR x = c
 sign : x / 9223372036854775808 % 2 = 1 ↔ neg = true
 lt : x < 18446744073709551616
 mag : qu (x % 9223372036854775808) = c * 2 ^ kk
theorem zgQ {x c : Nat} (h : mantN x * 2 ^ (expI x + 1074).toNat = c * 2 ^ kk) : xR x = c := by
 have lo := zbR x;have hk := zgK;unfold xR;by_cases he : 0 ≤ expI x
 ·have e1 : (expI x + 1074).toNat = (expI x).toNat + kk := by omega
  rw [e1, Nat.pow_add, ← Nat.mul_assoc] at h;rw [show (-expI x).toNat = 0 by omega, Nat.pow_zero, Nat.div_one];exact Nat.eq_of_mul_eq_mul_right (Nat.two_pow_pos _) h
 ·have e1 : kk = (-expI x).toNat + (expI x + 1074).toNat := by omega
  rw [e1, Nat.pow_add, ← Nat.mul_assoc] at h;have h2 := Nat.eq_of_mul_eq_mul_right (Nat.two_pow_pos _) h;rw [show (expI x).toNat = 0 by omega, Nat.pow_zero, Nat.mul_one, h2];exact Nat.mul_div_cancel _ (Nat.two_pow_pos _)
theorem zlH (neg : Bool) {c : Nat} (h : c ≤ 9007199254740992) : Is (qz neg c) neg c := by
 obtain ⟨r, h1, h2, h3⟩ := zeh neg h;obtain ⟨s1, s2⟩ := zfH (neg := neg) h2;have hin : yV (qz neg c) = true := by
  unfold yV; rw [h1, s2]; exact decide_eq_true h2
 have hmag : qu (qz neg c % 9223372036854775808) = c * 2 ^ kk := by rw [h1, s2, h3]
 have hm : mantN (qz neg c) * 2 ^ (expI (qz neg c) + 1074).toNat = c * 2 ^ kk := by rw [← zcK]; exact hmag
 have hc := zgQ hm;refine ⟨hin, ?_, hc, by rw [h1]; exact s1, ?_, hmag⟩
 ·refine (zei _).1 ?_;rw [hc]; exact hm
 ·rw [h1];split <;> omega
theorem Is.not_nan {x : Nat} {neg : Bool} {c : Nat} (h : Is x neg c) : nanB x = false := by
 rw [nanB_nat];have := uE h.inside;exact decide_eq_false (by omega)
theorem Is.not_inf {x : Nat} {neg : Bool} {c : Nat} (h : Is x neg c) : infB x = false := by
 have := uE h.inside;unfold infB;rw [zb]; omega
theorem Is.whole {x : Nat} {neg : Bool} {c : Nat} (h : Is x neg c) : wholeB x = true ∧ wholeV x = if neg then -(c : Int) else c := by
 have hb : wholeB x = true := by
  unfold wholeB;simp only [Int.toNat_natCast, h.inside, h.pureX, Bool.and_self]
 refine ⟨hb, ?_⟩;unfold wholeV;rw [if_pos hb];simp only [Int.toNat_natCast, h.cut];have hs := h.sign;have hl := h.lt;by_cases hn : neg = true
 ·have := hs.2 hn;rw [if_pos (by omega), if_pos hn]
 ·have : ¬ x / 9223372036854775808 % 2 = 1 := fun e => hn (hs.1 e)
  rw [if_neg (by omega), if_neg hn]
theorem zlI (n : Int) : ofI n = (qz (decide (n < 0)) n.natAbs : Nat) := rfl
theorem zkG {n : Int} (h0 : -9007199254740992 ≤ n) (h1 : n ≤ 9007199254740992) : ∃ x, ofI n = (x : Nat) ∧ Is x (decide (n < 0)) n.natAbs :=
 ⟨_, zlI n, zlH _ (by omega)⟩
theorem of_whole {n : Int} (h0 : -9007199254740992 ≤ n) (h1 : n ≤ 9007199254740992) : wholeB (ofI n) = true ∧ wholeV (ofI n) = n := by
 obtain ⟨x, e, h⟩ := zkG h0 h1;rw [e];refine ⟨h.whole.1, ?_⟩;rw [h.whole.2];by_cases hn : n < 0
 ·simp only [hn, decide_true, if_true]; omega
 ·simp only [hn, decide_false, zc, if_false]; omega
def zrN (s : Bool) (c : Nat) : Int := if s then -(c : Int) else c
def zrO (base : Nat) (l : List UInt8) (m : Nat) : Nat := l.foldl (fun a c => a * base + (digB c.toNat).toNat) m
theorem dec_all (u : Nat) : ∀ c ∈ Lib.decDigits u, 48 ≤ c.toNat ∧ c.toNat ≤ 57 := by
 induction u using Nat.strongRecOn with
 | ind u ih =>
  rw [Lib.decDigits];by_cases h : u < 10
  ·rw [dif_pos h];intro c hc;rw [List.mem_singleton.1 hc, UInt8.toNat_ofNat']; omega
  ·rw [dif_neg h];intro c hc;rcases List.mem_append.1 hc with hc | hc
   ·exact ih (u / 10) (by omega) c hc
   ·rw [List.mem_singleton.1 hc, UInt8.toNat_ofNat']; omega
theorem dec_ne (u : Nat) : Lib.decDigits u ≠ [] := by
 rw [Lib.decDigits];split
 ·simp
 ·simp
theorem tilde_list (b : Int) : (tildeS b).data.toList = 126 :: (uy b).data.toList := by unfold tildeS; simp
theorem text_of {n : Int} (h0 : -9007199254740992 ≤ n) (h1 : n ≤ 9007199254740992) : textI (ofI n) = wholeS n := by
 obtain ⟨x, e, h⟩ := zkG h0 h1;obtain ⟨w1, w2⟩ := of_whole h0 h1;unfold textI;rw [e, h.not_nan, h.not_inf, ← e, w1, w2];rfl
def zrP (n : Int) : ByteArray := ⟨(Lib.decDigits n.toNat).toArray⟩
def zrQ (d : Int) : ByteArray := ByteArray.extract ⟨#[48, 49, 50, 51, 52, 53, 54, 55, 56, 57, 97, 98, 99, 100, 101, 102]⟩ d.toNat (d + 1).toNat
def zns (x : Nat) : Nat → List UInt8
 | 0 => []
 | i + 1 => UInt8.ofNat (yS (x / 16 ^ i % 16)).toNat :: zns x i
end Go.Proofs.YtfcgpphodacdmaaGreatDoor.Bt
