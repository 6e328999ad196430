/- Plain words for signs in UTF-8: what stands at a place of a list of bytes, and what a sign is put as; no program in sight. What stands at a place, as the program finds it (by its first byte) and as the document's answer does (by what is put): plain lemmas. The smallest functions of layer 2 and of the document's answer: what each call comes to. A sign put, by the program and by the document's answer. The sign at a place, by the program. The sign at a place, by the document's answer. From sign to sign: Check, Count and steps, by the program and by the document's answer; the chapter's example. Texts one behind the other, steps and columns: plain lemmas. Plain words for numbers as bits: what each function of the program and of the document's answer comes to, with no program in sight. The smallest functions of the program and of the document's answer: what each call comes to. -/
import Derived.Laws.BitsAllLaws
import Derived.IntWalk
import Derived.RowKit
import Derived.Below
import Derived.Test.YtnkfodelgpidkaaGreatDoorRows
import Derived.WalkKit
import Derived.WalkSpells
import Derived.WalkLawsBesides
import Derived.Handy
import Derived.Lib.Hide
import Derived.Lib.Strings
import Derived.Deep.OwnRows
import Derived.Laws.BytesArg
import Derived.LoopTactic
import Derived.Deep.QuietTactic
import Derived.BigQuiet
import Derived.Laws.FloatArith
import Derived.Laws.Externs
namespace Go.Proofs.YtnkfodelgpidkaaGreatDoor
open Go.RowKit
set_option linter.unusedVariables false

theorem ret_int {k : IntKind} {a b : Int} (h : a = b) : Ending.returned (.int k a) = .returned (.int k b) := by rw [h]
theorem ret_bool {a b : Bool} (h : a = b) : Ending.returned (.bool a) = .returned (.bool b) := by rw [h]
theorem ret_str {s t : ByteArray} (h : s = t) : Ending.returned (.string s) = .returned (.string t) := by rw [h]
theorem ret_ints {k l : IntKind} {a b c d : Int} (h : a = c) (g : b = d) : Ending.returned (.tuple #[.int k a, .int l b]) = .returned (.tuple #[.int k c, .int l d]) := by rw [h, g]
theorem ret_text {k : IntKind} {s t : ByteArray} {a b : Int} (h : s = t) (g : a = b) : Ending.returned (.tuple #[.string s, .int k a]) = .returned (.tuple #[.string t, .int k b]) := by rw [h, g]
theorem below_trans {N : Nat} {a b c : World} (h : Below N a b) (g : Below b.heap.size b c) (hn : N ≤ b.heap.size) : Below N a c := h.trans (g.mono hn)

/- The bits. -/
def sizeI (n : Int) : Int :=
  if n < 0 ∨ 1114111 < n ∨ (55296 ≤ n ∧ n ≤ 57343) then 0 else if 65536 ≤ n then 4 else if 2048 ≤ n then 3 else if 128 ≤ n then 2 else 1

def n2 (c d : Int) : Int := (c - 192) * 64 + (d - 128)
def n3 (c d e : Int) : Int := ((c - 224) * 64 + (d - 128)) * 64 + (e - 128)
def n4 (c d e f : Int) : Int := (((c - 240) * 64 + (d - 128)) * 64 + (e - 128)) * 64 + (f - 128)
/-- How many bytes the sign has whose bytes begin with these; 0: none stands there. -/
def siz4 (c d e f : Int) : Int :=
  if c < 128 then 1
  else if c < 192 then 0
  else if c < 224 then (if 128 ≤ d ∧ d < 192 ∧ 128 ≤ n2 c d then 2 else 0)
  else if c < 240 then (if 128 ≤ d ∧ d < 192 ∧ 128 ≤ e ∧ e < 192 ∧ 2048 ≤ n3 c d e ∧ ¬ (55296 ≤ n3 c d e ∧ n3 c d e ≤ 57343) then 3 else 0)
  else if c < 248 then (if 128 ≤ d ∧ d < 192 ∧ 128 ≤ e ∧ e < 192 ∧ 128 ≤ f ∧ f < 192 ∧ 65536 ≤ n4 c d e f ∧ n4 c d e f ≤ 1114111 then 4 else 0)
  else 0
def sgn4 (c d e f : Int) : Int :=
  if siz4 c d e f = 0 then -1 else if siz4 c d e f = 1 then c else if siz4 c d e f = 2 then n2 c d else if siz4 c d e f = 3 then n3 c d e else n4 c d e f

/- What stands at a place. -/
def by8 (L : List UInt8) (k : Nat) : Int := ((L.getD k 0).toNat : Int)
theorem by8_lo (L : List UInt8) (k : Nat) : 0 ≤ by8 L k := Int.natCast_nonneg _
theorem by8_hi (L : List UInt8) (k : Nat) : by8 L k < 256 := by unfold by8; have := (L.getD k 0).toNat_lt; omega
theorem by8_over {L : List UInt8} {k : Nat} (h : L.length ≤ k) : by8 L k = 0 := by unfold by8; rw [List.getD_eq_getElem?_getD, List.getElem?_eq_none h]; rfl
theorem by8_in {s : ByteArray} {k : Nat} (h : k < s.size) : by8 s.data.toList k = ((s[k]'h).toNat : Int) := by
  unfold by8
  have hl : k < s.data.toList.length := by simpa using h
  rw [List.getD_eq_getElem?_getD, List.getElem?_eq_getElem hl]; rfl

def sizeAt (L : List UInt8) (k : Nat) : Int := siz4 (by8 L k) (by8 L (k + 1)) (by8 L (k + 2)) (by8 L (k + 3))
def signAt (L : List UInt8) (k : Nat) : Int := sgn4 (by8 L k) (by8 L (k + 1)) (by8 L (k + 2)) (by8 L (k + 3))
/-- How far Next goes on. -/
def stepAt (L : List UInt8) (k : Nat) : Nat := if sizeAt L k = 0 then 1 else (sizeAt L k).toNat

theorem siz4_range (c d e f : Int) : 0 ≤ siz4 c d e f ∧ siz4 c d e f ≤ 4 := by
  unfold siz4; repeat' split
  all_goals omega
theorem stepAt_range (L : List UInt8) (k : Nat) : 1 ≤ stepAt L k ∧ stepAt L k ≤ 4 := by
  have := siz4_range (by8 L k) (by8 L (k + 1)) (by8 L (k + 2)) (by8 L (k + 3))
  unfold stepAt sizeAt
  split <;> omega
theorem siz4_fits (c d e f : Int) : (siz4 c d e f = 2 → 128 ≤ d) ∧ (siz4 c d e f = 3 → 128 ≤ d ∧ 128 ≤ e) ∧ (siz4 c d e f = 4 → 128 ≤ d ∧ 128 ≤ e ∧ 128 ≤ f) := by
  unfold siz4; repeat' split
  all_goals omega
/-- A step does not lead beyond the end. -/
theorem step_in {L : List UInt8} {k : Nat} (h : k < L.length) : k + stepAt L k ≤ L.length := by
  unfold stepAt
  split
  · omega
  · rename_i hz
    have hr := siz4_range (by8 L k) (by8 L (k + 1)) (by8 L (k + 2)) (by8 L (k + 3))
    have hf := siz4_fits (by8 L k) (by8 L (k + 1)) (by8 L (k + 2)) (by8 L (k + 3))
    have o1 : L.length ≤ k + 1 → by8 L (k + 1) = 0 := fun h => by8_over h
    have o2 : L.length ≤ k + 2 → by8 L (k + 2) = 0 := fun h => by8_over h
    have o3 : L.length ≤ k + 3 → by8 L (k + 3) = 0 := fun h => by8_over h
    unfold sizeAt at hz ⊢
    omega
theorem sign_range (L : List UInt8) (k : Nat) : -1 ≤ signAt L k ∧ signAt L k ≤ 1114111 ∧ (signAt L k < 0 ↔ sizeAt L k = 0) ∧ (signAt L k = -1 ↔ sizeAt L k = 0) := by
  unfold signAt sizeAt
  have h0 := by8_lo L k
  generalize by8 L k = c at *
  generalize by8 L (k + 1) = d
  generalize by8 L (k + 2) = e
  generalize by8 L (k + 3) = f
  unfold sgn4 siz4
  generalize hx2 : n2 c d = x2
  generalize hx3 : n3 c d e = x3
  generalize hx4 : n4 c d e f = x4
  unfold n2 at hx2; unfold n3 at hx3; unfold n4 at hx4
  repeat' split
  all_goals omega

/- A sign's bytes. -/
def b8 (x : Int) : UInt8 := UInt8.ofNat x.toNat
theorem b8_nat {x : Int} (h0 : 0 ≤ x) (h1 : x < 256) : ((b8 x).toNat : Int) = x := by
  unfold b8; rw [UInt8.toNat_ofNat']; omega
theorem b8_byte (c : UInt8) : b8 (c.toNat : Int) = c := by unfold b8; rw [Int.toNat_natCast]; exact UInt8.ofNat_toNat
theorem b8_inj {x y : Int} (h0 : 0 ≤ x) (h1 : x < 256) (h2 : 0 ≤ y) (h3 : y < 256) (h : b8 x = b8 y) : x = y := by
  rw [← b8_nat h0 h1, h, b8_nat h2 h3]
def putL (n : Int) : List UInt8 :=
  if sizeI n = 0 then [] else if sizeI n = 1 then [b8 n] else if sizeI n = 2 then [b8 (192 + n / 64), b8 (128 + n % 64)]
  else if sizeI n = 3 then [b8 (224 + n / 4096), b8 (128 + n / 64 % 64), b8 (128 + n % 64)]
  else [b8 (240 + n / 262144), b8 (128 + n / 4096 % 64), b8 (128 + n / 64 % 64), b8 (128 + n % 64)]
def putS (n : Int) : ByteArray := ⟨⟨putL n⟩⟩
def putE (n : Int) : Int := if sizeI n = 0 then 2 else 0
theorem sizeI_range (n : Int) : 0 ≤ sizeI n ∧ sizeI n ≤ 4 := by unfold sizeI; repeat' split; all_goals omega
theorem putL_length (n : Int) : ((putL n).length : Int) = sizeI n := by
  have := sizeI_range n
  unfold putL
  repeat' split
  all_goals simp
  all_goals omega

/-- From place to place, from one to another or beyond it: how many steps. -/
def stp (L : List UInt8) (a to : Nat) : Nat := if a < to then stp L (a + stepAt L a) to + 1 else 0
termination_by to - a
decreasing_by have := stepAt_range L a; omega
theorem stp_done {L : List UInt8} {a to : Nat} (h : to ≤ a) : stp L a to = 0 := by rw [stp, if_neg (by omega)]
theorem stp_more {L : List UInt8} {a to : Nat} (h : a < to) : stp L a to = stp L (a + stepAt L a) to + 1 := by rw [stp, if_pos h]
theorem stp_le (L : List UInt8) (to : Nat) : ∀ (j a : Nat), to - a ≤ j → stp L a to ≤ to - a
  | 0, a, h => by rw [stp_done (by omega)]; omega
  | j + 1, a, h => by
    by_cases hlt : a < to
    · rw [stp_more hlt]
      have h1 := stepAt_range L a
      have h2 := stp_le L to j (a + stepAt L a) (by omega)
      omega
    · rw [stp_done (by omega)]; omega

/-- The first place at which no sign stands. -/
def chk (L : List UInt8) (a : Nat) : Option Nat := if a < L.length then (if signAt L a < 0 then some a else chk L (a + stepAt L a)) else none
termination_by L.length - a
decreasing_by have := stepAt_range L a; omega
theorem chk_done {L : List UInt8} {a : Nat} (h : L.length ≤ a) : chk L a = none := by rw [chk, if_neg (by omega)]
theorem chk_bad {L : List UInt8} {a : Nat} (h : a < L.length) (h2 : signAt L a < 0) : chk L a = some a := by rw [chk, if_pos h, if_pos h2]
theorem chk_more {L : List UInt8} {a : Nat} (h : a < L.length) (h2 : ¬ signAt L a < 0) : chk L a = chk L (a + stepAt L a) := by rw [chk, if_pos h, if_neg h2]
def chkA (L : List UInt8) : Int := match chk L 0 with | some k => (k : Int) | none => 0
def chkE (L : List UInt8) : Int := match chk L 0 with | some _ => 4 | none => 0

/-- Behind the last line feed ahead of a place. -/
def begI (L : List UInt8) : Nat → Nat
  | 0 => 0
  | k + 1 => if by8 L k = 10 then k + 1 else begI L k
def lfs (L : List UInt8) : Nat → Nat
  | 0 => 0
  | k + 1 => if by8 L k = 10 then lfs L k + 1 else lfs L k
theorem begI_le (L : List UInt8) : ∀ k, begI L k ≤ k
  | 0 => Nat.le_refl _
  | k + 1 => by unfold begI; split; exact Nat.le_refl _; have := begI_le L k; omega
theorem lfs_le (L : List UInt8) : ∀ k, lfs L k ≤ k
  | 0 => Nat.le_refl _
  | k + 1 => by unfold lfs; have := lfs_le L k; split <;> omega
/-- A place, as Line counts it. -/
def clip (L : List UInt8) (at_ : Int) : Nat := if at_ < 0 then 0 else if (L.length : Int) < at_ then L.length else at_.toNat
def lineI (L : List UInt8) (at_ : Int) : Int := (lfs L (clip L at_) : Int) + 1
def colI (L : List UInt8) (at_ : Int) : Int := (stp L (begI L (clip L at_)) (clip L at_) : Int) + 1
theorem clip_le (L : List UInt8) (at_ : Int) : clip L at_ ≤ L.length := by
  unfold clip; split
  · omega
  · split <;> omega
end Go.Proofs.YtnkfodelgpidkaaGreatDoor
namespace Go.Proofs.YtnkfodelgpidkaaGreatDoor
open Go.RowKit
set_option linter.unusedVariables false

def ledU (c : Int) : Int := if c < 128 then c else if c < 192 then 0 else if c < 224 then c - 192 else if c < 240 then c - 224 else if c < 248 then c - 240 else 0
def ledN (c : Int) : Int := if c < 128 then 1 else if c < 192 then 0 else if c < 224 then 2 else if c < 240 then 3 else if c < 248 then 4 else 0
theorem led_range {c : Int} (h0 : 0 ≤ c) (h1 : c < 256) : 0 ≤ ledN c ∧ ledN c ≤ 4 ∧ 0 ≤ ledU c ∧ (ledN c ≠ 1 → ledU c < 32) ∧ (ledN c = 1 → ledU c = c ∧ c < 128) ∧ (2 ≤ ledN c → ledU c < 32) := by
  unfold ledN ledU; repeat' split
  all_goals omega
/-- The first byte's bits and those of so many behind it. -/
def accA (L : List UInt8) (k : Nat) (u : Int) : Nat → Int
  | 0 => u
  | j + 1 => accA L k u j * 64 + by8 L (k + (j + 1)) % 64
theorem accA_bound (L : List UInt8) (k : Nat) {u : Int} (h0 : 0 ≤ u) (h1 : u < 32) {j : Nat} (hj : j ≤ 3) : 0 ≤ accA L k u j ∧ accA L k u j < 8388608 := by
  have a1 := by8_lo L (k + 1); have a2 := by8_lo L (k + 2); have a3 := by8_lo L (k + 3)
  rcases (by omega : j = 0 ∨ j = 1 ∨ j = 2 ∨ j = 3) with rfl | rfl | rfl | rfl <;> simp only [accA] <;> omega

theorem at_zero {L : List UInt8} {k : Nat} (h : sizeAt L k = 0) : signAt L k = -1 ∧ stepAt L k = 1 := by
  refine ⟨(sign_range L k).2.2.2.2 h, ?_⟩
  unfold stepAt; rw [if_pos h]
theorem at_one {L : List UInt8} {k : Nat} (h : ledN (by8 L k) = 1) : signAt L k = ledU (by8 L k) ∧ stepAt L k = 1 ∧ sizeI (ledU (by8 L k)) = 1 ∧ sizeAt L k = 1 := by
  have h0 := by8_lo L k
  unfold signAt stepAt sizeAt
  generalize by8 L k = c at *
  have hc : c < 128 := by
    unfold ledN at h
    by_cases hc : c < 128
    · exact hc
    · rw [if_neg hc] at h; repeat' split at h
      all_goals omega
  have hz : ∀ d e f, siz4 c d e f = 1 := by intro d e f; unfold siz4; rw [if_pos hc]
  refine ⟨?_, ?_, ?_, hz _ _ _⟩
  · unfold sgn4 ledU; rw [hz, if_neg (by decide), if_pos rfl, if_pos hc]
  · rw [hz]; rfl
  · unfold ledU sizeI; rw [if_pos hc]; repeat' split
    all_goals omega
theorem size_of_led (L : List UInt8) (k : Nat) : sizeAt L k = 0 ∨ sizeAt L k = ledN (by8 L k) := by
  unfold sizeAt
  generalize by8 L k = c; generalize by8 L (k + 1) = d; generalize by8 L (k + 2) = e; generalize by8 L (k + 3) = f
  unfold siz4 ledN; repeat' split
  all_goals first | (left; rfl) | (right; rfl)
/-- The tails of so many bytes. -/
def tails (L : List UInt8) (k : Nat) (j : Nat) : Prop := ∀ t, 1 ≤ t → t ≤ j → 128 ≤ by8 L (k + t) ∧ by8 L (k + t) < 192
theorem at_bad {L : List UInt8} {k t : Nat} (h1 : 1 ≤ t) (h2 : (t : Int) < ledN (by8 L k)) (h3 : ¬ (128 ≤ by8 L (k + t) ∧ by8 L (k + t) < 192)) : sizeAt L k = 0 := by
  have hlo := by8_lo L k
  rcases size_of_led L k with h | h
  · exact h
  · exfalso
    have hr : ledN (by8 L k) ≤ 4 := by unfold ledN; (repeat' split) <;> omega
    have hf : (sizeAt L k = 2 → 128 ≤ by8 L (k + 1) ∧ by8 L (k + 1) < 192) ∧ (sizeAt L k = 3 → 128 ≤ by8 L (k + 1) ∧ by8 L (k + 1) < 192 ∧ 128 ≤ by8 L (k + 2) ∧ by8 L (k + 2) < 192) ∧
        (sizeAt L k = 4 → 128 ≤ by8 L (k + 1) ∧ by8 L (k + 1) < 192 ∧ 128 ≤ by8 L (k + 2) ∧ by8 L (k + 2) < 192 ∧ 128 ≤ by8 L (k + 3) ∧ by8 L (k + 3) < 192) := by
      unfold sizeAt siz4; repeat' split
      all_goals omega
    rcases (by omega : t = 1 ∨ t = 2 ∨ t = 3) with rfl | rfl | rfl <;> omega
theorem at_over {L : List UInt8} {k : Nat} (hk : k < L.length) (h : (L.length : Int) < k + ledN (by8 L k)) : sizeAt L k = 0 := by
  rcases size_of_led L k with h2 | h2
  · exact h2
  · by_cases hz : sizeAt L k = 0
    · exact hz
    · exfalso
      have := step_in hk
      unfold stepAt at this
      rw [if_neg hz] at this
      omega
theorem acc_two (L : List UInt8) (k : Nat) (t : tails L k 1) : accA L k (by8 L k - 192) 1 = n2 (by8 L k) (by8 L (k + 1)) := by
  have t1 := t 1 (by omega) (by omega)
  simp only [accA, n2, Nat.zero_add]; omega
theorem acc_three (L : List UInt8) (k : Nat) (t : tails L k 2) : accA L k (by8 L k - 224) 2 = n3 (by8 L k) (by8 L (k + 1)) (by8 L (k + 2)) := by
  have t1 := t 1 (by omega) (by omega)
  have t2 := t 2 (by omega) (by omega)
  simp only [accA, n3, Nat.zero_add, Nat.reduceAdd]; omega
theorem acc_four (L : List UInt8) (k : Nat) (t : tails L k 3) : accA L k (by8 L k - 240) 3 = n4 (by8 L k) (by8 L (k + 1)) (by8 L (k + 2)) (by8 L (k + 3)) := by
  have t1 := t 1 (by omega) (by omega)
  have t2 := t 2 (by omega) (by omega)
  have t3 := t 3 (by omega) (by omega)
  simp only [accA, n4, Nat.zero_add, Nat.reduceAdd]; omega
theorem led_is {c m : Int} (h : ledN c = m) : (m = 2 → ledU c = c - 192 ∧ 192 ≤ c ∧ c < 224) ∧ (m = 3 → ledU c = c - 224 ∧ 224 ≤ c ∧ c < 240) ∧ (m = 4 → ledU c = c - 240 ∧ 240 ≤ c ∧ c < 248) := by
  subst h
  unfold ledN ledU; repeat' split
  all_goals omega
theorem at_whole {L : List UInt8} {k m : Nat} (hm : ledN (by8 L k) = m) (h2 : 2 ≤ m) (ht : tails L k (m - 1)) :
    (sizeI (accA L k (ledU (by8 L k)) (m - 1)) = m ∧ signAt L k = accA L k (ledU (by8 L k)) (m - 1) ∧ stepAt L k = m) ∨ (sizeI (accA L k (ledU (by8 L k)) (m - 1)) ≠ m ∧ sizeAt L k = 0) := by
  have hl := led_is hm
  have hr : ledN (by8 L k) ≤ 4 := by unfold ledN; (repeat' split) <;> omega
  rcases (by omega : m = 2 ∨ m = 3 ∨ m = 4) with rfl | rfl | rfl
  · obtain ⟨e1, e2, e3⟩ := hl.1 rfl
    rw [e1, show (2 - 1 : Nat) = 1 by rfl, acc_two L k ht]
    have t1 := ht 1 (by omega) (by omega)
    unfold signAt stepAt sizeAt
    generalize by8 L k = c at *; generalize by8 L (k + 1) = d at *; generalize by8 L (k + 2) = e at *; generalize by8 L (k + 3) = f at *
    have hb : n2 c d < 2048 := by unfold n2; omega
    have hz : siz4 c d e f = if 128 ≤ d ∧ d < 192 ∧ 128 ≤ n2 c d then 2 else 0 := by unfold siz4; rw [if_neg (by omega), if_neg (by omega), if_pos (by omega)]
    have hs : sizeI (n2 c d) = 2 ↔ 128 ≤ n2 c d := by unfold sizeI; (repeat' split) <;> omega
    unfold sgn4
    by_cases hc : 128 ≤ n2 c d
    · rw [if_pos ⟨t1.1, t1.2, hc⟩] at hz
      left; refine ⟨hs.2 hc, ?_, ?_⟩
      · rw [hz]; rfl
      · rw [hz]; rfl
    · rw [if_neg (by omega)] at hz
      right; exact ⟨fun h => hc (hs.1 h), hz⟩
  · obtain ⟨e1, e2, e3⟩ := hl.2.1 rfl
    rw [e1, show (3 - 1 : Nat) = 2 by rfl, acc_three L k ht]
    have t1 := ht 1 (by omega) (by omega)
    have t2 := ht 2 (by omega) (by omega)
    unfold signAt stepAt sizeAt
    generalize by8 L k = c at *; generalize by8 L (k + 1) = d at *; generalize by8 L (k + 2) = e at *; generalize by8 L (k + 3) = f at *
    have hb : n3 c d e < 65536 := by unfold n3; omega
    have hz : siz4 c d e f = if 128 ≤ d ∧ d < 192 ∧ 128 ≤ e ∧ e < 192 ∧ 2048 ≤ n3 c d e ∧ ¬ (55296 ≤ n3 c d e ∧ n3 c d e ≤ 57343) then 3 else 0 := by unfold siz4; rw [if_neg (by omega), if_neg (by omega), if_neg (by omega), if_pos (by omega)]
    have hs : sizeI (n3 c d e) = 3 ↔ (2048 ≤ n3 c d e ∧ ¬ (55296 ≤ n3 c d e ∧ n3 c d e ≤ 57343)) := by unfold sizeI; (repeat' split) <;> omega
    unfold sgn4
    by_cases hc : 2048 ≤ n3 c d e ∧ ¬ (55296 ≤ n3 c d e ∧ n3 c d e ≤ 57343)
    · rw [if_pos ⟨t1.1, t1.2, t2.1, t2.2, hc⟩] at hz
      left; refine ⟨hs.2 hc, ?_, ?_⟩
      · rw [hz]; rfl
      · rw [hz]; rfl
    · rw [if_neg (fun h => hc h.2.2.2.2)] at hz
      right; exact ⟨fun h => hc (hs.1 h), hz⟩
  · obtain ⟨e1, e2, e3⟩ := hl.2.2 rfl
    rw [e1, show (4 - 1 : Nat) = 3 by rfl, acc_four L k ht]
    have t1 := ht 1 (by omega) (by omega)
    have t2 := ht 2 (by omega) (by omega)
    have t3 := ht 3 (by omega) (by omega)
    unfold signAt stepAt sizeAt
    generalize by8 L k = c at *; generalize by8 L (k + 1) = d at *; generalize by8 L (k + 2) = e at *; generalize by8 L (k + 3) = f at *
    have hz : siz4 c d e f = if 128 ≤ d ∧ d < 192 ∧ 128 ≤ e ∧ e < 192 ∧ 128 ≤ f ∧ f < 192 ∧ 65536 ≤ n4 c d e f ∧ n4 c d e f ≤ 1114111 then 4 else 0 := by unfold siz4; rw [if_neg (by omega), if_neg (by omega), if_neg (by omega), if_neg (by omega), if_pos (by omega)]
    have hs : sizeI (n4 c d e f) = 4 ↔ (65536 ≤ n4 c d e f ∧ n4 c d e f ≤ 1114111) := by unfold sizeI; (repeat' split) <;> omega
    unfold sgn4
    by_cases hc : 65536 ≤ n4 c d e f ∧ n4 c d e f ≤ 1114111
    · rw [if_pos ⟨t1.1, t1.2, t2.1, t2.2, t3.1, t3.2, hc⟩] at hz
      left; refine ⟨hs.2 hc, ?_, ?_⟩
      · rw [hz]; rfl
      · rw [hz]; rfl
    · rw [if_neg (fun h => hc h.2.2.2.2.2.2)] at hz
      right; exact ⟨fun h => hc (hs.1 h), hz⟩

/- By what is put. -/
/-- What the sign of so many bytes would be. -/
def gsI (L : List UInt8) (k j : Nat) : Int :=
  if j = 1 then by8 L k else if j = 2 then n2 (by8 L k) (by8 L (k + 1)) else if j = 3 then n3 (by8 L k) (by8 L (k + 1)) (by8 L (k + 2)) else n4 (by8 L k) (by8 L (k + 1)) (by8 L (k + 2)) (by8 L (k + 3))
theorem take_one {L : List UInt8} {k : Nat} (h : k + 1 ≤ L.length) : (L.drop k).take 1 = [b8 (by8 L k)] := by
  rw [List.drop_eq_getElem_cons (by omega)]
  unfold by8
  rw [List.getD_eq_getElem?_getD, List.getElem?_eq_getElem (by omega), Option.getD_some, b8_byte]; rfl
theorem take_succ' {L : List UInt8} {k j : Nat} (h : k + (j + 1) ≤ L.length) : (L.drop k).take (j + 1) = b8 (by8 L k) :: (L.drop (k + 1)).take j := by
  rw [List.drop_eq_getElem_cons (by omega)]
  unfold by8
  rw [List.getD_eq_getElem?_getD, List.getElem?_eq_getElem (by omega), Option.getD_some, b8_byte]; rfl
theorem take_two {L : List UInt8} {k : Nat} (h : k + 2 ≤ L.length) : (L.drop k).take 2 = [b8 (by8 L k), b8 (by8 L (k + 1))] := by
  rw [take_succ' h, take_one (by omega)]
theorem take_three {L : List UInt8} {k : Nat} (h : k + 3 ≤ L.length) : (L.drop k).take 3 = [b8 (by8 L k), b8 (by8 L (k + 1)), b8 (by8 L (k + 2))] := by
  rw [take_succ' h, take_two (by omega)]
theorem take_four {L : List UInt8} {k : Nat} (h : k + 4 ≤ L.length) : (L.drop k).take 4 = [b8 (by8 L k), b8 (by8 L (k + 1)), b8 (by8 L (k + 2)), b8 (by8 L (k + 3))] := by
  rw [take_succ' h, take_three (by omega)]
theorem put_one {n : Int} (h : sizeI n = 1) : putL n = [b8 n] := by unfold putL; rw [if_neg (by omega), if_pos h]
theorem put_two {n : Int} (h : sizeI n = 2) : putL n = [b8 (192 + n / 64), b8 (128 + n % 64)] := by unfold putL; rw [if_neg (by omega), if_neg (by omega), if_pos h]
theorem put_three {n : Int} (h : sizeI n = 3) : putL n = [b8 (224 + n / 4096), b8 (128 + n / 64 % 64), b8 (128 + n % 64)] := by unfold putL; rw [if_neg (by omega), if_neg (by omega), if_neg (by omega), if_pos h]
theorem put_four {n : Int} (h : sizeI n = 4) : putL n = [b8 (240 + n / 262144), b8 (128 + n / 4096 % 64), b8 (128 + n / 64 % 64), b8 (128 + n % 64)] := by
  unfold putL; rw [if_neg (by omega), if_neg (by omega), if_neg (by omega), if_neg (by omega)]
theorem size_is {n : Int} : (sizeI n = 1 → 0 ≤ n ∧ n < 128) ∧ (sizeI n = 2 → 128 ≤ n ∧ n < 2048) ∧ (sizeI n = 3 → 2048 ≤ n ∧ n < 65536 ∧ ¬ (55296 ≤ n ∧ n ≤ 57343)) ∧ (sizeI n = 4 → 65536 ≤ n ∧ n ≤ 1114111) := by
  unfold sizeI; repeat' split
  all_goals omega
/-- A sign of so many bytes stands there just if what they would be is put as they are. -/
theorem match_one {L : List UInt8} {k : Nat} (h : k + 1 ≤ L.length) : (sizeI (gsI L k 1) ≠ 0 ∧ putL (gsI L k 1) = (L.drop k).take 1) ↔ sizeAt L k = 1 := by
  rw [take_one h]
  have l0 := by8_lo L k; have h0 := by8_hi L k
  have hg : gsI L k 1 = by8 L k := by unfold gsI; rw [if_pos rfl]
  rw [hg]
  unfold sizeAt
  generalize by8 L k = c at *; generalize by8 L (k + 1) = d at *; generalize by8 L (k + 2) = e at *; generalize by8 L (k + 3) = f at *
  have hs := @size_is c
  constructor
  · rintro ⟨a1, a2⟩
    have hl := putL_length c
    rw [a2] at hl
    simp only [List.length_cons, List.length_nil] at hl
    have hc := hs.1 (by omega)
    unfold siz4; rw [if_pos (by omega)]
  · intro hz
    have hc : c < 128 := by unfold siz4 at hz; (repeat' split at hz) <;> omega
    have h1 : sizeI c = 1 := by unfold sizeI; (repeat' split) <;> omega
    exact ⟨by omega, put_one h1⟩
theorem match_two {L : List UInt8} {k : Nat} (h : k + 2 ≤ L.length) : (sizeI (gsI L k 2) ≠ 0 ∧ putL (gsI L k 2) = (L.drop k).take 2) ↔ sizeAt L k = 2 := by
  rw [take_two h]
  have l0 := by8_lo L k; have h0 := by8_hi L k
  have l1 := by8_lo L (k + 1); have h1 := by8_hi L (k + 1)
  have hg : gsI L k 2 = n2 (by8 L k) (by8 L (k + 1)) := by unfold gsI; rw [if_neg (by decide), if_pos rfl]
  rw [hg]
  unfold sizeAt
  generalize by8 L k = c at *; generalize by8 L (k + 1) = d at *; generalize by8 L (k + 2) = e at *; generalize by8 L (k + 3) = f at *
  have hs := @size_is (n2 c d)
  have hx : n2 c d = (c - 192) * 64 + (d - 128) := rfl
  constructor
  · rintro ⟨a1, a2⟩
    have hl := putL_length (n2 c d)
    rw [a2] at hl
    simp only [List.length_cons, List.length_nil] at hl
    have h2 : sizeI (n2 c d) = 2 := by omega
    have hc := hs.2.1 h2
    rw [put_two h2] at a2
    have e1 := b8_inj (by omega) (by omega) l0 h0 (List.cons.inj a2).1
    have e2 := b8_inj (by omega) (by omega) l1 h1 (List.cons.inj (List.cons.inj a2).2).1
    unfold siz4
    rw [if_neg (by omega), if_neg (by omega), if_pos (by omega), if_pos (by omega)]
  · intro hz
    have hc : 192 ≤ c ∧ c < 224 ∧ 128 ≤ d ∧ d < 192 ∧ 128 ≤ n2 c d := by unfold siz4 at hz; (repeat' split at hz) <;> omega
    have h2 : sizeI (n2 c d) = 2 := by unfold sizeI; (repeat' split) <;> omega
    refine ⟨by omega, ?_⟩
    rw [put_two h2, show 192 + n2 c d / 64 = c by omega, show 128 + n2 c d % 64 = d by omega]
theorem match_three {L : List UInt8} {k : Nat} (h : k + 3 ≤ L.length) : (sizeI (gsI L k 3) ≠ 0 ∧ putL (gsI L k 3) = (L.drop k).take 3) ↔ sizeAt L k = 3 := by
  rw [take_three h]
  have l0 := by8_lo L k; have h0 := by8_hi L k
  have l1 := by8_lo L (k + 1); have h1 := by8_hi L (k + 1)
  have l2 := by8_lo L (k + 2); have h2 := by8_hi L (k + 2)
  have hg : gsI L k 3 = n3 (by8 L k) (by8 L (k + 1)) (by8 L (k + 2)) := by unfold gsI; rw [if_neg (by decide), if_neg (by decide), if_pos rfl]
  rw [hg]
  unfold sizeAt
  generalize by8 L k = c at *; generalize by8 L (k + 1) = d at *; generalize by8 L (k + 2) = e at *; generalize by8 L (k + 3) = f at *
  have hs := @size_is (n3 c d e)
  have hx : n3 c d e = ((c - 224) * 64 + (d - 128)) * 64 + (e - 128) := rfl
  constructor
  · rintro ⟨a1, a2⟩
    have hl := putL_length (n3 c d e)
    rw [a2] at hl
    simp only [List.length_cons, List.length_nil] at hl
    have h3 : sizeI (n3 c d e) = 3 := by omega
    have hc := hs.2.2.1 h3
    rw [put_three h3] at a2
    have e1 := b8_inj (by omega) (by omega) l0 h0 (List.cons.inj a2).1
    have e2 := b8_inj (by omega) (by omega) l1 h1 (List.cons.inj (List.cons.inj a2).2).1
    have e3 := b8_inj (by omega) (by omega) l2 h2 (List.cons.inj (List.cons.inj (List.cons.inj a2).2).2).1
    unfold siz4
    rw [if_neg (by omega), if_neg (by omega), if_neg (by omega), if_pos (by omega), if_pos (by omega)]
  · intro hz
    have hc : 224 ≤ c ∧ c < 240 ∧ 128 ≤ d ∧ d < 192 ∧ 128 ≤ e ∧ e < 192 ∧ 2048 ≤ n3 c d e ∧ ¬ (55296 ≤ n3 c d e ∧ n3 c d e ≤ 57343) := by unfold siz4 at hz; (repeat' split at hz) <;> omega
    have h3 : sizeI (n3 c d e) = 3 := by unfold sizeI; (repeat' split) <;> omega
    refine ⟨by omega, ?_⟩
    rw [put_three h3, show 224 + n3 c d e / 4096 = c by omega, show 128 + n3 c d e / 64 % 64 = d by omega, show 128 + n3 c d e % 64 = e by omega]
theorem match_four {L : List UInt8} {k : Nat} (h : k + 4 ≤ L.length) : (sizeI (gsI L k 4) ≠ 0 ∧ putL (gsI L k 4) = (L.drop k).take 4) ↔ sizeAt L k = 4 := by
  rw [take_four h]
  have l0 := by8_lo L k; have h0 := by8_hi L k
  have l1 := by8_lo L (k + 1); have h1 := by8_hi L (k + 1)
  have l2 := by8_lo L (k + 2); have h2 := by8_hi L (k + 2)
  have l3 := by8_lo L (k + 3); have h3 := by8_hi L (k + 3)
  have hg : gsI L k 4 = n4 (by8 L k) (by8 L (k + 1)) (by8 L (k + 2)) (by8 L (k + 3)) := by unfold gsI; rw [if_neg (by decide), if_neg (by decide), if_neg (by decide)]
  rw [hg]
  unfold sizeAt
  generalize by8 L k = c at *; generalize by8 L (k + 1) = d at *; generalize by8 L (k + 2) = e at *; generalize by8 L (k + 3) = f at *
  have hs := @size_is (n4 c d e f)
  have hx : n4 c d e f = (((c - 240) * 64 + (d - 128)) * 64 + (e - 128)) * 64 + (f - 128) := rfl
  constructor
  · rintro ⟨a1, a2⟩
    have hl := putL_length (n4 c d e f)
    rw [a2] at hl
    simp only [List.length_cons, List.length_nil] at hl
    have h4 : sizeI (n4 c d e f) = 4 := by omega
    have hc := hs.2.2.2 h4
    rw [put_four h4] at a2
    have e1 := b8_inj (by omega) (by omega) l0 h0 (List.cons.inj a2).1
    have e2 := b8_inj (by omega) (by omega) l1 h1 (List.cons.inj (List.cons.inj a2).2).1
    have e3 := b8_inj (by omega) (by omega) l2 h2 (List.cons.inj (List.cons.inj (List.cons.inj a2).2).2).1
    have e4 := b8_inj (by omega) (by omega) l3 h3 (List.cons.inj (List.cons.inj (List.cons.inj (List.cons.inj a2).2).2).2).1
    unfold siz4
    rw [if_neg (by omega), if_neg (by omega), if_neg (by omega), if_neg (by omega), if_pos (by omega), if_pos (by omega)]
  · intro hz
    have hc : 240 ≤ c ∧ c < 248 ∧ 128 ≤ d ∧ d < 192 ∧ 128 ≤ e ∧ e < 192 ∧ 128 ≤ f ∧ f < 192 ∧ 65536 ≤ n4 c d e f ∧ n4 c d e f ≤ 1114111 := by unfold siz4 at hz; (repeat' split at hz) <;> omega
    have h4 : sizeI (n4 c d e f) = 4 := by unfold sizeI; (repeat' split) <;> omega
    refine ⟨by omega, ?_⟩
    rw [put_four h4, show 240 + n4 c d e f / 262144 = c by omega, show 128 + n4 c d e f / 4096 % 64 = d by omega, show 128 + n4 c d e f / 64 % 64 = e by omega, show 128 + n4 c d e f % 64 = f by omega]
theorem match_any {L : List UInt8} {k j : Nat} (h1 : 1 ≤ j) (h4 : j ≤ 4) (h : k + j ≤ L.length) : (sizeI (gsI L k j) ≠ 0 ∧ putL (gsI L k j) = (L.drop k).take j) ↔ sizeAt L k = j := by
  rcases (by omega : j = 1 ∨ j = 2 ∨ j = 3 ∨ j = 4) with rfl | rfl | rfl | rfl
  · exact match_one h
  · exact match_two h
  · exact match_three h
  · exact match_four h
theorem sign_size {L : List UInt8} {k j : Nat} (h1 : 1 ≤ j) (h4 : j ≤ 4) (h : sizeAt L k = j) : signAt L k = gsI L k j ∧ stepAt L k = j := by
  refine ⟨?_, by unfold stepAt; rw [if_neg (by omega)]; omega⟩
  unfold signAt sgn4 gsI
  unfold sizeAt at h
  rw [h]
  rcases (by omega : j = 1 ∨ j = 2 ∨ j = 3 ∨ j = 4) with rfl | rfl | rfl | rfl <;> rfl
/-- Where a sign stands its bytes are what is put. -/
theorem put_sign {L : List UInt8} {k : Nat} (hk : k < L.length) (h : sizeAt L k ≠ 0) : sizeI (signAt L k) ≠ 0 ∧ putL (signAt L k) = (L.drop k).take (stepAt L k) := by
  have hr : 0 ≤ sizeAt L k ∧ sizeAt L k ≤ 4 := siz4_range _ _ _ _
  have hs := step_in hk
  have hj : stepAt L k = (sizeAt L k).toNat := by unfold stepAt; rw [if_neg h]
  have h1 := sign_size (L := L) (k := k) (j := (sizeAt L k).toNat) (by omega) (by omega) (by omega)
  rw [h1.1, hj]
  exact (match_any (by omega) (by omega) (by omega)).2 (by omega)
end Go.Proofs.YtnkfodelgpidkaaGreatDoor
namespace Go.Proofs.YtnkfodelgpidkaaGreatDoor
open Go.RowKit
set_option linter.unusedVariables false

set_option maxHeartbeats 400000 in
theorem sizeOf_any (n : Int) (w : World) :
    Calls Tryz.prog 110 #[.int .i64 n] w fun e w' => e = .returned (.int .i64 (sizeI n)) ∧ w = w' := by
  have HD : Hid (sizeI n = if n < 0 ∨ 1114111 < n ∨ (55296 ≤ n ∧ n ≤ 57343) then 0 else if 65536 ≤ n then 4 else if 2048 ≤ n then 3 else if 128 ≤ n then 2 else 1) := rfl
  generalize sizeI n = z at *
  go_enter Tryz.func110, Tryz.ntmps110
  go_wp2
  all_goals
    go_ret
    refine ⟨ret_int ?_, rfl⟩
    rw [HD.out]
    repeat' split
    all_goals first | omega | rfl | (exfalso; omega)

set_option maxHeartbeats 400000 in
theorem Sign_any (n : Int) (w : World) :
    Calls Tryz.prog 200 #[.int .i64 n] w fun e w' => e = .returned (.bool (!(sizeI n == 0))) ∧ w = w' := by
  have HD : Hid (sizeI n = if n < 0 ∨ 1114111 < n ∨ (55296 ≤ n ∧ n ≤ 57343) then 0 else if 65536 ≤ n then 4 else if 2048 ≤ n then 3 else if 128 ≤ n then 2 else 1) := rfl
  have HB : Hid ((n < 0 ∨ 1114111 < n ∨ (55296 ≤ n ∧ n ≤ 57343)) → (!(sizeI n == 0)) = false) := by
    intro h; rw [HD.out, if_pos h]; rfl
  have HG : Hid (¬ (n < 0 ∨ 1114111 < n ∨ (55296 ≤ n ∧ n ≤ 57343)) → (!(sizeI n == 0)) = true) := by
    intro h
    rw [HD.out, if_neg h]
    repeat' split
    all_goals rfl
  clear HD
  generalize (!(sizeI n == 0)) = z at *
  by_cases h1 : n < 0
  · go_enter Tryz.func200, Tryz.ntmps200
    go_wp2
    go_ret
    exact ⟨ret_bool (HB.out (by omega)).symm, rfl⟩
  · by_cases h2 : n < 55296
    · go_enter Tryz.func200, Tryz.ntmps200
      go_wp2
      go_ret
      exact ⟨ret_bool (HG.out (by omega)).symm, rfl⟩
    · by_cases h3 : n < 57344
      · go_enter Tryz.func200, Tryz.ntmps200
        go_wp2
        go_ret
        exact ⟨ret_bool (HB.out (by omega)).symm, rfl⟩
      · by_cases h4 : n ≤ 1114111
        · go_enter Tryz.func200, Tryz.ntmps200
          go_wp2
          go_ret
          exact ⟨ret_bool (by rw [HG.out (by omega)]), rfl⟩
        · go_enter Tryz.func200, Tryz.ntmps200
          go_wp2
          go_ret
          exact ⟨ret_bool (by rw [HB.out (by omega)]), rfl⟩

theorem not192 {c : Int} (h0 : 192 ≤ c) (h1 : c < 224) : bits .andNot .u8 c 192 = c - 192 := by
  have h : ∀ n : Fin 32, bits .andNot .u8 (((n.val : Nat) : Int) + 192) 192 = ((n.val : Nat) : Int) := by decide +kernel
  have h2 := h ⟨(c - 192).toNat, by omega⟩
  simp only at h2
  rw [show (((c - 192).toNat : Nat) : Int) + 192 = c by omega] at h2
  rw [h2]; omega
theorem not224 {c : Int} (h0 : 224 ≤ c) (h1 : c < 240) : bits .andNot .u8 c 224 = c - 224 := by
  have h : ∀ n : Fin 16, bits .andNot .u8 (((n.val : Nat) : Int) + 224) 224 = ((n.val : Nat) : Int) := by decide +kernel
  have h2 := h ⟨(c - 224).toNat, by omega⟩
  simp only at h2
  rw [show (((c - 224).toNat : Nat) : Int) + 224 = c by omega] at h2
  rw [h2]; omega
theorem not240 {c : Int} (h0 : 240 ≤ c) (h1 : c < 248) : bits .andNot .u8 c 240 = c - 240 := by
  have h : ∀ n : Fin 8, bits .andNot .u8 (((n.val : Nat) : Int) + 240) 240 = ((n.val : Nat) : Int) := by decide +kernel
  have h2 := h ⟨(c - 240).toNat, by omega⟩
  simp only at h2
  rw [show (((c - 240).toNat : Nat) : Int) + 240 = c by omega] at h2
  rw [h2]; omega
theorem not63 {c : Int} (h0 : 0 ≤ c) (h1 : c < 256) : bits .andNot .u8 c 63 = c / 64 * 64 := by
  have h : ∀ n : Fin 256, bits .andNot .u8 ((n.val : Nat) : Int) 63 = ((n.val : Nat) : Int) / 64 * 64 := by decide +kernel
  have h2 := h ⟨c.toNat, by omega⟩
  simp only at h2
  rwa [show ((c.toNat : Nat) : Int) = c by omega] at h2
theorem and63 {c : Int} (h0 : 0 ≤ c) (h1 : c < 256) : bits .and .u8 c 63 = c % 64 := by
  have h : ∀ n : Fin 256, bits .and .u8 ((n.val : Nat) : Int) 63 = ((n.val : Nat) : Int) % 64 := by decide +kernel
  have h2 := h ⟨c.toNat, by omega⟩
  simp only at h2
  rwa [show ((c.toNat : Nat) : Int) = c by omega] at h2
theorem wraps_i64 (n : Int) (h₀ : 0 ≤ n) (h₁ : n < 2 ^ 62) : IntKind.i64.wrap n = n := by rw [IntKind.wrap_i64]; omega
theorem iand63 {x : Int} (h0 : 0 ≤ x) (h1 : x < 4611686018427387904) : bits .and .i64 x 63 = x % 64 := bits_mask .i64 62 (by decide) wraps_i64 6 (by decide) x h0 h1
theorem ior6 {x y : Int} (hx₀ : 0 ≤ x) (hx : x % 64 = 0) (hx₁ : x < 4611686018427387904) (h₀ : 0 ≤ y) (h₁ : y < 64) : bits .or .i64 x y = x + y :=
  bits_join .i64 62 (by decide) wraps_i64 6 x y hx₀ hx hx₁ h₀ h₁ (by omega)
theorem ior224 {y : Int} (h₀ : 0 ≤ y) (h₁ : y < 16) : bits .or .i64 224 y = 224 + y :=
  bits_join .i64 62 (by decide) wraps_i64 4 224 y (by decide) (by decide) (by decide) h₀ h₁ (by omega)
theorem ior240 {y : Int} (h₀ : 0 ≤ y) (h₁ : y < 8) : bits .or .i64 240 y = 240 + y :=
  bits_join .i64 62 (by decide) wraps_i64 3 240 y (by decide) (by decide) (by decide) h₀ h₁ (by omega)

set_option maxHeartbeats 400000 in
theorem lead_any (c : Int) (h0 : 0 ≤ c) (h1 : c < 256) (w : World) :
    Calls Tryz.prog 109 #[.int .u8 c] w fun e w' => e = .returned (.tuple #[.int .i64 (ledU c), .int .i64 (ledN c)]) ∧ w = w' := by
  have HU : Hid (ledU c = if c < 128 then c else if c < 192 then 0 else if c < 224 then c - 192 else if c < 240 then c - 224 else if c < 248 then c - 240 else 0) := rfl
  have HN : Hid (ledN c = if c < 128 then 1 else if c < 192 then 0 else if c < 224 then 2 else if c < 240 then 3 else if c < 248 then 4 else 0) := rfl
  generalize ledU c = u at *
  generalize ledN c = n at *
  go_enter Tryz.func109, Tryz.ntmps109
  go_wp2
  all_goals
    go_ret2
    refine ⟨ret_ints ?_ ?_, rfl⟩
    · rw [HU.out]
      first
        | (rw [not192 (by omega) (by omega), RowKit.wrap64]; repeat' split; all_goals omega)
        | (rw [not224 (by omega) (by omega), RowKit.wrap64]; repeat' split; all_goals omega)
        | (rw [not240 (by omega) (by omega), RowKit.wrap64]; repeat' split; all_goals omega)
        | (repeat' split; all_goals omega)
    · rw [HN.out]; repeat' split; all_goals omega

set_option maxHeartbeats 400000 in
theorem tail_any (n : Int) (h0 : 0 ≤ n) (h1 : n ≤ 1114111) (w : World) :
    Calls Tryz.prog 238 #[.int .i64 n] w fun e w' => e = .returned (.int .i64 (128 + n % 64)) ∧ w = w' := by
  go_enter Tryz.func238, Tryz.ntmps238
  go_wp2
  go_ret
  exact ⟨ret_int (by rw [iand63 h0 (by omega), ior6 (by decide) (by decide) (by decide) (by omega) (by omega)]), rfl⟩

def fewS (s : ByteArray) : ByteArray := if 5000 < s.size then s.extract 0 5000 else s
theorem fewS_le (s : ByteArray) : (fewS s).size ≤ 5000 := by
  unfold fewS; split
  · rw [ByteArray.size_extract]; omega
  · omega
end Go.Proofs.YtnkfodelgpidkaaGreatDoor
namespace Go.Proofs.YtnkfodelgpidkaaGreatDoor
open Go.RowKit
set_option linter.unusedVariables false

theorem info_u8 : (Tryz.prog.info? 5).map (fun i => (i.zero, i.size, i.bytes)) = some (some (.int .u8 0), 1, 1) := by kernel_rfl

set_option maxRecDepth 100000 in
set_option maxHeartbeats 1000000 in
theorem text_any (xs : List Int) (n : Nat) (hn : xs.length = n) (h1 : 1 ≤ n) (h4 : n ≤ 4) (hr : ∀ i, i < n → 0 ≤ xs.getD i 0 ∧ xs.getD i 0 < 256) (b : Nat) (w : World) (hb : b < w.heap.size)
    (hcell : ∀ i, i < n → w.cell? ⟨b, i, none⟩ = some (.int .i64 (xs.getD i 0))) :
    Calls Tryz.prog 237 #[.slice (some ⟨b, 0, none⟩) n n] w fun e w' => e = .returned (.string (strOfNums xs)) ∧ Below w.heap.size w w' := by
  have HC := Lib.hid hcell
  have HR := Lib.hid hr
  have HNN := Lib.hid hn
  clear hcell hr hn
  have hmk := fun w => run_make_row' (P := Tryz.prog) 102 5 (.int .u8 0) 1 Tryz.underlying102 info_u8 rfl .i64 .i64 n (by omega) (by omega) w
  go_enter Tryz.func237, Tryz.ntmps237
  go_wp2
  go_loopw [4, 5, 11] (fun _ _ i wr => ∃ k : Nat, i = .int .i64 (k : Int) ∧ k ≤ n ∧ Below w.heap.size w wr ∧ Hid (wr.rowIs w.heap.size 5 n (fun j => .int .u8 (if j < k then xs.getD j 0 else 0)))) (fun _ _ i _ => n - (intOf i).toNat)
  case atStart =>
    refine ⟨0, rfl, Nat.zero_le _, (Below.refl _ _).alloc (Nat.le_refl _) _, ?_⟩
    have := World.rowIs_made w (.int .u8 0) n 5
    exact this
  case round =>
    rename_i wr hrel
    obtain ⟨k, rfl, hk, hB, HW⟩ := hrel
    by_cases hlt : k < n
    · have hx := HR.out k hlt
      have hc1 : wr.cell? ⟨b, k, none⟩ = some (.int .i64 (xs.getD k 0)) := (hB.cell (p := ⟨b, k, none⟩) hb).trans (HC.out k hlt)
      have hc2 := HW.out.cell hlt
      have hf2 := HW.out.frozen k
      go_wp2
      refine ⟨⟨k + 1, by go_num, by omega, hB.setCell (Nat.le_refl _) _, ?_⟩, by simp [intOf]; omega⟩
      exact (HW.out.set k _).congr fun j hj => by
        by_cases e : j = k
        · subst e; rw [if_pos rfl, if_pos (by omega), ← List.getD_eq_getElem?_getD, Int.emod_eq_of_lt hx.1 hx.2]
        · rw [if_neg e]
          by_cases e2 : j < k
          · rw [if_pos e2, if_pos (by omega)]
          · rw [if_neg e2, if_neg (by omega)]
    · have hrun := run_convert_bytes_arg (P := Tryz.prog) wr 102 5 Tryz.underlying102 Tryz.underlying5 w.heap.size 0 n n xs HNN.out (fun i hi => by
        rw [Nat.zero_add, HW.out.cell hi, if_pos (by omega)]) 9 Tryz.underlying9
      go_wp2
      go_ret
      exact ⟨rfl, hB⟩

theorem putL_two {n : Int} (h : sizeI n = 2) : strOfNums [192 + n / 64, 128 + n % 64] = putS n := by
  unfold putS putL; rw [if_neg (by omega), if_neg (by omega), if_pos h]; rfl
theorem putL_one {n : Int} (h : sizeI n = 1) : strOfNums [n] = putS n := by
  unfold putS putL; rw [if_neg (by omega), if_pos h]; rfl
theorem putL_three {n : Int} (h : sizeI n = 3) : strOfNums [224 + n / 4096, 128 + n / 64 % 64, 128 + n % 64] = putS n := by
  unfold putS putL; rw [if_neg (by omega), if_neg (by omega), if_neg (by omega), if_pos h]; rfl
theorem putL_four {n : Int} (h : sizeI n = 4) : strOfNums [240 + n / 262144, 128 + n / 4096 % 64, 128 + n / 64 % 64, 128 + n % 64] = putS n := by
  unfold putS putL; rw [if_neg (by omega), if_neg (by omega), if_neg (by omega), if_neg (by omega)]; rfl
theorem putL_none {n : Int} (h : sizeI n = 0) : putS n = ⟨#[]⟩ := by
  unfold putS putL; rw [if_pos h]
theorem size_bounds {n : Int} : (sizeI n = 1 → 0 ≤ n ∧ n < 128) ∧ (sizeI n = 2 → 128 ≤ n ∧ n < 2048) ∧ (sizeI n = 3 → 2048 ≤ n ∧ n < 65536) ∧ (sizeI n = 4 → 65536 ≤ n ∧ n ≤ 1114111) := by
  unfold sizeI; repeat' split
  all_goals omega

theorem new_ints (w : World) (t : TypeId) (xs : List Int) : ∀ i, i < xs.length → (w.alloc (.cells (xs.map (Value.int .i64)).toArray t)).cell? ⟨w.heap.size, i, none⟩ = some (.int .i64 (xs.getD i 0)) := by
  intro i hi
  refine (World.rowIs_alloc w (xs.map (Value.int .i64)).toArray t (fun i => .int .i64 (xs.getD i 0)) (fun j hj => ?_)).cell (by simpa using hi)
  have hj' : j < xs.length := by simpa using hj
  simp [List.getD_eq_getElem?_getD, List.getElem?_eq_getElem hj']
theorem below_new {w w1 : World} {o : Obj} (h : Below (w.alloc o).heap.size (w.alloc o) w1) : Below w.heap.size w w1 :=
  ((Below.refl _ _).alloc (Nat.le_refl _) o).trans (h.mono (by simp))
theorem bytes2 {a b : Int} (ha : 0 ≤ a ∧ a < 256) (hb : 0 ≤ b ∧ b < 256) : ∀ i, i < 2 → 0 ≤ [a, b].getD i 0 ∧ [a, b].getD i 0 < 256 := by
  intro i hi
  rcases (by omega : i = 0 ∨ i = 1) with rfl | rfl
  · exact ha
  · exact hb
theorem bytes3 {a b c : Int} (ha : 0 ≤ a ∧ a < 256) (hb : 0 ≤ b ∧ b < 256) (hc : 0 ≤ c ∧ c < 256) : ∀ i, i < 3 → 0 ≤ [a, b, c].getD i 0 ∧ [a, b, c].getD i 0 < 256 := by
  intro i hi
  rcases (by omega : i = 0 ∨ i = 1 ∨ i = 2) with rfl | rfl | rfl
  · exact ha
  · exact hb
  · exact hc
theorem bytes4 {a b c d : Int} (ha : 0 ≤ a ∧ a < 256) (hb : 0 ≤ b ∧ b < 256) (hc : 0 ≤ c ∧ c < 256) (hd : 0 ≤ d ∧ d < 256) : ∀ i, i < 4 → 0 ≤ [a, b, c, d].getD i 0 ∧ [a, b, c, d].getD i 0 < 256 := by
  intro i hi
  rcases (by omega : i = 0 ∨ i = 1 ∨ i = 2 ∨ i = 3) with rfl | rfl | rfl | rfl
  · exact ha
  · exact hb
  · exact hc
  · exact hd

set_option maxRecDepth 100000 in
set_option maxHeartbeats 1000000 in
theorem put_any (n : Int) (w : World) :
    Calls Tryz.prog 223 #[.int .i64 n] w fun e w' => e = .returned (.tuple #[.string (putS n), .int .i64 (putE n)]) ∧ Below w.heap.size w w' := by
  have C := Lib.hid (fun w => sizeOf_any n w)
  have hr := sizeI_range n
  have hb := @size_bounds n
  have HE : Hid (putE n = if sizeI n = 0 then 2 else 0) := rfl
  have P1 := Lib.hid (@putL_one n)
  have P2 := Lib.hid (@putL_two n)
  have P3 := Lib.hid (@putL_three n)
  have P4 := Lib.hid (@putL_four n)
  have P0 := Lib.hid (@putL_none n)
  generalize putS n = z at *
  generalize putE n = pe at *
  generalize sizeI n = k at *
  have hk : k = 0 ∨ k = 1 ∨ k = 2 ∨ k = 3 ∨ k = 4 := by omega
  have HS := Lib.hid hk
  clear hk
  rcases HS.out with rfl | rfl | rfl | rfl | rfl
  · have Q := Lib.hid (P0.out rfl)
    have QE := Lib.hid (HE.out)
    clear hb hr P0 P1 P2 P3 P4 HE
    go_enter Tryz.func223, Tryz.ntmps223
    go_wp2_with (go_at_call 110; refine (C.out _).mono ?_; rintro e w' ⟨rfl, rfl⟩)
    go_ret2
    exact ⟨ret_text Q.out.symm (by rw [QE.out]; rfl), Below.refl _ _⟩
  · obtain ⟨b0, b1⟩ := hb.1 rfl
    have Q := Lib.hid (P1.out rfl)
    have QE := Lib.hid (HE.out)
    clear hb hr P0 P1 P2 P3 P4 HE
    go_enter Tryz.func223, Tryz.ntmps223
    go_wp2_with (go_at_call 110; refine (C.out _).mono ?_; rintro e w' ⟨rfl, rfl⟩)
    refine (text_any [n] 1 rfl (by omega) (by omega) (fun i hi => by rw [show i = 0 by omega]; exact ⟨b0, by show n < 256; omega⟩) w.heap.size _ (by simp) (new_ints w 3 [n])).mono ?_
    rintro e w1 ⟨rfl, hB⟩
    go_wp2_with fail
    go_ret2
    exact ⟨ret_text Q.out (by rw [QE.out]; rfl), below_new hB⟩
  · obtain ⟨b0, b1⟩ := hb.2.1 rfl
    have Q := Lib.hid (P2.out rfl)
    have QE := Lib.hid (HE.out)
    clear hb hr P0 P1 P2 P3 P4 HE
    go_enter Tryz.func223, Tryz.ntmps223
    go_wp2_with (first | (go_at_call 110; refine (C.out _).mono ?_; rintro e w' ⟨rfl, rfl⟩) | (go_at_call 238; refine (tail_any _ (by omega) (by omega) _).mono ?_; rintro e w' ⟨rfl, rfl⟩))
    rw [ior6 (x := 192) (by decide) (by decide) (by decide) (by omega) (by omega)]
    refine (text_any [192 + n / 64, 128 + n % 64] 2 rfl (by omega) (by omega) (bytes2 (by omega) (by omega)) w.heap.size _ (by simp) (new_ints w 3 [192 + n / 64, 128 + n % 64])).mono ?_
    rintro e w1 ⟨rfl, hB⟩
    go_wp2_with fail
    go_ret2
    exact ⟨ret_text Q.out (by rw [QE.out]; rfl), below_new hB⟩
  · obtain ⟨b0, b1⟩ := hb.2.2.1 rfl
    have Q := Lib.hid (P3.out rfl)
    have QE := Lib.hid (HE.out)
    clear hb hr P0 P1 P2 P3 P4 HE
    go_enter Tryz.func223, Tryz.ntmps223
    go_wp2_with (first | (go_at_call 110; refine (C.out _).mono ?_; rintro e w' ⟨rfl, rfl⟩) | (go_at_call 238; refine (tail_any _ (by omega) (by omega) _).mono ?_; rintro e w' ⟨rfl, rfl⟩))
    rw [ior224 (by omega) (by omega)]
    refine (text_any [224 + n / 4096, 128 + n / 64 % 64, 128 + n % 64] 3 rfl (by omega) (by omega) (bytes3 (by omega) (by omega) (by omega)) w.heap.size _ (by simp) (new_ints w 3 [224 + n / 4096, 128 + n / 64 % 64, 128 + n % 64])).mono ?_
    rintro e w1 ⟨rfl, hB⟩
    go_wp2_with fail
    go_ret2
    exact ⟨ret_text Q.out (by rw [QE.out]; rfl), below_new hB⟩
  · obtain ⟨b0, b1⟩ := hb.2.2.2 rfl
    have Q := Lib.hid (P4.out rfl)
    have QE := Lib.hid (HE.out)
    clear hb hr P0 P1 P2 P3 P4 HE
    go_enter Tryz.func223, Tryz.ntmps223
    go_wp2_with (first | (go_at_call 110; refine (C.out _).mono ?_; rintro e w' ⟨rfl, rfl⟩) | (go_at_call 238; refine (tail_any _ (by omega) (by omega) _).mono ?_; rintro e w' ⟨rfl, rfl⟩))
    rw [ior240 (by omega) (by omega)]
    refine (text_any [240 + n / 262144, 128 + n / 4096 % 64, 128 + n / 64 % 64, 128 + n % 64] 4 rfl (by omega) (by omega) (bytes4 (by omega) (by omega) (by omega) (by omega)) w.heap.size _ (by simp) (new_ints w 3 [240 + n / 262144, 128 + n / 4096 % 64, 128 + n / 64 % 64, 128 + n % 64])).mono ?_
    rintro e w1 ⟨rfl, hB⟩
    go_wp2_with fail
    go_ret2
    exact ⟨ret_text Q.out (by rw [QE.out]; rfl), below_new hB⟩

theorem conv_new (w : World) (xs : List Int) :
    (convert 102 9 (.slice (some ⟨w.heap.size, 0, none⟩) xs.length xs.length)).run Tryz.prog (w.alloc (.cells (xs.map (Value.int .u8)).toArray 5)) = .ok (.string (strOfNums xs)) (w.alloc (.cells (xs.map (Value.int .u8)).toArray 5)) :=
  run_convert_bytes_arg (P := Tryz.prog) _ 102 5 Tryz.underlying102 Tryz.underlying5 w.heap.size 0 xs.length xs.length xs rfl (fun i hi => by
    rw [Nat.zero_add]
    refine (World.rowIs_alloc w (xs.map (Value.int .u8)).toArray 5 (fun i => .int .u8 (xs.getD i 0)) (fun j hj => ?_)).cell (by simpa using hi)
    have hj' : j < xs.length := by simpa using hj
    simp [List.getD_eq_getElem?_getD, List.getElem?_eq_getElem hj']) 9 Tryz.underlying9

set_option maxRecDepth 100000 in
set_option maxHeartbeats 1000000 in
theorem rput_any (n : Int) (w : World) :
    Calls Tryz.prog 163 #[.int .i64 n] w fun e w' => e = .returned (.tuple #[.string (putS n), .int .i64 (putE n)]) ∧ Below w.heap.size w w' := by
  have C := Lib.hid (fun w => Sign_any n w)
  have hr := sizeI_range n
  have hb := @size_bounds n
  have HE : Hid (putE n = if sizeI n = 0 then 2 else 0) := rfl
  have P1 := Lib.hid (@putL_one n)
  have P2 := Lib.hid (@putL_two n)
  have P3 := Lib.hid (@putL_three n)
  have P4 := Lib.hid (@putL_four n)
  have P0 := Lib.hid (@putL_none n)
  generalize putS n = z at *
  generalize putE n = pe at *
  generalize sizeI n = k at *
  have hk : k = 0 ∨ k = 1 ∨ k = 2 ∨ k = 3 ∨ k = 4 := by omega
  have HS := Lib.hid hk
  clear hk
  rcases HS.out with rfl | rfl | rfl | rfl | rfl
  · have Q := Lib.hid (P0.out rfl)
    have QE := Lib.hid (HE.out)
    clear hb hr P0 P1 P2 P3 P4 HE
    go_enter Tryz.func163, Tryz.ntmps163
    go_wp2_with (go_at_call 200; refine (C.out _).mono ?_; rintro e w' ⟨rfl, rfl⟩)
    go_ret2
    exact ⟨ret_text Q.out.symm (by rw [QE.out]; rfl), Below.refl _ _⟩
  · obtain ⟨b0, b1⟩ := hb.1 rfl
    have Q := Lib.hid (P1.out rfl)
    have QE := Lib.hid (HE.out)
    clear hb hr P0 P1 P2 P3 P4 HE
    have hrun := conv_new w [n]
    simp only [List.map_cons, List.map_nil, List.length_cons, List.length_nil, Nat.zero_add] at hrun
    go_enter Tryz.func163, Tryz.ntmps163
    go_wp2_with (go_at_call 200; refine (C.out _).mono ?_; rintro e w' ⟨rfl, rfl⟩)
    go_ret2
    exact ⟨ret_text Q.out (by rw [QE.out]; rfl), (Below.refl _ _).alloc (Nat.le_refl _) _⟩
  · obtain ⟨b0, b1⟩ := hb.2.1 rfl
    have Q := Lib.hid (P2.out rfl)
    have QE := Lib.hid (HE.out)
    clear hb hr P0 P1 P2 P3 P4 HE
    have hrun := conv_new w [192 + n / 64, 128 + n % 64]
    simp only [List.map_cons, List.map_nil, List.length_cons, List.length_nil, Nat.zero_add] at hrun
    go_enter Tryz.func163, Tryz.ntmps163
    go_wp2_with (go_at_call 200; refine (C.out _).mono ?_; rintro e w' ⟨rfl, rfl⟩)
    go_ret2
    exact ⟨ret_text Q.out (by rw [QE.out]; rfl), (Below.refl _ _).alloc (Nat.le_refl _) _⟩
  · obtain ⟨b0, b1⟩ := hb.2.2.1 rfl
    have Q := Lib.hid (P3.out rfl)
    have QE := Lib.hid (HE.out)
    clear hb hr P0 P1 P2 P3 P4 HE
    have hrun := conv_new w [224 + n / 4096, 128 + n / 64 % 64, 128 + n % 64]
    simp only [List.map_cons, List.map_nil, List.length_cons, List.length_nil, Nat.zero_add] at hrun
    go_enter Tryz.func163, Tryz.ntmps163
    go_wp2_with (go_at_call 200; refine (C.out _).mono ?_; rintro e w' ⟨rfl, rfl⟩)
    go_ret2
    exact ⟨ret_text Q.out (by rw [QE.out]; rfl), (Below.refl _ _).alloc (Nat.le_refl _) _⟩
  · obtain ⟨b0, b1⟩ := hb.2.2.2 rfl
    have Q := Lib.hid (P4.out rfl)
    have QE := Lib.hid (HE.out)
    clear hb hr P0 P1 P2 P3 P4 HE
    have hrun := conv_new w [240 + n / 262144, 128 + n / 4096 % 64, 128 + n / 64 % 64, 128 + n % 64]
    simp only [List.map_cons, List.map_nil, List.length_cons, List.length_nil, Nat.zero_add] at hrun
    go_enter Tryz.func163, Tryz.ntmps163
    go_wp2_with (go_at_call 200; refine (C.out _).mono ?_; rintro e w' ⟨rfl, rfl⟩)
    go_ret2
    exact ⟨ret_text Q.out (by rw [QE.out]; rfl), (Below.refl _ _).alloc (Nat.le_refl _) _⟩
end Go.Proofs.YtnkfodelgpidkaaGreatDoor
namespace Go.Proofs.YtnkfodelgpidkaaGreatDoor
open Go.RowKit
set_option linter.unusedVariables false

theorem list_size (s : ByteArray) : s.data.toList.length = s.size := (Lib.size_eq s).symm

set_option maxRecDepth 100000 in
set_option maxHeartbeats 1000000 in
theorem next_out (s : ByteArray) (hs : s.size ≤ 9223372036854775807) (i : Int) (h : i < 0 ∨ (s.size : Int) ≤ i) (w : World) :
    Calls Tryz.prog 54 #[.string s, .int .i64 i] w fun e w' => e = .returned (.tuple #[.int .i64 (-1), .int .i64 0]) ∧ w = w' := by
  rcases h with h | h
  · go_enter Tryz.func54, Tryz.ntmps54
    go_wp2
    go_ret2
    exact ⟨rfl, rfl⟩
  · have h2 : ¬ i < 0 := by omega
    go_enter Tryz.func54, Tryz.ntmps54
    go_wp2
    go_ret2
    exact ⟨rfl, rfl⟩

set_option maxRecDepth 100000 in
set_option maxHeartbeats 2000000 in
theorem next_any (s : ByteArray) (hs : s.size ≤ 9223372036854775807) (k : Nat) (hk : k < s.size) (w : World) :
    Calls Tryz.prog 54 #[.string s, .int .i64 (k : Int)] w fun e w' => e = .returned (.tuple #[.int .i64 (signAt s.data.toList k), .int .i64 (stepAt s.data.toList k : Nat)]) ∧ w = w' := by
  have hl := list_size s
  have hc0 : (0 : Int) ≤ (s[k].toNat : Int) := Int.natCast_nonneg _
  have hc1 : (s[k].toNat : Int) < 256 := by have := s[k].toNat_lt; omega
  have C := Lib.hid (fun w => lead_any (s[k].toNat : Int) hc0 hc1 w)
  have HB := Lib.hid (by8_in hk)
  have hr := led_range hc0 hc1
  have Z := Lib.hid (@at_zero s.data.toList k)
  have SL := Lib.hid (size_of_led s.data.toList k)
  have O1 := Lib.hid (@at_one s.data.toList k)
  have OV := Lib.hid (at_over (L := s.data.toList) (k := k) (by omega))
  have OW := Lib.hid (fun m : Nat => @at_whole s.data.toList k m)
  have OB := Lib.hid (fun t : Nat => @at_bad s.data.toList k t)
  rw [HB.out] at SL O1 OV OW OB
  have HL := Lib.hid hl
  clear hl
  generalize signAt s.data.toList k = x at *
  generalize stepAt s.data.toList k = y at *
  generalize hu : ledU (s[k].toNat : Int) = u at *
  generalize hm : ledN (s[k].toNat : Int) = m at *
  clear hu hm
  obtain ⟨r0, r1, r2, r3, r4, r5⟩ := hr
  by_cases h0 : m = 0
  · have hz : sizeAt s.data.toList k = 0 := by rcases SL.out with h | h <;> omega
    have E := Lib.hid (Z.out hz)
    subst h0
    clear hz
    go_enter Tryz.func54, Tryz.ntmps54
    go_wp2_with (go_at_call 109; refine (C.out _).mono ?_; rintro e w' ⟨rfl, rfl⟩)
    go_ret2
    exact ⟨ret_ints E.out.1.symm (by rw [E.out.2]; rfl), rfl⟩
  · by_cases h1 : m = 1
    · have E := Lib.hid (O1.out h1)
      subst h1
      have S := Lib.hid (fun w => sizeOf_any u w)
      rw [E.out.2.2.1] at S
      clear r4 h0
      go_enter Tryz.func54, Tryz.ntmps54
      go_wp2_with (go_at_call 109; refine (C.out _).mono ?_; rintro e w' ⟨rfl, rfl⟩)
      go_loop [4, 5, 6] (fun v n i => v = .int .i64 u ∧ n = .int .i64 1 ∧ i = .int .i64 1) (fun _ _ _ => 0)
      case atStart => exact ⟨rfl, rfl, rfl⟩
      case round =>
        obtain ⟨rfl, rfl, rfl⟩ := hrel
        go_wp2_with (go_at_call 110; refine (S.out _).mono ?_; rintro e w' ⟨rfl, rfl⟩)
        go_ret2
        exact ⟨ret_ints E.out.1.symm (by rw [E.out.2.1]; rfl), rfl⟩
    · obtain ⟨m, rfl⟩ : ∃ n : Nat, m = n := ⟨m.toNat, by omega⟩
      have m2 : 2 ≤ m := by omega
      have m4 : m ≤ 4 := by omega
      by_cases hf : (s.size : Int) - k < m
      · have E := Lib.hid (Z.out (OV.out (by rw [HL.out]; omega)))
        have hne : ((m : Int) == 0) = false := by rw [beq_eq_false_iff_ne]; omega
        go_enter Tryz.func54, Tryz.ntmps54
        go_wp2_with (go_at_call 109; refine (C.out _).mono ?_; rintro e w' ⟨rfl, rfl⟩)
        go_ret2
        exact ⟨ret_ints E.out.1.symm (by rw [E.out.2]; rfl), rfl⟩
      · have hne : ((m : Int) == 0) = false := by rw [beq_eq_false_iff_ne]; omega
        go_enter Tryz.func54, Tryz.ntmps54
        go_wp2_with (go_at_call 109; refine (C.out _).mono ?_; rintro e w' ⟨rfl, rfl⟩)
        go_loop [4, 5, 6] (fun v n i => ∃ j : Nat, n = .int .i64 (m : Int) ∧ i = .int .i64 ((j + 1 : Nat) : Int) ∧ j + 1 ≤ m ∧ v = .int .i64 (accA s.data.toList k u j) ∧ Hid (tails s.data.toList k j)) (fun _ _ i => 4 - (intOf i).toNat)
        case atStart => exact ⟨0, rfl, rfl, by omega, rfl, fun t h1 h2 => absurd h2 (by omega)⟩
        case round =>
          obtain ⟨j, rfl, rfl, hj, rfl, HT⟩ := hrel
          have ha := accA_bound s.data.toList k r2 (r5 (by omega)) (show j ≤ 3 by omega)
          by_cases hlt : j + 1 < m
          · have hin : k + (j + 1) < s.size := by omega
            have hb0 : (0 : Int) ≤ (s[k + (j + 1)].toNat : Int) := Int.natCast_nonneg _
            have hb1 : (s[k + (j + 1)].toNat : Int) < 256 := by have := s[k + (j + 1)].toNat_lt; omega
            have HBJ := Lib.hid (by8_in hin)
            have HA : Hid (accA s.data.toList k u (j + 1) = accA s.data.toList k u j * 64 + by8 s.data.toList (k + (j + 1)) % 64) := rfl
            have OBJ := Lib.hid (fun h => OB.out (j + 1) (by omega) (by omega) h)
            rw [HBJ.out] at HA OBJ
            have N63 := Lib.hid (not63 hb0 hb1)
            by_cases ht : 128 ≤ (s[k + (j + 1)].toNat : Int) ∧ (s[k + (j + 1)].toNat : Int) < 192
            · have hq : (bits .andNot .u8 (s[k + (j + 1)].toNat : Int) 63 != 128) = false := by rw [N63.out, bne_eq_false_iff_eq]; omega
              go_wp2
              refine ⟨⟨j + 1, rfl, by go_num, by omega, ?_, ?_⟩, by simp [intOf]; omega⟩
              · rw [ior6 (by omega) (by omega) (by omega) (by omega) (by omega), HA.out]
              · intro t h1 h2
                by_cases e : t ≤ j
                · exact HT.out t h1 e
                · obtain rfl : t = j + 1 := by omega
                  rw [HBJ.out]; exact ht
            · have hq : (bits .andNot .u8 (s[k + (j + 1)].toNat : Int) 63 != 128) = true := by rw [N63.out, bne_iff_ne]; omega
              have E := Lib.hid (Z.out (OBJ.out ht))
              go_wp2
              go_ret2
              exact ⟨ret_ints E.out.1.symm (by rw [E.out.2]; rfl), rfl⟩
          · have hjm : j + 1 = m := by omega
            have hd := Lib.hid (OW.out m rfl m2 (by rw [← hjm]; exact HT.out))
            rw [← hjm, Nat.add_sub_cancel] at hd
            have S := Lib.hid (fun w => sizeOf_any (accA s.data.toList k u j) w)
            generalize accA s.data.toList k u j = a at *
            generalize sizeI a = sz at *
            rcases hd.out with ⟨d1, d2⟩ | ⟨d1, d2⟩
            · have hq : (sz != (m : Int)) = false := by rw [bne_eq_false_iff_eq]; omega
              have E := Lib.hid d2
              clear d1 d2
              go_wp2_with (go_at_call 110; refine (S.out _).mono ?_; rintro e w' ⟨rfl, rfl⟩)
              go_ret2
              exact ⟨ret_ints E.out.1.symm (by rw [E.out.2, hjm]), rfl⟩
            · have hq : (sz != (m : Int)) = true := by rw [bne_iff_ne]; omega
              have E := Lib.hid (Z.out d2)
              clear d1 d2
              go_wp2_with (go_at_call 110; refine (S.out _).mono ?_; rintro e w' ⟨rfl, rfl⟩)
              go_ret2
              exact ⟨ret_ints E.out.1.symm (by rw [E.out.2]; rfl), rfl⟩
end Go.Proofs.YtnkfodelgpidkaaGreatDoor
namespace Go.Proofs.YtnkfodelgpidkaaGreatDoor
open Go.RowKit
set_option linter.unusedVariables false

/-- The first byte less what its kind has above the bits. -/
def offI (j : Nat) : Int := if j = 2 then 192 else if j = 3 then 224 else if j = 4 then 240 else 0
def gsA (L : List UInt8) (k : Nat) (u : Int) : Nat → Int
  | 0 => u
  | j + 1 => gsA L k u j * 64 + by8 L (k + (j + 1)) - 128
theorem gsA_is (L : List UInt8) (k j : Nat) (h1 : 1 ≤ j) (h4 : j ≤ 4) : gsA L k (by8 L k - offI j) (j - 1) = gsI L k j := by
  rcases (by omega : j = 1 ∨ j = 2 ∨ j = 3 ∨ j = 4) with rfl | rfl | rfl | rfl <;> unfold gsI offI <;> simp [gsA, n2, n3, n4] <;> omega
theorem gsA_bound (L : List UInt8) (k : Nat) {u : Int} (h0 : -256 ≤ u) (h1 : u < 256) {j : Nat} (hj : j ≤ 3) : -1000000000 ≤ gsA L k u j ∧ gsA L k u j ≤ 1000000000 := by
  have a1 := by8_lo L (k + 1); have a2 := by8_lo L (k + 2); have a3 := by8_lo L (k + 3)
  have b1 := by8_hi L (k + 1); have b2 := by8_hi L (k + 2); have b3 := by8_hi L (k + 3)
  rcases (by omega : j = 0 ∨ j = 1 ∨ j = 2 ∨ j = 3) with rfl | rfl | rfl | rfl <;> simp only [gsA, Nat.zero_add, Nat.reduceAdd] <;> omega

set_option maxRecDepth 100000 in
set_option maxHeartbeats 1000000 in
theorem guess_any (s : ByteArray) (j : Nat) (h1 : 1 ≤ j) (h4 : j ≤ 4) (hs : j ≤ s.size) (hm : s.size ≤ 9223372036854775807) (w : World) :
    Calls Tryz.prog 162 #[.string s, .int .i64 (j : Int)] w fun e w' => e = .returned (.int .i64 (gsI s.data.toList 0 j)) ∧ w = w' := by
  have h0 : 0 < s.size := by omega
  have hb0 : (0 : Int) ≤ (s[0].toNat : Int) := Int.natCast_nonneg _
  have hb1 : (s[0].toNat : Int) < 256 := by have := s[0].toNat_lt; omega
  have HB := Lib.hid (by8_in h0)
  have HG := Lib.hid (gsA_is s.data.toList 0 j h1 h4)
  have hu : -256 ≤ (s[0].toNat : Int) - offI j ∧ (s[0].toNat : Int) - offI j < 256 := by unfold offI; repeat' split
                                                                                         all_goals omega
  rw [HB.out] at HG
  have HO : Hid (offI j = if j = 2 then 192 else if j = 3 then 224 else if j = 4 then 240 else 0) := rfl
  generalize gsI s.data.toList 0 j = g at *
  generalize offI j = o at *
  rcases (by omega : j = 1 ∨ j = 2 ∨ j = 3 ∨ j = 4) with rfl | rfl | rfl | rfl
  all_goals
    have HO2 := Lib.hid (HO.out.trans (by rfl))
    obtain ⟨u, hu0⟩ : ∃ u, u = (s[0].toNat : Int) - o := ⟨_, rfl⟩
    rw [← hu0] at hu HG
    have HU := Lib.hid hu0
    clear hu0
    try rw [show ((1 : Nat) : Int) = 1 from rfl]
    go_enter Tryz.func162, Tryz.ntmps162
    go_wp2
  · go_loop [5, 6] (fun v i => ∃ t : Nat, i = .int .i64 ((t + 1 : Nat) : Int) ∧ t + 1 ≤ 1 ∧ v = .int .i64 (gsA s.data.toList 0 u t)) (fun _ i => 4 - (intOf i).toNat)
    case atStart => exact ⟨0, rfl, by omega, congrArg (Value.int .i64) (by show _ = u; rw [HU.out, HO2.out]; omega)⟩
    case round =>
      obtain ⟨t, rfl, ht, rfl⟩ := hrel
      have hr := gsA_bound s.data.toList 0 hu.1 hu.2 (show t ≤ 3 by omega)
      have hlt : ¬ t + 1 < 1 := by omega
      go_wp2
      go_ret
      exact ⟨ret_int (by rw [← HG.out, show 1 - 1 = t by omega]), rfl⟩
  · go_loop [5, 6] (fun v i => ∃ t : Nat, i = .int .i64 ((t + 1 : Nat) : Int) ∧ t + 1 ≤ 2 ∧ v = .int .i64 (gsA s.data.toList 0 u t)) (fun _ i => 4 - (intOf i).toNat)
    case atStart => exact ⟨0, rfl, by omega, congrArg (Value.int .i64) (by show _ = u; rw [HU.out, HO2.out]; simp)⟩
    case round =>
      obtain ⟨t, rfl, ht, rfl⟩ := hrel
      have hr := gsA_bound s.data.toList 0 hu.1 hu.2 (show t ≤ 3 by omega)
      by_cases hlt : t + 1 < 2
      · have hin : t + 1 < s.size := by omega
        have c0 : (0 : Int) ≤ (s[t + 1].toNat : Int) := Int.natCast_nonneg _
        have c1 : (s[t + 1].toNat : Int) < 256 := by have := s[t + 1].toNat_lt; omega
        have HBJ := Lib.hid (by8_in hin)
        have HA : Hid (gsA s.data.toList 0 u (t + 1) = gsA s.data.toList 0 u t * 64 + by8 s.data.toList (0 + (t + 1)) - 128) := rfl
        rw [Nat.zero_add, HBJ.out] at HA
        go_wp2
        refine ⟨⟨t + 1, by go_num, by omega, ?_⟩, by simp [intOf]; omega⟩
        rw [HA.out]
      · go_wp2
        go_ret
        exact ⟨ret_int (by rw [← HG.out, show 2 - 1 = t by omega]), rfl⟩
  · go_loop [5, 6] (fun v i => ∃ t : Nat, i = .int .i64 ((t + 1 : Nat) : Int) ∧ t + 1 ≤ 3 ∧ v = .int .i64 (gsA s.data.toList 0 u t)) (fun _ i => 4 - (intOf i).toNat)
    case atStart => exact ⟨0, rfl, by omega, congrArg (Value.int .i64) (by show _ = u; rw [HU.out, HO2.out]; simp)⟩
    case round =>
      obtain ⟨t, rfl, ht, rfl⟩ := hrel
      have hr := gsA_bound s.data.toList 0 hu.1 hu.2 (show t ≤ 3 by omega)
      by_cases hlt : t + 1 < 3
      · have hin : t + 1 < s.size := by omega
        have c0 : (0 : Int) ≤ (s[t + 1].toNat : Int) := Int.natCast_nonneg _
        have c1 : (s[t + 1].toNat : Int) < 256 := by have := s[t + 1].toNat_lt; omega
        have HBJ := Lib.hid (by8_in hin)
        have HA : Hid (gsA s.data.toList 0 u (t + 1) = gsA s.data.toList 0 u t * 64 + by8 s.data.toList (0 + (t + 1)) - 128) := rfl
        rw [Nat.zero_add, HBJ.out] at HA
        go_wp2
        refine ⟨⟨t + 1, by go_num, by omega, ?_⟩, by simp [intOf]; omega⟩
        rw [HA.out]
      · go_wp2
        go_ret
        exact ⟨ret_int (by rw [← HG.out, show 3 - 1 = t by omega]), rfl⟩
  · go_loop [5, 6] (fun v i => ∃ t : Nat, i = .int .i64 ((t + 1 : Nat) : Int) ∧ t + 1 ≤ 4 ∧ v = .int .i64 (gsA s.data.toList 0 u t)) (fun _ i => 4 - (intOf i).toNat)
    case atStart => exact ⟨0, rfl, by omega, congrArg (Value.int .i64) (by show _ = u; rw [HU.out, HO2.out]; simp)⟩
    case round =>
      obtain ⟨t, rfl, ht, rfl⟩ := hrel
      have hr := gsA_bound s.data.toList 0 hu.1 hu.2 (show t ≤ 3 by omega)
      by_cases hlt : t + 1 < 4
      · have hin : t + 1 < s.size := by omega
        have c0 : (0 : Int) ≤ (s[t + 1].toNat : Int) := Int.natCast_nonneg _
        have c1 : (s[t + 1].toNat : Int) < 256 := by have := s[t + 1].toNat_lt; omega
        have HBJ := Lib.hid (by8_in hin)
        have HA : Hid (gsA s.data.toList 0 u (t + 1) = gsA s.data.toList 0 u t * 64 + by8 s.data.toList (0 + (t + 1)) - 128) := rfl
        rw [Nat.zero_add, HBJ.out] at HA
        go_wp2
        refine ⟨⟨t + 1, by go_num, by omega, ?_⟩, by simp [intOf]; omega⟩
        rw [HA.out]
      · go_wp2
        go_ret
        exact ⟨ret_int (by rw [← HG.out, show 4 - 1 = t by omega]), rfl⟩

theorem by8_extract {s : ByteArray} {a b i : Nat} (hb : b ≤ s.size) (hi : a + i < b) : by8 (s.extract a b).data.toList i = by8 s.data.toList (a + i) := by
  unfold by8
  rw [Lib.extract_data]
  congr 2
  rw [List.getD_eq_getElem?_getD, List.getD_eq_getElem?_getD, List.getElem?_take_of_lt (by omega), List.getElem?_drop]
theorem gsI_extract {s : ByteArray} {k j : Nat} (h1 : 1 ≤ j) (h4 : j ≤ 4) (h : k + j ≤ s.size) : gsI (s.extract k (k + j)).data.toList 0 j = gsI s.data.toList k j := by
  rcases (by omega : j = 1 ∨ j = 2 ∨ j = 3 ∨ j = 4) with rfl | rfl | rfl | rfl
  · unfold gsI; rw [if_pos rfl, if_pos rfl, by8_extract h (by omega)]; rfl
  · unfold gsI; rw [if_neg (by decide), if_pos rfl, if_neg (by decide), if_pos rfl, by8_extract h (by omega), by8_extract h (by omega)]; rfl
  · unfold gsI; rw [if_neg (by decide), if_neg (by decide), if_pos rfl, if_neg (by decide), if_neg (by decide), if_pos rfl, by8_extract h (by omega), by8_extract h (by omega), by8_extract h (by omega)]; rfl
  · unfold gsI; rw [if_neg (by decide), if_neg (by decide), if_neg (by decide), if_neg (by decide), if_neg (by decide), if_neg (by decide), by8_extract h (by omega), by8_extract h (by omega), by8_extract h (by omega), by8_extract h (by omega)]; rfl

set_option maxRecDepth 100000 in
set_option maxHeartbeats 1000000 in
theorem rnext_out (s : ByteArray) (hs : s.size ≤ 9223372036854775807) (i : Int) (h : i < 0 ∨ (s.size : Int) ≤ i) (w : World) :
    Calls Tryz.prog 90 #[.string s, .int .i64 i] w fun e w' => e = .returned (.tuple #[.int .i64 (-1), .int .i64 0]) ∧ w = w' := by
  rcases h with h | h
  · go_enter Tryz.func90, Tryz.ntmps90
    go_wp2
    go_ret2
    exact ⟨rfl, rfl⟩
  · have h2 : ¬ i < 0 := by omega
    go_enter Tryz.func90, Tryz.ntmps90
    go_wp2
    go_ret2
    exact ⟨rfl, rfl⟩

set_option maxRecDepth 100000 in
set_option maxHeartbeats 2000000 in
theorem rnext_any (s : ByteArray) (hs : s.size ≤ 9223372036854775807) (k : Nat) (hk : k < s.size) (w : World) :
    Calls Tryz.prog 90 #[.string s, .int .i64 (k : Int)] w fun e w' => e = .returned (.tuple #[.int .i64 (signAt s.data.toList k), .int .i64 (stepAt s.data.toList k : Nat)]) ∧ Below w.heap.size w w' := by
  have HL := Lib.hid (list_size s)
  have Z := Lib.hid (@at_zero s.data.toList k)
  have SS := Lib.hid (fun j : Nat => @sign_size s.data.toList k j)
  have MA := Lib.hid (fun j : Nat => @match_any s.data.toList k j)
  have SR : Hid (0 ≤ sizeAt s.data.toList k ∧ sizeAt s.data.toList k ≤ 4) := siz4_range _ _ _ _
  have SI := Lib.hid (step_in (L := s.data.toList) (k := k) (by rw [HL.out]; exact hk))
  generalize signAt s.data.toList k = x at *
  generalize hy : stepAt s.data.toList k = y at *
  have HY := Lib.hid hy
  clear hy
  have hd1 : decide (s.size ≤ k) = false := decide_eq_false (by omega)
  have hd2 : decide ((k : Int) < 0) = false := decide_eq_false (by omega)
  go_enter Tryz.func90, Tryz.ntmps90
  go_wp2_with fail
  go_loopw [6] (fun i wr => ∃ j : Nat, i = .int .i64 ((j + 1 : Nat) : Int) ∧ j ≤ 4 ∧ Hid (∀ t : Nat, 1 ≤ t → t ≤ j → sizeAt s.data.toList k ≠ (t : Int)) ∧ Below w.heap.size w wr) (fun i _ => 5 - (intOf i).toNat)
  case atStart => exact ⟨0, rfl, by omega, fun t h1 h2 => absurd h2 (by omega), Below.refl _ _⟩
  case round =>
    rename_i wr hrel
    obtain ⟨j, rfl, hj, HN, hB⟩ := hrel
    by_cases hin : j + 1 ≤ 4 ∧ k + (j + 1) ≤ s.size
    · obtain ⟨g1, g2⟩ := hin
      have GA := Lib.hid (fun w => guess_any (s.extract k (k + (j + 1))) (j + 1) (by omega) g1 (by rw [ByteArray.size_extract]; omega) (by rw [ByteArray.size_extract]; omega) w)
      rw [gsI_extract (by omega) g1 g2] at GA
      have MJ := Lib.hid (MA.out (j + 1) (by omega) g1 (by rw [HL.out]; exact g2))
      have g3 : ((j + 1 : Nat) : Int) ≤ (s.size : Int) - (k : Int) := by omega
      have P := Lib.hid (fun w => rput_any (gsI s.data.toList k (j + 1)) w)
      have PE : Hid (putE (gsI s.data.toList k (j + 1)) = if sizeI (gsI s.data.toList k (j + 1)) = 0 then 2 else 0) := rfl
      have PL : Hid ((putS (gsI s.data.toList k (j + 1))).data.toList = putL (gsI s.data.toList k (j + 1))) := rfl
      have SJ := Lib.hid (SS.out (j + 1) (by omega) g1)
      have HX : Hid ((s.extract k (k + (j + 1))).data.toList = (s.data.toList.drop k).take (j + 1)) := by show _ = _; rw [Lib.extract_data, Nat.add_sub_cancel_left]
      have T1 := Lib.hid (Lib.toList_data (s.extract k (k + (j + 1))))
      have T2 := Lib.hid (Lib.toList_data (putS (gsI s.data.toList k (j + 1))))
      generalize gsI s.data.toList k (j + 1) = g at *
      by_cases h0 : sizeI g = 0
      · have hne : (putE g == 0) = false := by rw [PE.out, if_pos h0]; rfl
        have hnz : sizeAt s.data.toList k ≠ ((j + 1 : Nat) : Int) := fun h => (MJ.out.2 h).1 h0
        have HNZ := Lib.hid hnz
        clear hnz
        generalize putE g = pe at *
        generalize putS g = pt at *
        go_wp2_with (first | (go_at_call 162; refine (GA.out _).mono ?_; rintro e w' ⟨rfl, rfl⟩) | (go_at_call 163; refine (P.out _).mono ?_; rintro e w1 ⟨rfl, hB1⟩))
        go_roundw
        case rel =>
          refine ⟨j + 1, by go_num, by omega, ?_, below_trans hB hB1 hB.size⟩
          intro t h1 h2
          by_cases e : t ≤ j
          · exact HN.out t h1 e
          · obtain rfl : t = j + 1 := by omega
            exact HNZ.out
        case measure => simp [intOf]; omega
      · have hne : (putE g == 0) = true := by rw [PE.out, if_neg h0]; rfl
        generalize putE g = pe at *
        by_cases hm : putL g = (s.data.toList.drop k).take (j + 1)
        · have hq : ((putS g).toList == (s.extract k (k + (j + 1))).toList) = true := by rw [T1.out, T2.out, PL.out, HX.out, hm]; exact beq_self_eq_true _
          have E := Lib.hid (SJ.out (MJ.out.1 ⟨h0, hm⟩))
          generalize putS g = pt at *
          go_wp2_with (first | (go_at_call 162; refine (GA.out _).mono ?_; rintro e w' ⟨rfl, rfl⟩) | (go_at_call 163; refine (P.out _).mono ?_; rintro e w1 ⟨rfl, hB1⟩))
          go_ret2
          exact ⟨ret_ints E.out.1.symm (by rw [E.out.2]; rfl), below_trans hB hB1 hB.size⟩
        · have hq : ((putS g).toList == (s.extract k (k + (j + 1))).toList) = false := by rw [T1.out, T2.out, PL.out, HX.out, beq_eq_false_iff_ne]; exact hm
          have hnz : sizeAt s.data.toList k ≠ ((j + 1 : Nat) : Int) := fun h => hm (MJ.out.2 h).2
          have HNZ := Lib.hid hnz
          clear hnz
          generalize putS g = pt at *
          go_wp2_with (first | (go_at_call 162; refine (GA.out _).mono ?_; rintro e w' ⟨rfl, rfl⟩) | (go_at_call 163; refine (P.out _).mono ?_; rintro e w1 ⟨rfl, hB1⟩))
          go_roundw
          case rel =>
            refine ⟨j + 1, by go_num, by omega, ?_, below_trans hB hB1 hB.size⟩
            intro t h1 h2
            by_cases e : t ≤ j
            · exact HN.out t h1 e
            · obtain rfl : t = j + 1 := by omega
              exact HNZ.out
          case measure => simp [intOf]; omega
    · have hz : sizeAt s.data.toList k = 0 := by
        by_cases h0 : sizeAt s.data.toList k = 0
        · exact h0
        · exfalso
          have hy : y = (sizeAt s.data.toList k).toNat := by rw [← HY.out]; unfold stepAt; rw [if_neg h0]
          have hr := SR.out
          have hi := SI.out
          rw [HL.out] at hi
          have := HN.out (sizeAt s.data.toList k).toNat (by omega) (by omega)
          omega
      have E := Lib.hid (Z.out hz)
      clear hz
      by_cases g1 : j + 1 ≤ 4
      · have g3 : ¬ ((j + 1 : Nat) : Int) ≤ (s.size : Int) - (k : Int) := by omega
        go_wp2_with fail
        go_ret2
        exact ⟨ret_ints E.out.1.symm (by rw [E.out.2]; rfl), hB⟩
      · go_wp2_with fail
        go_ret2
        exact ⟨ret_ints E.out.1.symm (by rw [E.out.2]; rfl), hB⟩
end Go.Proofs.YtnkfodelgpidkaaGreatDoor
namespace Go.Proofs.YtnkfodelgpidkaaGreatDoor
open Go.RowKit
set_option linter.unusedVariables false

theorem sign_neg (L : List UInt8) (k : Nat) : signAt L k < 0 ↔ signAt L k = -1 := by
  have := sign_range L k; omega

set_option maxRecDepth 100000 in
set_option maxHeartbeats 1000000 in
theorem check_any (s : ByteArray) (hs : s.size ≤ 1000000) (w : World) :
    Calls Tryz.prog 33 #[.string s] w fun e w' => e = .returned (.tuple #[.int .i64 (chkA s.data.toList), .int .i64 (chkE s.data.toList)]) ∧ w = w' := by
  have HL := Lib.hid (list_size s)
  have HA : Hid (chkA s.data.toList = match chk s.data.toList 0 with | some k => (k : Int) | none => 0) := rfl
  have HE : Hid (chkE s.data.toList = match chk s.data.toList 0 with | some _ => 4 | none => 0) := rfl
  generalize chkA s.data.toList = ca at *
  generalize chkE s.data.toList = ce at *
  go_enter Tryz.func33, Tryz.ntmps33
  go_wp2_with fail
  go_loop [2] (fun i => ∃ k : Nat, i = .int .i64 (k : Int) ∧ k ≤ s.size ∧ Hid (chk s.data.toList 0 = chk s.data.toList k)) (fun i => s.size - (intOf i).toNat)
  case atStart => exact ⟨0, rfl, by omega, rfl⟩
  case round =>
    obtain ⟨k, rfl, hk, HC⟩ := hrel
    by_cases hlt : k < s.size
    · have N := Lib.hid (fun w => next_any s (by omega) k hlt w)
      have hsr := stepAt_range s.data.toList k
      have hin := step_in (L := s.data.toList) (k := k) (by rw [HL.out]; exact hlt)
      rw [HL.out] at hin
      have HB := Lib.hid (@chk_bad s.data.toList k (by rw [HL.out]; exact hlt))
      have HM := Lib.hid (@chk_more s.data.toList k (by rw [HL.out]; exact hlt))
      have HS := Lib.hid (sign_neg s.data.toList k)
      generalize signAt s.data.toList k = x at *
      generalize stepAt s.data.toList k = y at *
      by_cases hx : x = -1
      · have hq : (x == -1) = true := by rw [hx]; rfl
        have HR := Lib.hid (HC.out.trans (HB.out (HS.out.2 hx)))
        clear hx
        go_wp2_with (go_at_call 54; refine (N.out _).mono ?_; rintro e w' ⟨rfl, rfl⟩)
        go_ret2
        exact ⟨ret_ints (by rw [HA.out, HR.out]) (by rw [HE.out, HR.out]), rfl⟩
      · have hq : (x == -1) = false := by rw [beq_eq_false_iff_ne]; exact hx
        have HR := Lib.hid (HC.out.trans (HM.out (fun h => hx (HS.out.1 h))))
        clear hx
        go_wp2_with (go_at_call 54; refine (N.out _).mono ?_; rintro e w' ⟨rfl, rfl⟩)
        go_round
        case rel => exact ⟨k + y, by go_num, by omega, HR.out⟩
        case measure => simp [intOf]; omega
    · have HR := Lib.hid (HC.out.trans (chk_done (by rw [HL.out]; omega)))
      go_wp2_with fail
      go_ret2
      exact ⟨ret_ints (by rw [HA.out, HR.out]) (by rw [HE.out, HR.out]), rfl⟩

set_option maxRecDepth 100000 in
set_option maxHeartbeats 1000000 in
theorem rcheck_any (s : ByteArray) (hs : s.size ≤ 1000000) (w : World) :
    Calls Tryz.prog 48 #[.string s] w fun e w' => e = .returned (.tuple #[.int .i64 (chkA s.data.toList), .int .i64 (chkE s.data.toList)]) ∧ Below w.heap.size w w' := by
  have HL := Lib.hid (list_size s)
  have HA : Hid (chkA s.data.toList = match chk s.data.toList 0 with | some k => (k : Int) | none => 0) := rfl
  have HE : Hid (chkE s.data.toList = match chk s.data.toList 0 with | some _ => 4 | none => 0) := rfl
  generalize chkA s.data.toList = ca at *
  generalize chkE s.data.toList = ce at *
  go_enter Tryz.func48, Tryz.ntmps48
  go_wp2_with fail
  go_loopw [4] (fun i wr => ∃ k : Nat, i = .int .i64 (k : Int) ∧ k ≤ s.size ∧ Hid (chk s.data.toList 0 = chk s.data.toList k) ∧ Below w.heap.size w wr) (fun i _ => s.size - (intOf i).toNat)
  case atStart => exact ⟨0, rfl, by omega, rfl, Below.refl _ _⟩
  case round =>
    rename_i wr hrel
    obtain ⟨k, rfl, hk, HC, hB⟩ := hrel
    by_cases hlt : k < s.size
    · have N := Lib.hid (fun w => rnext_any s (by omega) k hlt w)
      have hsr := stepAt_range s.data.toList k
      have hin := step_in (L := s.data.toList) (k := k) (by rw [HL.out]; exact hlt)
      rw [HL.out] at hin
      have HB := Lib.hid (@chk_bad s.data.toList k (by rw [HL.out]; exact hlt))
      have HM := Lib.hid (@chk_more s.data.toList k (by rw [HL.out]; exact hlt))
      generalize signAt s.data.toList k = x at *
      generalize stepAt s.data.toList k = y at *
      by_cases hx : x < 0
      · have HR := Lib.hid (HC.out.trans (HB.out hx))
        go_wp2_with (go_at_call 90; refine (N.out _).mono ?_; rintro e w1 ⟨rfl, hB1⟩)
        go_ret2
        exact ⟨ret_ints (by rw [HA.out, HR.out]) (by rw [HE.out, HR.out]), below_trans hB hB1 hB.size⟩
      · have HR := Lib.hid (HC.out.trans (HM.out hx))
        go_wp2_with (go_at_call 90; refine (N.out _).mono ?_; rintro e w1 ⟨rfl, hB1⟩)
        go_roundw
        case rel => exact ⟨k + y, by go_num, by omega, HR.out, below_trans hB hB1 hB.size⟩
        case measure => simp [intOf]; omega
    · have HR := Lib.hid (HC.out.trans (chk_done (by rw [HL.out]; omega)))
      go_wp2_with fail
      go_ret2
      exact ⟨ret_ints (by rw [HA.out, HR.out]) (by rw [HE.out, HR.out]), hB⟩

end Go.Proofs.YtnkfodelgpidkaaGreatDoor
namespace Go.Proofs.YtnkfodelgpidkaaGreatDoor
open Go.RowKit
set_option linter.unusedVariables false

theorem by8_left {A : List UInt8} (B : List UInt8) {k : Nat} (h : k < A.length) : by8 (A ++ B) k = by8 A k := by
  unfold by8; rw [List.getD_eq_getElem?_getD, List.getD_eq_getElem?_getD, List.getElem?_append_left h]
theorem by8_right (A B : List UInt8) (k : Nat) : by8 (A ++ B) (A.length + k) = by8 B k := by
  unfold by8; rw [List.getD_eq_getElem?_getD, List.getD_eq_getElem?_getD, List.getElem?_append_right (by omega), Nat.add_sub_cancel_left]
theorem siz4_is (c d e f : Int) : (siz4 c d e f = 1 ↔ c < 128) ∧ (siz4 c d e f = 2 ↔ 192 ≤ c ∧ c < 224 ∧ 128 ≤ d ∧ d < 192 ∧ 128 ≤ n2 c d) ∧
    (siz4 c d e f = 3 ↔ 224 ≤ c ∧ c < 240 ∧ 128 ≤ d ∧ d < 192 ∧ 128 ≤ e ∧ e < 192 ∧ 2048 ≤ n3 c d e ∧ ¬ (55296 ≤ n3 c d e ∧ n3 c d e ≤ 57343)) ∧
    (siz4 c d e f = 4 ↔ 240 ≤ c ∧ c < 248 ∧ 128 ≤ d ∧ d < 192 ∧ 128 ≤ e ∧ e < 192 ∧ 128 ≤ f ∧ f < 192 ∧ 65536 ≤ n4 c d e f ∧ n4 c d e f ≤ 1114111) := by
  unfold siz4; (repeat' split) <;> omega
theorem sgn4_is (c d e f : Int) : (siz4 c d e f = 1 → sgn4 c d e f = c) ∧ (siz4 c d e f = 2 → sgn4 c d e f = n2 c d) ∧ (siz4 c d e f = 3 → sgn4 c d e f = n3 c d e) ∧ (siz4 c d e f = 4 → sgn4 c d e f = n4 c d e f) := by
  unfold sgn4
  refine ⟨?_, ?_, ?_, ?_⟩ <;> (intro h; rw [h]; rfl)
/-- What stands whole in the one text stands so in both. -/
theorem at_left {A : List UInt8} (B : List UInt8) {k : Nat} (hk : k < A.length) (h : sizeAt A k ≠ 0) : sizeAt (A ++ B) k = sizeAt A k ∧ signAt (A ++ B) k = signAt A k := by
  have hs := step_in hk
  have hr : 0 ≤ sizeAt A k ∧ sizeAt A k ≤ 4 := siz4_range _ _ _ _
  have hj : stepAt A k = (sizeAt A k).toNat := by unfold stepAt; rw [if_neg h]
  rw [hj] at hs
  have e0 := by8_left B hk
  rcases (by omega : sizeAt A k = 1 ∨ sizeAt A k = 2 ∨ sizeAt A k = 3 ∨ sizeAt A k = 4) with h1 | h1 | h1 | h1
  · have hz := (siz4_is (by8 A k) (by8 A (k + 1)) (by8 A (k + 2)) (by8 A (k + 3))).1.1 h1
    have hz2 : sizeAt (A ++ B) k = 1 := (siz4_is _ _ _ _).1.2 (by rw [e0]; exact hz)
    refine ⟨hz2.trans h1.symm, ?_⟩
    exact ((sgn4_is _ _ _ _).1 hz2).trans (e0.trans ((sgn4_is _ _ _ _).1 h1).symm)
  · have e1 := by8_left B (show k + 1 < A.length by omega)
    have hz := (siz4_is (by8 A k) (by8 A (k + 1)) (by8 A (k + 2)) (by8 A (k + 3))).2.1.1 h1
    have hz2 : sizeAt (A ++ B) k = 2 := (siz4_is _ _ _ _).2.1.2 (by rw [e0, e1]; exact hz)
    refine ⟨hz2.trans h1.symm, ?_⟩
    exact ((sgn4_is _ _ _ _).2.1 hz2).trans ((by rw [e0, e1] : n2 _ _ = n2 _ _).trans ((sgn4_is _ _ _ _).2.1 h1).symm)
  · have e1 := by8_left B (show k + 1 < A.length by omega)
    have e2 := by8_left B (show k + 2 < A.length by omega)
    have hz := (siz4_is (by8 A k) (by8 A (k + 1)) (by8 A (k + 2)) (by8 A (k + 3))).2.2.1.1 h1
    have hz2 : sizeAt (A ++ B) k = 3 := (siz4_is _ _ _ _).2.2.1.2 (by rw [e0, e1, e2]; exact hz)
    refine ⟨hz2.trans h1.symm, ?_⟩
    exact ((sgn4_is _ _ _ _).2.2.1 hz2).trans ((by rw [e0, e1, e2] : n3 _ _ _ = n3 _ _ _).trans ((sgn4_is _ _ _ _).2.2.1 h1).symm)
  · have e1 := by8_left B (show k + 1 < A.length by omega)
    have e2 := by8_left B (show k + 2 < A.length by omega)
    have e3 := by8_left B (show k + 3 < A.length by omega)
    have hz := (siz4_is (by8 A k) (by8 A (k + 1)) (by8 A (k + 2)) (by8 A (k + 3))).2.2.2.1 h1
    have hz2 : sizeAt (A ++ B) k = 4 := (siz4_is _ _ _ _).2.2.2.2 (by rw [e0, e1, e2, e3]; exact hz)
    refine ⟨hz2.trans h1.symm, ?_⟩
    exact ((sgn4_is _ _ _ _).2.2.2 hz2).trans ((by rw [e0, e1, e2, e3] : n4 _ _ _ _ = n4 _ _ _ _).trans ((sgn4_is _ _ _ _).2.2.2 h1).symm)
theorem at_right (A B : List UInt8) (k : Nat) : sizeAt (A ++ B) (A.length + k) = sizeAt B k ∧ signAt (A ++ B) (A.length + k) = signAt B k ∧ stepAt (A ++ B) (A.length + k) = stepAt B k := by
  have e : sizeAt (A ++ B) (A.length + k) = sizeAt B k := by unfold sizeAt; rw [by8_right, Nat.add_assoc, by8_right, Nat.add_assoc, by8_right, Nat.add_assoc, by8_right]
  refine ⟨e, ?_, ?_⟩
  · unfold signAt; rw [by8_right, Nat.add_assoc, by8_right, Nat.add_assoc, by8_right, Nat.add_assoc, by8_right]
  · unfold stepAt; rw [e]
theorem step_left {A : List UInt8} (B : List UInt8) {k : Nat} (hk : k < A.length) (h : sizeAt A k ≠ 0) : stepAt (A ++ B) k = stepAt A k := by
  unfold stepAt; rw [(at_left B hk h).1]

theorem chk_right (A B : List UInt8) : ∀ (n k : Nat), B.length - k ≤ n → chk (A ++ B) (A.length + k) = (chk B k).map (A.length + ·)
  | 0, k, h => by rw [chk_done (by rw [List.length_append]; omega), chk_done (by omega)]; rfl
  | n + 1, k, h => by
    by_cases hk : k < B.length
    · obtain ⟨e1, e2, e3⟩ := at_right A B k
      have hs := stepAt_range B k
      by_cases hb : signAt B k < 0
      · rw [chk_bad (by rw [List.length_append]; omega) (by rw [e2]; exact hb), chk_bad hk hb]; rfl
      · rw [chk_more (by rw [List.length_append]; omega) (by rw [e2]; exact hb), chk_more hk hb, e3, Nat.add_assoc]
        exact chk_right A B n _ (by omega)
    · rw [chk_done (by rw [List.length_append]; omega), chk_done (by omega)]; rfl
theorem chk_left (A B : List UInt8) : ∀ (n k : Nat), A.length - k ≤ n → k ≤ A.length → chk A k = none → chk (A ++ B) k = chk (A ++ B) A.length
  | 0, k, h, hk, _ => by rw [show k = A.length by omega]
  | n + 1, k, h, hk, hc => by
    by_cases hlt : k < A.length
    · have hb : ¬ signAt A k < 0 := by
        intro hb; rw [chk_bad hlt hb] at hc; cases hc
      have hz : sizeAt A k ≠ 0 := fun h => hb ((sign_range A k).2.2.1.2 h)
      have hs := stepAt_range A k
      have hi := step_in hlt
      rw [chk_more hlt hb] at hc
      rw [chk_more (by rw [List.length_append]; omega) (by rw [(at_left B hlt hz).2]; exact hb), step_left B hlt hz]
      exact chk_left A B n _ (by omega) hi hc
    · rw [show k = A.length by omega]
theorem chk_join {A B : List UInt8} (h : chk A 0 = none) : chk (A ++ B) 0 = (chk B 0).map (A.length + ·) := by
  rw [chk_left A B _ 0 (Nat.le_refl _) (Nat.zero_le _) h]
  exact chk_right A B _ 0 (Nat.le_refl _)
theorem stp_right (A B : List UInt8) : ∀ (n k : Nat), B.length - k ≤ n → stp (A ++ B) (A.length + k) (A ++ B).length = stp B k B.length
  | 0, k, h => by rw [stp_done (by rw [List.length_append]; omega), stp_done (by omega)]
  | n + 1, k, h => by
    by_cases hk : k < B.length
    · obtain ⟨e1, e2, e3⟩ := at_right A B k
      have hs := stepAt_range B k
      rw [stp_more (by rw [List.length_append]; omega), stp_more hk, e3, Nat.add_assoc]
      rw [stp_right A B n _ (by omega)]
    · rw [stp_done (by rw [List.length_append]; omega), stp_done (by omega)]
theorem stp_left (A B : List UInt8) : ∀ (n k : Nat), A.length - k ≤ n → k ≤ A.length → chk A k = none → stp (A ++ B) k (A ++ B).length = stp A k A.length + stp (A ++ B) A.length (A ++ B).length
  | 0, k, h, hk, _ => by rw [show k = A.length by omega, stp_done (L := A) (Nat.le_refl _), Nat.zero_add]
  | n + 1, k, h, hk, hc => by
    by_cases hlt : k < A.length
    · have hb : ¬ signAt A k < 0 := by
        intro hb; rw [chk_bad hlt hb] at hc; cases hc
      have hz : sizeAt A k ≠ 0 := fun h => hb ((sign_range A k).2.2.1.2 h)
      have hs := stepAt_range A k
      have hi := step_in hlt
      rw [chk_more hlt hb] at hc
      rw [stp_more (by rw [List.length_append]; omega), stp_more hlt, step_left B hlt hz, stp_left A B n _ (by omega) hi hc]
      omega
    · rw [show k = A.length by omega, stp_done (L := A) (Nat.le_refl _), Nat.zero_add]
theorem stp_join {A B : List UInt8} (h : chk A 0 = none) : stp (A ++ B) 0 (A ++ B).length = stp A 0 A.length + stp B 0 B.length := by
  rw [stp_left A B _ 0 (Nat.le_refl _) (Nat.zero_le _) h]
  rw [show stp (A ++ B) A.length (A ++ B).length = stp B 0 B.length from stp_right A B _ 0 (Nat.le_refl _)]

theorem chkE_zero {L : List UInt8} : chkE L = 0 ↔ chk L 0 = none := by
  unfold chkE
  cases chk L 0 with
  | none => simp
  | some k => simp
theorem chkE_join {A B : List UInt8} (h : chkE A = 0) : chkE (A ++ B) = chkE B := by
  unfold chkE
  rw [chk_join (chkE_zero.1 h)]
  cases chk B 0 <;> rfl
theorem chkA_zero {L : List UInt8} (h : chkE L = 0) : chkA L = 0 := by
  unfold chkA; rw [chkE_zero.1 h]
theorem chkE_range (L : List UInt8) : chkE L = 0 ∨ chkE L = 4 := by
  unfold chkE; cases chk L 0
  · left; rfl
  · right; rfl

/- What is put is told. -/
theorem put_told (A : List UInt8) {x : Int} (hx : sizeI x ≠ 0) : sizeAt (A ++ putL x) A.length = sizeI x ∧ signAt (A ++ putL x) A.length = x ∧ stepAt (A ++ putL x) A.length = (putL x).length := by
  have hr := sizeI_range x
  have hl := putL_length x
  have hs := @size_is x
  have key : sizeAt (putL x) 0 = sizeI x ∧ signAt (putL x) 0 = x := by
    rcases (by omega : sizeI x = 1 ∨ sizeI x = 2 ∨ sizeI x = 3 ∨ sizeI x = 4) with h | h | h | h
    · have hb := hs.1 h
      rw [put_one h, h]
      have e0 : by8 [b8 x] 0 = x := b8_nat (by omega) (by omega)
      unfold signAt
      have hz : sizeAt [b8 x] 0 = 1 := (siz4_is _ _ _ _).1.2 (by rw [e0]; omega)
      exact ⟨hz, ((sgn4_is _ _ _ _).1 hz).trans e0⟩
    · have hb := hs.2.1 h
      rw [put_two h, h]
      have e0 : by8 [b8 (192 + x / 64), b8 (128 + x % 64)] 0 = 192 + x / 64 := b8_nat (by omega) (by omega)
      have e1 : by8 [b8 (192 + x / 64), b8 (128 + x % 64)] (0 + 1) = 128 + x % 64 := b8_nat (by omega) (by omega)
      have ev : n2 (192 + x / 64) (128 + x % 64) = x := by unfold n2; omega
      unfold signAt
      have hz : sizeAt [b8 (192 + x / 64), b8 (128 + x % 64)] 0 = 2 := (siz4_is _ _ _ _).2.1.2 (by rw [e0, e1, ev]; omega)
      exact ⟨hz, ((sgn4_is _ _ _ _).2.1 hz).trans (by rw [e0, e1, ev])⟩
    · have hb := hs.2.2.1 h
      rw [put_three h, h]
      have e0 : by8 [b8 (224 + x / 4096), b8 (128 + x / 64 % 64), b8 (128 + x % 64)] 0 = 224 + x / 4096 := b8_nat (by omega) (by omega)
      have e1 : by8 [b8 (224 + x / 4096), b8 (128 + x / 64 % 64), b8 (128 + x % 64)] (0 + 1) = 128 + x / 64 % 64 := b8_nat (by omega) (by omega)
      have e2 : by8 [b8 (224 + x / 4096), b8 (128 + x / 64 % 64), b8 (128 + x % 64)] (0 + 2) = 128 + x % 64 := b8_nat (by omega) (by omega)
      have ev : n3 (224 + x / 4096) (128 + x / 64 % 64) (128 + x % 64) = x := by unfold n3; omega
      unfold signAt
      have hz : sizeAt [b8 (224 + x / 4096), b8 (128 + x / 64 % 64), b8 (128 + x % 64)] 0 = 3 := (siz4_is _ _ _ _).2.2.1.2 (by rw [e0, e1, e2, ev]; omega)
      exact ⟨hz, ((sgn4_is _ _ _ _).2.2.1 hz).trans (by rw [e0, e1, e2, ev])⟩
    · have hb := hs.2.2.2 h
      rw [put_four h, h]
      have e0 : by8 [b8 (240 + x / 262144), b8 (128 + x / 4096 % 64), b8 (128 + x / 64 % 64), b8 (128 + x % 64)] 0 = 240 + x / 262144 := b8_nat (by omega) (by omega)
      have e1 : by8 [b8 (240 + x / 262144), b8 (128 + x / 4096 % 64), b8 (128 + x / 64 % 64), b8 (128 + x % 64)] (0 + 1) = 128 + x / 4096 % 64 := b8_nat (by omega) (by omega)
      have e2 : by8 [b8 (240 + x / 262144), b8 (128 + x / 4096 % 64), b8 (128 + x / 64 % 64), b8 (128 + x % 64)] (0 + 2) = 128 + x / 64 % 64 := b8_nat (by omega) (by omega)
      have e3 : by8 [b8 (240 + x / 262144), b8 (128 + x / 4096 % 64), b8 (128 + x / 64 % 64), b8 (128 + x % 64)] (0 + 3) = 128 + x % 64 := b8_nat (by omega) (by omega)
      have ev : n4 (240 + x / 262144) (128 + x / 4096 % 64) (128 + x / 64 % 64) (128 + x % 64) = x := by unfold n4; omega
      unfold signAt
      have hz : sizeAt [b8 (240 + x / 262144), b8 (128 + x / 4096 % 64), b8 (128 + x / 64 % 64), b8 (128 + x % 64)] 0 = 4 := (siz4_is _ _ _ _).2.2.2.2 (by rw [e0, e1, e2, e3, ev]; omega)
      exact ⟨hz, ((sgn4_is _ _ _ _).2.2.2 hz).trans (by rw [e0, e1, e2, e3, ev])⟩
  obtain ⟨e1, e2, e3⟩ := at_right A (putL x) 0
  rw [Nat.add_zero] at e1 e2 e3
  refine ⟨e1.trans key.1, e2.trans key.2, ?_⟩
  rw [e3]; unfold stepAt; rw [if_neg (by omega), key.1]; omega
theorem put_right {x : Int} (hx : sizeI x ≠ 0) : chk (putL x) 0 = none ∧ stp (putL x) 0 (putL x).length = 1 := by
  obtain ⟨h1, h2, h3⟩ := put_told [] hx
  simp only [List.nil_append, List.length_nil] at h1 h2 h3
  have hl := putL_length x
  have hr := sizeI_range x
  have hpos : 0 < (putL x).length := by omega
  have hb : ¬ signAt (putL x) 0 < 0 := fun h => by
    have := (sign_range (putL x) 0).2.2.1.1 h
    omega
  constructor
  · rw [chk_more hpos hb, h3, chk_done (by omega)]
  · rw [stp_more hpos, h3, stp_done (by omega)]
/-- A right text with one sign more is right, and has one more. -/
theorem more_right {T : List UInt8} {x : Int} (hT : chk T 0 = none) (hx : sizeI x ≠ 0) : chk (T ++ putL x) 0 = none ∧ stp (T ++ putL x) 0 (T ++ putL x).length = stp T 0 T.length + 1 := by
  obtain ⟨h1, h2⟩ := put_right hx
  exact ⟨by rw [chk_join hT, h1]; rfl, by rw [stp_join hT, h2]⟩

/- Columns. -/
def adv (L : List UInt8) : Nat → Nat → Nat
  | 0, a => a
  | n + 1, a => adv L n (a + stepAt L a)
theorem adv_le (L : List UInt8) : ∀ n a, a ≤ adv L n a
  | 0, a => Nat.le_refl _
  | n + 1, a => by have := adv_le L n (a + stepAt L a); unfold adv; omega
theorem adv_next (L : List UInt8) (k : Nat) : ∀ (j b : Nat), k - b ≤ j → b ≤ k → adv L (stp L b k) b = k →
    stp L b (k + stepAt L k) = stp L b k + 1 ∧ adv L (stp L b (k + stepAt L k)) b = k + stepAt L k
  | j, b, hj, hb, h => by
    have hs := stepAt_range L k
    by_cases e : b = k
    · subst e
      rw [stp_more (by omega), stp_done (a := b + stepAt L b) (Nat.le_refl _), stp_done (a := b) (Nat.le_refl _)]
      exact ⟨rfl, rfl⟩
    · match j, hj with
      | 0, hj => exact absurd hj (by omega)
      | j + 1, hj =>
        have hsb := stepAt_range L b
        rw [stp_more (a := b) (to := k) (by omega)] at h
        have h2 : adv L (stp L (b + stepAt L b) k) (b + stepAt L b) = k := h
        have hle := adv_le L (stp L (b + stepAt L b) k) (b + stepAt L b)
        obtain ⟨i1, i2⟩ := adv_next L k j (b + stepAt L b) (by omega) (by omega) h2
        rw [stp_more (a := b) (to := k) (by omega), stp_more (a := b) (to := k + stepAt L k) (by omega), i1]
        rw [i1] at i2
        exact ⟨rfl, i2⟩
/-- Within a sign no line feed stands. -/
theorem no_feed {L : List UInt8} {k t : Nat} (h1 : k < t) (h2 : t < k + stepAt L k) : by8 L t ≠ 10 := by
  have hs := stepAt_range L k
  have hz : sizeAt L k ≠ 0 := by
    intro h; unfold stepAt at h2; rw [if_pos h] at h2; omega
  have hj : (stepAt L k : Int) = sizeAt L k := by
    have hr : 0 ≤ sizeAt L k := (siz4_range _ _ _ _).1
    unfold stepAt; rw [if_neg hz]; omega
  obtain ⟨i1, i2, i3, i4⟩ := siz4_is (by8 L k) (by8 L (k + 1)) (by8 L (k + 2)) (by8 L (k + 3))
  unfold sizeAt at hj
  rcases (by omega : stepAt L k = 1 ∨ stepAt L k = 2 ∨ stepAt L k = 3 ∨ stepAt L k = 4) with h | h | h | h
  · omega
  · obtain rfl : t = k + 1 := by omega
    have := i2.1 (by omega); omega
  · have := i3.1 (by omega)
    rcases (by omega : t = k + 1 ∨ t = k + 2) with rfl | rfl <;> omega
  · have := i4.1 (by omega)
    rcases (by omega : t = k + 1 ∨ t = k + 2 ∨ t = k + 3) with rfl | rfl | rfl <;> omega
theorem feeds_same (L : List UInt8) (k : Nat) : ∀ n, k + 1 + n ≤ k + stepAt L k → lfs L (k + 1 + n) = lfs L (k + 1) ∧ begI L (k + 1 + n) = begI L (k + 1)
  | 0, _ => ⟨rfl, rfl⟩
  | n + 1, h => by
    obtain ⟨i1, i2⟩ := feeds_same L k n (by omega)
    have hne : by8 L (k + 1 + n) ≠ 10 := no_feed (k := k) (by omega) (by omega)
    refine ⟨?_, ?_⟩
    · show (if by8 L (k + 1 + n) = 10 then lfs L (k + 1 + n) + 1 else lfs L (k + 1 + n)) = _
      rw [if_neg hne, i1]
    · show (if by8 L (k + 1 + n) = 10 then k + 1 + n + 1 else begI L (k + 1 + n)) = _
      rw [if_neg hne, i2]
theorem feed_one {L : List UInt8} {k : Nat} (h : by8 L k = 10) : stepAt L k = 1 := by
  have hz : sizeAt L k = 1 := (siz4_is _ _ _ _).1.2 (by omega)
  unfold stepAt; rw [hz]; rfl
/-- The line and the column behind a step, from a place that is reached from its line's beginning. -/
def onLine (L : List UInt8) (k : Nat) : Prop := adv L (stp L (begI L k) k) (begI L k) = k
theorem onLine_zero (L : List UInt8) : onLine L 0 := by
  unfold onLine; show adv L (stp L 0 0) 0 = 0
  rw [stp_done (Nat.le_refl _)]; rfl
theorem line_feed {L : List UInt8} {k : Nat} (h : by8 L k = 10) : lfs L (k + stepAt L k) = lfs L k + 1 ∧ stp L (begI L (k + stepAt L k)) (k + stepAt L k) = 0 ∧ onLine L (k + stepAt L k) := by
  rw [feed_one h]
  have hb : begI L (k + 1) = k + 1 := by show (if by8 L k = 10 then _ else _) = _; rw [if_pos h]
  refine ⟨?_, ?_, ?_⟩
  · show (if by8 L k = 10 then _ else _) = _; rw [if_pos h]
  · rw [hb, stp_done (Nat.le_refl _)]
  · unfold onLine; rw [hb, stp_done (Nat.le_refl _)]; rfl
theorem line_same {L : List UInt8} {k : Nat} (h : by8 L k ≠ 10) (ho : onLine L k) :
    lfs L (k + stepAt L k) = lfs L k ∧ stp L (begI L (k + stepAt L k)) (k + stepAt L k) = stp L (begI L k) k + 1 ∧ onLine L (k + stepAt L k) := by
  have hs := stepAt_range L k
  obtain ⟨f1, f2⟩ := feeds_same L k (stepAt L k - 1) (by omega)
  rw [show k + 1 + (stepAt L k - 1) = k + stepAt L k by omega] at f1 f2
  have b1 : begI L (k + 1) = begI L k := by show (if by8 L k = 10 then _ else _) = _; rw [if_neg h]
  have l1 : lfs L (k + 1) = lfs L k := by show (if by8 L k = 10 then _ else _) = _; rw [if_neg h]
  obtain ⟨a1, a2⟩ := adv_next L k _ (begI L k) (Nat.le_refl _) (begI_le L k) ho
  refine ⟨by rw [f1, l1], by rw [f2, b1, a1], ?_⟩
  unfold onLine; rw [f2, b1]; exact a2
end Go.Proofs.YtnkfodelgpidkaaGreatDoor
namespace Go.Proofs.YtnkfodelgpidkaaGreatDoor
open Go.RowKit

def nanB (b : Int) : Bool := decide (9218868437227405312 < b % 9223372036854775808)
def infB (b : Int) : Bool := b % 9223372036854775808 == 9218868437227405312
def zerB (b : Int) : Bool := b % 9223372036854775808 == 0
def noneB : Int := 9221120237041090561
def canon (b : Int) : Int := if nanB b then noneB else b
def signB (b : Int) : Int := b / 9223372036854775808

theorem andNot_sign {b : Int} (h0 : 0 ≤ b) (h1 : b < 18446744073709551616) : bits .andNot .u64 b 9223372036854775808 = b % 9223372036854775808 := by
  rw [u64_andNot b 9223372036854775808 h0 h1 (by decide) (by decide)]
  have e : (18446744073709551615 - (9223372036854775808 : Int).toNat : Nat) = 2 ^ 63 - 1 := by decide
  rw [e, Nat.and_two_pow_sub_one_eq_mod]
  omega

theorem and_low63 {b : Int} (h0 : 0 ≤ b) (h1 : b < 18446744073709551616) : bits .and .u64 b 9223372036854775807 = b % 9223372036854775808 := by
  rw [u64_and b 9223372036854775807 h0 h1 (by decide) (by decide)]
  have e : ((9223372036854775807 : Int).toNat : Nat) = 2 ^ 63 - 1 := by decide
  rw [e, Nat.and_two_pow_sub_one_eq_mod]
  omega


/- The operations on numbers. -/
def fres (op : BinOp) (x y : Nat) (w : World) : Nat := (floatBits op .f64 x y).getD (Question.cut (.nanBits .f64 x y) (w.tape w.drawn (.nanBits .f64 x y)))
def fwld (op : BinOp) (x y : Nat) (w : World) : World := if (floatBits op .f64 x y).isSome then w else w.drew
def fop (op : BinOp) (a b : Int) : Int := match floatBits op .f64 a.toNat b.toNat with | some r => canon r | none => noneB

theorem nan_cut (x y t : Nat) : nanB (Question.cut (.nanBits .f64 x y) t : Nat) = true := by
  unfold nanB
  apply decide_eq_true
  simp only [Question.cut]
  have h2 := Nat.mod_lt (t / 2) (show 0 < 2 ^ 52 - 1 by decide)
  generalize t / 2 % (2 ^ 52 - 1) = u at h2 ⊢
  omega

theorem canon_fres (op : BinOp) (a b : Int) (w : World) : canon (fres op a.toNat b.toNat w : Nat) = fop op a b := by
  unfold fres fop
  cases h : floatBits op .f64 a.toNat b.toNat with
  | some r => rfl
  | none => simp only [Option.getD_none, canon, nan_cut, if_true]

theorem fwld_below (op : BinOp) (x y : Nat) (w : World) : Below w.heap.size w (fwld op x y w) := by
  unfold fwld; split
  · exact Below.refl _ _
  · exact (Below.refl _ _).drew

theorem run_float {P : Program} (op : BinOp) (hop : op = .add ∨ op = .sub ∨ op = .mul ∨ op = .quo) (t : TypeId) (x y : Nat) (w : World) :
    (binOp op t (.float .f64 x) (.float .f64 y)).run P w = .ok (.float .f64 (fres op x y w)) (fwld op x y w) := by
  unfold fres fwld
  cases h : floatBits op .f64 x y with
  | some r => simp only [Option.isSome_some, if_true, Option.getD_some]; exact run_float_arith w op t .f64 x y r h
  | none =>
    unfold floatBits at h
    rcases hop with rfl | rfl | rfl | rfl <;> simp only at h <;> simp [binOp, Op.floatArith, h, Question.forced] <;> rfl

theorem fres_lt (op : BinOp) (x y : Nat) (w : World) : fres op x y w < 18446744073709551616 := by
  unfold fres
  cases h : floatBits op .f64 x y with
  | some r =>
    have := floatBits_wf h
    simpa [Lit.wf] using this
  | none =>
    simp only [Option.getD_none, Question.cut]
    have := Nat.mod_lt (w.tape w.drawn (.nanBits .f64 x y)) (show 0 < 2 by decide)
    have := Nat.mod_lt (w.tape w.drawn (.nanBits .f64 x y) / 2) (show 0 < 2 ^ 52 - 1 by decide)
    omega

theorem canon_lt {b : Int} (h1 : b < 18446744073709551616) : canon b < 18446744073709551616 := by unfold canon noneB; split <;> omega
theorem canon_nonneg {b : Int} (h1 : 0 ≤ b) : 0 ≤ canon b := by unfold canon noneB; split <;> omega
theorem fop_nonneg (op : BinOp) (a b : Int) : 0 ≤ fop op a b := by
  unfold fop; split
  · exact canon_nonneg (by omega)
  · unfold noneB; omega
theorem fop_lt (op : BinOp) (a b : Int) : fop op a b < 18446744073709551616 := by
  unfold fop; split
  · rename_i r h
    have := floatBits_wf h
    have h2 : r < 18446744073709551616 := by simpa [Lit.wf] using this
    exact canon_lt (by omega)
  · unfold noneB; omega

/- What a word stands for. -/
def mantN (x : Nat) : Nat := if x / 4503599627370496 % 2048 = 0 then x % 4503599627370496 else x % 4503599627370496 + 4503599627370496
def expI (x : Nat) : Int := if x / 4503599627370496 % 2048 = 0 then -1074 else ((x / 4503599627370496 % 2048 : Nat) : Int) - 1075

theorem dbl_sign : Ieee.double.signWeight = 9223372036854775808 := by decide
theorem dbl_binade : Ieee.double.binade = 4503599627370496 := by decide
theorem dbl_inf : Ieee.double.infRung = 9218868437227405312 := by decide
theorem dbl_least : Ieee.double.leastPlace = -1074 := by decide

theorem read_cases (x : Nat) :
    (9218868437227405312 < x % 9223372036854775808 ∧ Ieee.double.read x = .nan (x / 9223372036854775808 % 2 == 1) (x % 9223372036854775808 - 9218868437227405312)) ∨
    (x % 9223372036854775808 = 9218868437227405312 ∧ Ieee.double.read x = .infinity (x / 9223372036854775808 % 2 == 1)) ∨
    (x % 9223372036854775808 < 9218868437227405312 ∧ Ieee.double.read x = .number (x / 9223372036854775808 % 2 == 1) (mantN x) (expI x)) := by
  unfold Ieee.Format.read mantN expI
  simp only [dbl_sign, dbl_binade, dbl_inf, dbl_least]
  by_cases h1 : x % 9223372036854775808 < 4503599627370496
  · right; right
    rw [if_pos h1, if_pos (by omega), if_pos (by omega)]
    refine ⟨by omega, ?_⟩
    congr 1
    omega
  · rw [if_neg h1]
    by_cases h2 : x % 9223372036854775808 < 9218868437227405312
    · right; right
      rw [if_pos h2, if_neg (by omega), if_neg (by omega)]
      refine ⟨h2, ?_⟩
      congr 1
      · omega
      · omega
    · rw [if_neg h2]
      by_cases h3 : x % 9223372036854775808 = 9218868437227405312
      · right; left
        rw [if_pos h3]; exact ⟨h3, rfl⟩
      · left
        rw [if_neg h3]; exact ⟨by omega, rfl⟩

theorem nanB_nat (x : Nat) : nanB x = decide (9218868437227405312 < x % 9223372036854775808) := by
  unfold nanB
  rw [decide_eq_decide]; omega

theorem order_self (x : Nat) : (FloatKind.f64.format.order x x != some Ordering.eq) = nanB x := by
  rw [nanB_nat]
  show (Ieee.Datum.order (Ieee.double.read x) (Ieee.double.read x) != some Ordering.eq) = _
  rcases read_cases x with ⟨h, hr⟩ | ⟨h, hr⟩ | ⟨h, hr⟩ <;> rw [hr]
  · simp [Ieee.Datum.order, h]
  · have : ¬ 9218868437227405312 < x % 9223372036854775808 := by omega
    simp [Ieee.Datum.order, this]
  · have : ¬ 9218868437227405312 < x % 9223372036854775808 := by omega
    simp [Ieee.Datum.order, this]

def ofI (n : Int) : Int := (floatOfInt .f64 n : Nat)

theorem nearest_low (neg : Bool) (m : Nat) (p : Int) : Ieee.double.nearest neg m p % 9223372036854775808 ≤ 9218868437227405312 := by
  have hw : ∀ r, r ≤ 9218868437227405312 → Ieee.double.word neg r % 9223372036854775808 ≤ 9218868437227405312 := by
    intro r hr
    unfold Ieee.Format.word; rw [dbl_sign]
    split <;> omega
  unfold Ieee.Format.nearest
  dsimp only
  split
  · exact hw 0 (by omega)
  · refine hw _ ?_
    rw [dbl_inf]; exact Nat.min_le_right _ _

theorem canon_of (n : Int) : canon (ofI n) = ofI n := by
  unfold canon ofI
  rw [nanB_nat, if_neg]
  have := nearest_low (n < 0) n.natAbs 0
  simp only [decide_eq_true_eq]
  show ¬ (_ < Ieee.double.nearest (n < 0) n.natAbs 0 % _)
  omega
theorem ofI_nonneg (n : Int) : 0 ≤ ofI n := by unfold ofI; omega
theorem ofI_lt (n : Int) : ofI n < 18446744073709551616 := by
  have := floatOfInt_wf .f64 n
  have h2 : floatOfInt .f64 n < 18446744073709551616 := by simpa [Lit.wf] using this
  unfold ofI; omega

def negI (a : Int) : Int := if nanB a then noneB else if a < 9223372036854775808 then a + 9223372036854775808 else a - 9223372036854775808
theorem negI_nonneg {a : Int} (h0 : 0 ≤ a) : 0 ≤ negI a := by unfold negI noneB; split <;> (try split) <;> omega
theorem negI_lt {a : Int} (h1 : a < 18446744073709551616) : negI a < 18446744073709551616 := by unfold negI noneB; split <;> (try split) <;> omega

theorem xor_sign {b : Int} (h0 : 0 ≤ b) (h1 : b < 18446744073709551616) : bits .xor .u64 b 9223372036854775808 = if b < 9223372036854775808 then b + 9223372036854775808 else b - 9223372036854775808 := by
  rw [u64_xor b 9223372036854775808 h0 h1 (by decide) (by decide)]
  have e : ((9223372036854775808 : Int).toNat : Nat) = 2 ^ 63 := by decide
  rw [e]
  have key : ∀ x : Nat, x < 2 ^ 64 → x ^^^ 2 ^ 63 = if x < 2 ^ 63 then x + 2 ^ 63 else x - 2 ^ 63 := by
    have low : ∀ y : Nat, y < 2 ^ 63 → y ^^^ 2 ^ 63 = y + 2 ^ 63 := by
      intro y hy
      have hor := Nat.two_pow_add_eq_or_of_lt hy 1
      rw [Nat.mul_one] at hor
      rw [Nat.add_comm, hor]
      apply Nat.eq_of_testBit_eq
      intro i
      rw [Nat.testBit_xor, Nat.testBit_or, Nat.testBit_two_pow]
      by_cases hi : 63 = i
      · subst hi
        rw [Nat.testBit_lt_two_pow hy]; rfl
      · simp [hi]
    intro x hx
    split
    · rename_i h; exact low x h
    · rename_i h
      have h2 := low (x - 2 ^ 63) (by omega)
      rw [Nat.sub_add_cancel (by omega)] at h2
      have h3 : x ^^^ 2 ^ 63 = (x - 2 ^ 63 ^^^ 2 ^ 63) ^^^ 2 ^ 63 := by rw [h2]
      rw [h3, Nat.xor_assoc, Nat.xor_self, Nat.xor_zero]
  have := key b.toNat (by omega)
  rw [this]
  split <;> split <;> omega
end Go.Proofs.YtnkfodelgpidkaaGreatDoor
namespace Go.Proofs.YtnkfodelgpidkaaGreatDoor
open Go.RowKit

theorem fb_run (b : Nat) (w : World) : (callFunc 192 #[.float .f64 b]).run Tryz.prog w = .ok (.value (.int .u64 (b : Int))) w := by
  rw [run_callFunc_extern (e := Extern.MathFloatBits.float64bits) Tryz.func192 (by kernel_rfl) (by kernel_rfl) (by kernel_rfl) (by kernel_rfl)]
  rfl
set_option maxHeartbeats 400000 in
theorem isNaN_any (b : Int) (h0 : 0 ≤ b) (h1 : b < 18446744073709551616) (w : World) :
    Calls Tryz.prog 188 #[.int .u64 b] w fun e w' => e = .returned (.bool (nanB b)) ∧ w = w' := by
  go_enter Tryz.func188, Tryz.ntmps188
  go_wp2
  go_ret
  exact ⟨ret_bool (by rw [and_low63 h0 h1]; rfl), rfl⟩

set_option maxHeartbeats 400000 in
theorem clean_any (b : Nat) (hb : b < 18446744073709551616) (w : World) :
    Calls Tryz.prog 201 #[.float .f64 b] w fun e w' => e = .returned (.int .u64 (canon b)) ∧ w = w' := by
  have hfb := fb_run
  have c := isNaN_any b (by omega) (by omega) w
  have hc := Lib.hid c
  clear c
  cases hn : nanB b
  all_goals
    rw [hn] at hc
    have HN := Lib.hid hn
    clear hn
    go_enter Tryz.func201, Tryz.ntmps201
    go_wp2_with (go_at_call 188; refine hc.out.mono ?_; rintro e w' ⟨rfl, rfl⟩)
    go_ret
    exact ⟨ret_int (by rw [canon, HN.out]; rfl), rfl⟩

set_option maxHeartbeats 400000 in
theorem of_any (n : Int) (w : World) :
    Calls Tryz.prog 138 #[.int .i64 n] w fun e w' => e = .returned (.int .u64 (ofI n)) ∧ w = w' := by
  have hfb := fb_run
  go_enter Tryz.func138, Tryz.ntmps138
  go_wp2
  go_ret
  exact ⟨rfl, rfl⟩

set_option maxHeartbeats 400000 in
theorem rof_any (n : Int) (w : World) :
    Calls Tryz.prog 166 #[.int .i64 n] w fun e w' => e = .returned (.int .u64 (ofI n)) ∧ w = w' := by
  have hlt : floatOfInt .f64 n < 18446744073709551616 := by have := ofI_lt n; unfold ofI at this; omega
  have hc := clean_any (floatOfInt .f64 n) hlt w
  rw [show canon (floatOfInt .f64 n : Nat) = ofI n from canon_of n] at hc
  have HC := Lib.hid hc
  clear hc hlt
  go_enter Tryz.func166, Tryz.ntmps166
  go_wp2_with (go_at_call 201; refine HC.out.mono ?_; rintro e w' ⟨rfl, rfl⟩)
  go_ret
  exact ⟨rfl, rfl⟩

end Go.Proofs.YtnkfodelgpidkaaGreatDoor
