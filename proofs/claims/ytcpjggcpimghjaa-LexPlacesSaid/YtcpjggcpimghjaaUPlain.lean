/- Plain words for signs in UTF-8: what stands at a place of a list of bytes, and what a sign is put as; no program in sight. -/
import Derived.Laws.BitsAllLaws
import Derived.IntWalk
import Derived.RowKit
import Derived.Below
namespace Go.Proofs.Ytcpjggcpimghjaa
open Go.RowKit
set_option linter.unusedVariables false

theorem ret_int {k : IntKind} {a b : Int} (h : a = b) : Ending.returned (.int k a) = .returned (.int k b) := by rw [h]
theorem ret_bool {a b : Bool} (h : a = b) : Ending.returned (.bool a) = .returned (.bool b) := by rw [h]
theorem ret_str {s t : ByteArray} (h : s = t) : Ending.returned (.string s) = .returned (.string t) := by rw [h]
theorem ret_ints {k l : IntKind} {a b c d : Int} (h : a = c) (g : b = d) : Ending.returned (.tuple #[.int k a, .int l b]) = .returned (.tuple #[.int k c, .int l d]) := by rw [h, g]
theorem ret_text {k : IntKind} {s t : ByteArray} {a b : Int} (h : s = t) (g : a = b) : Ending.returned (.tuple #[.string s, .int k a]) = .returned (.tuple #[.string t, .int k b]) := by rw [h, g]
theorem below_trans {N : Nat} {a b c : World} (h : Below N a b) (g : Below b.heap.size b c) (hn : N ≤ b.heap.size) : Below N a c := h.trans (g.mono hn)

/- The bits. -/
def sizeI (n : Int) : Int :=
  if n < 0 ∨ 1114111 < n ∨ (55296 ≤ n ∧ n ≤ 57343) then 0 else if 65536 ≤ n then 4 else if 2048 ≤ n then 3 else if 128 ≤ n then 2 else 1

def n2 (c d : Int) : Int := (c - 192) * 64 + (d - 128)
def n3 (c d e : Int) : Int := ((c - 224) * 64 + (d - 128)) * 64 + (e - 128)
def n4 (c d e f : Int) : Int := (((c - 240) * 64 + (d - 128)) * 64 + (e - 128)) * 64 + (f - 128)
/-- How many bytes the sign has whose bytes begin with these; 0: none stands there. -/
def siz4 (c d e f : Int) : Int :=
  if c < 128 then 1
  else if c < 192 then 0
  else if c < 224 then (if 128 ≤ d ∧ d < 192 ∧ 128 ≤ n2 c d then 2 else 0)
  else if c < 240 then (if 128 ≤ d ∧ d < 192 ∧ 128 ≤ e ∧ e < 192 ∧ 2048 ≤ n3 c d e ∧ ¬ (55296 ≤ n3 c d e ∧ n3 c d e ≤ 57343) then 3 else 0)
  else if c < 248 then (if 128 ≤ d ∧ d < 192 ∧ 128 ≤ e ∧ e < 192 ∧ 128 ≤ f ∧ f < 192 ∧ 65536 ≤ n4 c d e f ∧ n4 c d e f ≤ 1114111 then 4 else 0)
  else 0
def sgn4 (c d e f : Int) : Int :=
  if siz4 c d e f = 0 then -1 else if siz4 c d e f = 1 then c else if siz4 c d e f = 2 then n2 c d else if siz4 c d e f = 3 then n3 c d e else n4 c d e f

/- What stands at a place. -/
def by8 (L : List UInt8) (k : Nat) : Int := ((L.getD k 0).toNat : Int)
theorem by8_lo (L : List UInt8) (k : Nat) : 0 ≤ by8 L k := Int.natCast_nonneg _
theorem by8_hi (L : List UInt8) (k : Nat) : by8 L k < 256 := by unfold by8; have := (L.getD k 0).toNat_lt; omega
theorem by8_over {L : List UInt8} {k : Nat} (h : L.length ≤ k) : by8 L k = 0 := by unfold by8; rw [List.getD_eq_getElem?_getD, List.getElem?_eq_none h]; rfl
theorem by8_in {s : ByteArray} {k : Nat} (h : k < s.size) : by8 s.data.toList k = ((s[k]'h).toNat : Int) := by
  unfold by8
  have hl : k < s.data.toList.length := by simpa using h
  rw [List.getD_eq_getElem?_getD, List.getElem?_eq_getElem hl]; rfl

def sizeAt (L : List UInt8) (k : Nat) : Int := siz4 (by8 L k) (by8 L (k + 1)) (by8 L (k + 2)) (by8 L (k + 3))
def signAt (L : List UInt8) (k : Nat) : Int := sgn4 (by8 L k) (by8 L (k + 1)) (by8 L (k + 2)) (by8 L (k + 3))
/-- How far Next goes on. -/
def stepAt (L : List UInt8) (k : Nat) : Nat := if sizeAt L k = 0 then 1 else (sizeAt L k).toNat

theorem siz4_range (c d e f : Int) : 0 ≤ siz4 c d e f ∧ siz4 c d e f ≤ 4 := by
  unfold siz4; repeat' split
  all_goals omega
theorem stepAt_range (L : List UInt8) (k : Nat) : 1 ≤ stepAt L k ∧ stepAt L k ≤ 4 := by
  have := siz4_range (by8 L k) (by8 L (k + 1)) (by8 L (k + 2)) (by8 L (k + 3))
  unfold stepAt sizeAt
  split <;> omega
theorem siz4_fits (c d e f : Int) : (siz4 c d e f = 2 → 128 ≤ d) ∧ (siz4 c d e f = 3 → 128 ≤ d ∧ 128 ≤ e) ∧ (siz4 c d e f = 4 → 128 ≤ d ∧ 128 ≤ e ∧ 128 ≤ f) := by
  unfold siz4; repeat' split
  all_goals omega
/-- A step does not lead beyond the end. -/
theorem step_in {L : List UInt8} {k : Nat} (h : k < L.length) : k + stepAt L k ≤ L.length := by
  unfold stepAt
  split
  · omega
  · rename_i hz
    have hr := siz4_range (by8 L k) (by8 L (k + 1)) (by8 L (k + 2)) (by8 L (k + 3))
    have hf := siz4_fits (by8 L k) (by8 L (k + 1)) (by8 L (k + 2)) (by8 L (k + 3))
    have o1 : L.length ≤ k + 1 → by8 L (k + 1) = 0 := fun h => by8_over h
    have o2 : L.length ≤ k + 2 → by8 L (k + 2) = 0 := fun h => by8_over h
    have o3 : L.length ≤ k + 3 → by8 L (k + 3) = 0 := fun h => by8_over h
    unfold sizeAt at hz ⊢
    omega
theorem sign_range (L : List UInt8) (k : Nat) : -1 ≤ signAt L k ∧ signAt L k ≤ 1114111 ∧ (signAt L k < 0 ↔ sizeAt L k = 0) ∧ (signAt L k = -1 ↔ sizeAt L k = 0) := by
  unfold signAt sizeAt
  have h0 := by8_lo L k
  generalize by8 L k = c at *
  generalize by8 L (k + 1) = d
  generalize by8 L (k + 2) = e
  generalize by8 L (k + 3) = f
  unfold sgn4 siz4
  generalize hx2 : n2 c d = x2
  generalize hx3 : n3 c d e = x3
  generalize hx4 : n4 c d e f = x4
  unfold n2 at hx2; unfold n3 at hx3; unfold n4 at hx4
  repeat' split
  all_goals omega

/- A sign's bytes. -/
def b8 (x : Int) : UInt8 := UInt8.ofNat x.toNat
theorem b8_nat {x : Int} (h0 : 0 ≤ x) (h1 : x < 256) : ((b8 x).toNat : Int) = x := by
  unfold b8; rw [UInt8.toNat_ofNat']; omega
theorem b8_byte (c : UInt8) : b8 (c.toNat : Int) = c := by unfold b8; rw [Int.toNat_natCast]; exact UInt8.ofNat_toNat
theorem b8_inj {x y : Int} (h0 : 0 ≤ x) (h1 : x < 256) (h2 : 0 ≤ y) (h3 : y < 256) (h : b8 x = b8 y) : x = y := by
  rw [← b8_nat h0 h1, h, b8_nat h2 h3]
def putL (n : Int) : List UInt8 :=
  if sizeI n = 0 then [] else if sizeI n = 1 then [b8 n] else if sizeI n = 2 then [b8 (192 + n / 64), b8 (128 + n % 64)]
  else if sizeI n = 3 then [b8 (224 + n / 4096), b8 (128 + n / 64 % 64), b8 (128 + n % 64)]
  else [b8 (240 + n / 262144), b8 (128 + n / 4096 % 64), b8 (128 + n / 64 % 64), b8 (128 + n % 64)]
def putS (n : Int) : ByteArray := ⟨⟨putL n⟩⟩
def putE (n : Int) : Int := if sizeI n = 0 then 2 else 0
theorem sizeI_range (n : Int) : 0 ≤ sizeI n ∧ sizeI n ≤ 4 := by unfold sizeI; repeat' split; all_goals omega
theorem putL_length (n : Int) : ((putL n).length : Int) = sizeI n := by
  have := sizeI_range n
  unfold putL
  repeat' split
  all_goals simp
  all_goals omega

/-- From place to place, from one to another or beyond it: how many steps. -/
def stp (L : List UInt8) (a to : Nat) : Nat := if a < to then stp L (a + stepAt L a) to + 1 else 0
termination_by to - a
decreasing_by have := stepAt_range L a; omega
theorem stp_done {L : List UInt8} {a to : Nat} (h : to ≤ a) : stp L a to = 0 := by rw [stp, if_neg (by omega)]
theorem stp_more {L : List UInt8} {a to : Nat} (h : a < to) : stp L a to = stp L (a + stepAt L a) to + 1 := by rw [stp, if_pos h]
theorem stp_le (L : List UInt8) (to : Nat) : ∀ (j a : Nat), to - a ≤ j → stp L a to ≤ to - a
  | 0, a, h => by rw [stp_done (by omega)]; omega
  | j + 1, a, h => by
    by_cases hlt : a < to
    · rw [stp_more hlt]
      have h1 := stepAt_range L a
      have h2 := stp_le L to j (a + stepAt L a) (by omega)
      omega
    · rw [stp_done (by omega)]; omega

/-- The first place at which no sign stands. -/
def chk (L : List UInt8) (a : Nat) : Option Nat := if a < L.length then (if signAt L a < 0 then some a else chk L (a + stepAt L a)) else none
termination_by L.length - a
decreasing_by have := stepAt_range L a; omega
theorem chk_done {L : List UInt8} {a : Nat} (h : L.length ≤ a) : chk L a = none := by rw [chk, if_neg (by omega)]
theorem chk_bad {L : List UInt8} {a : Nat} (h : a < L.length) (h2 : signAt L a < 0) : chk L a = some a := by rw [chk, if_pos h, if_pos h2]
theorem chk_more {L : List UInt8} {a : Nat} (h : a < L.length) (h2 : ¬ signAt L a < 0) : chk L a = chk L (a + stepAt L a) := by rw [chk, if_pos h, if_neg h2]
def chkA (L : List UInt8) : Int := match chk L 0 with | some k => (k : Int) | none => 0
def chkE (L : List UInt8) : Int := match chk L 0 with | some _ => 4 | none => 0

/-- Behind the last line feed ahead of a place. -/
def begI (L : List UInt8) : Nat → Nat
  | 0 => 0
  | k + 1 => if by8 L k = 10 then k + 1 else begI L k
def lfs (L : List UInt8) : Nat → Nat
  | 0 => 0
  | k + 1 => if by8 L k = 10 then lfs L k + 1 else lfs L k
theorem begI_le (L : List UInt8) : ∀ k, begI L k ≤ k
  | 0 => Nat.le_refl _
  | k + 1 => by unfold begI; split; exact Nat.le_refl _; have := begI_le L k; omega
theorem lfs_le (L : List UInt8) : ∀ k, lfs L k ≤ k
  | 0 => Nat.le_refl _
  | k + 1 => by unfold lfs; have := lfs_le L k; split <;> omega
/-- A place, as Line counts it. -/
def clip (L : List UInt8) (at_ : Int) : Nat := if at_ < 0 then 0 else if (L.length : Int) < at_ then L.length else at_.toNat
def lineI (L : List UInt8) (at_ : Int) : Int := (lfs L (clip L at_) : Int) + 1
def colI (L : List UInt8) (at_ : Int) : Int := (stp L (begI L (clip L at_)) (clip L at_) : Int) + 1
theorem clip_le (L : List UInt8) (at_ : Int) : clip L at_ ≤ L.length := by
  unfold clip; split
  · omega
  · split <;> omega
end Go.Proofs.Ytcpjggcpimghjaa
