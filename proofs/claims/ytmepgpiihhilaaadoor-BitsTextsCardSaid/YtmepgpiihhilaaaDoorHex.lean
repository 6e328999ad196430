/- Sixteen digits for a number's bits, by the program. -/
import Derived.Test.YtmepgpiihhilaaaDoorWhole
namespace Go.Proofs.YtmepgpiihhilaaaDoor
open Go.RowKit

theorem and_15 {b : Int} (h0 : 0 ≤ b) (h1 : b < 18446744073709551616) : bits .and .u64 b 15 = b % 16 := by
  rw [u64_and b 15 h0 h1 (by decide) (by decide)]
  have e : ((15 : Int).toNat : Nat) = 2 ^ 4 - 1 := by decide
  rw [e, Nat.and_two_pow_sub_one_eq_mod]
  omega

/-- The sign that stands for a digit. -/
def hexD (n : Nat) : Int := if n < 10 then 48 + n else 87 + n
theorem hex_at (n : Nat) (h : n < (⟨#[48, 49, 50, 51, 52, 53, 54, 55, 56, 57, 97, 98, 99, 100, 101, 102]⟩ : ByteArray).size) :
    ((((⟨#[48, 49, 50, 51, 52, 53, 54, 55, 56, 57, 97, 98, 99, 100, 101, 102]⟩ : ByteArray)[n]'h).toNat : Nat) : Int) = hexD n := by
  have h2 : n < 16 := h
  have h3 : n = 0 ∨ n = 1 ∨ n = 2 ∨ n = 3 ∨ n = 4 ∨ n = 5 ∨ n = 6 ∨ n = 7 ∨ n = 8 ∨ n = 9 ∨ n = 10 ∨ n = 11 ∨ n = 12 ∨ n = 13 ∨ n = 14 ∨ n = 15 := by omega
  rcases h3 with rfl | rfl | rfl | rfl | rfl | rfl | rfl | rfl | rfl | rfl | rfl | rfl | rfl | rfl | rfl | rfl <;> rfl

theorem conv16 (w : World) (x0 x1 x2 x3 x4 x5 x6 x7 x8 x9 x10 x11 x12 x13 x14 x15 : Int) :
    (convert 60 9 (.slice (some ⟨w.heap.size, 0, none⟩) 16 16)).run Tryd.prog (w.alloc (.cells #[.int .u8 x0, .int .u8 x1, .int .u8 x2, .int .u8 x3, .int .u8 x4, .int .u8 x5, .int .u8 x6, .int .u8 x7, .int .u8 x8, .int .u8 x9, .int .u8 x10, .int .u8 x11, .int .u8 x12, .int .u8 x13, .int .u8 x14, .int .u8 x15] 59)) = .ok (.string (strOfNums [x0, x1, x2, x3, x4, x5, x6, x7, x8, x9, x10, x11, x12, x13, x14, x15])) (w.alloc (.cells #[.int .u8 x0, .int .u8 x1, .int .u8 x2, .int .u8 x3, .int .u8 x4, .int .u8 x5, .int .u8 x6, .int .u8 x7, .int .u8 x8, .int .u8 x9, .int .u8 x10, .int .u8 x11, .int .u8 x12, .int .u8 x13, .int .u8 x14, .int .u8 x15] 59)) := by
  refine run_convert_bytes_arg _ 60 5 Tryd.underlying60 Tryd.underlying5 w.heap.size 0 16 16 [x0, x1, x2, x3, x4, x5, x6, x7, x8, x9, x10, x11, x12, x13, x14, x15] rfl ?_ 9 Tryd.underlying9
  intro i hi
  have h3 : i = 0 ∨ i = 1 ∨ i = 2 ∨ i = 3 ∨ i = 4 ∨ i = 5 ∨ i = 6 ∨ i = 7 ∨ i = 8 ∨ i = 9 ∨ i = 10 ∨ i = 11 ∨ i = 12 ∨ i = 13 ∨ i = 14 ∨ i = 15 := by omega
  rcases h3 with rfl | rfl | rfl | rfl | rfl | rfl | rfl | rfl | rfl | rfl | rfl | rfl | rfl | rfl | rfl | rfl <;> simp

/-- The sixteen digits of x, the highest first. -/
def hexL (x : Nat) : List Int := [hexD (x / 1152921504606846976 % 16), hexD (x / 72057594037927936 % 16), hexD (x / 4503599627370496 % 16), hexD (x / 281474976710656 % 16), hexD (x / 17592186044416 % 16), hexD (x / 1099511627776 % 16), hexD (x / 68719476736 % 16), hexD (x / 4294967296 % 16), hexD (x / 268435456 % 16), hexD (x / 16777216 % 16), hexD (x / 1048576 % 16), hexD (x / 65536 % 16), hexD (x / 4096 % 16), hexD (x / 256 % 16), hexD (x / 16 % 16), hexD (x % 16)]
def hexS (b : Int) : ByteArray := strOfNums (hexL b.toNat)
theorem hexS_eq {b : Int} (hb0 : 0 ≤ b) : strOfNums [hexD (b / 1152921504606846976 % 16).toNat, hexD (b / 72057594037927936 % 16).toNat, hexD (b / 4503599627370496 % 16).toNat, hexD (b / 281474976710656 % 16).toNat, hexD (b / 17592186044416 % 16).toNat, hexD (b / 1099511627776 % 16).toNat, hexD (b / 68719476736 % 16).toNat, hexD (b / 4294967296 % 16).toNat, hexD (b / 268435456 % 16).toNat, hexD (b / 16777216 % 16).toNat, hexD (b / 1048576 % 16).toNat, hexD (b / 65536 % 16).toNat, hexD (b / 4096 % 16).toNat, hexD (b / 256 % 16).toNat, hexD (b / 16 % 16).toNat, hexD (b % 16).toNat] = hexS b := by
  have h : ∀ c : Nat, (b / (c : Int) % 16).toNat = b.toNat / c % 16 := by
    intro c
    obtain ⟨x, rfl⟩ := Int.eq_ofNat_of_zero_le hb0
    simp only [Int.toNat_natCast]
    rw [← Int.natCast_ediv]; omega
  have h1 : (b % 16).toNat = b.toNat % 16 := by omega
  unfold hexS hexL
  rw [h1]
  have g : ∀ (c : Nat) (d : Int), d = (c : Int) → hexD (b / d % 16).toNat = hexD (b.toNat / c % 16) := by
    intro c d hd
    subst hd
    rw [h]
  congr 1
  simp only [List.cons.injEq, and_true]
  exact ⟨g 1152921504606846976 _ rfl, g 72057594037927936 _ rfl, g 4503599627370496 _ rfl, g 281474976710656 _ rfl, g 17592186044416 _ rfl, g 1099511627776 _ rfl, g 68719476736 _ rfl, g 4294967296 _ rfl, g 268435456 _ rfl, g 16777216 _ rfl, g 1048576 _ rfl, g 65536 _ rfl, g 4096 _ rfl, g 256 _ rfl, g 16 _ rfl⟩

set_option maxRecDepth 100000 in
set_option maxHeartbeats 2000000 in
theorem hex_any (b : Int) (hb0 : 0 ≤ b) (hb : b < 18446744073709551616) (w : World) :
    Calls Tryd.prog 64 #[.int .u64 b] w fun e w' => e = .returned (.string (hexS b)) ∧ Below w.heap.size w w' := by
  have e0 := and_15 (b := (b / 1152921504606846976)) (by omega) (by omega)
  have e1 := and_15 (b := (b / 72057594037927936)) (by omega) (by omega)
  have e2 := and_15 (b := (b / 4503599627370496)) (by omega) (by omega)
  have e3 := and_15 (b := (b / 281474976710656)) (by omega) (by omega)
  have e4 := and_15 (b := (b / 17592186044416)) (by omega) (by omega)
  have e5 := and_15 (b := (b / 1099511627776)) (by omega) (by omega)
  have e6 := and_15 (b := (b / 68719476736)) (by omega) (by omega)
  have e7 := and_15 (b := (b / 4294967296)) (by omega) (by omega)
  have e8 := and_15 (b := (b / 268435456)) (by omega) (by omega)
  have e9 := and_15 (b := (b / 16777216)) (by omega) (by omega)
  have e10 := and_15 (b := (b / 1048576)) (by omega) (by omega)
  have e11 := and_15 (b := (b / 65536)) (by omega) (by omega)
  have e12 := and_15 (b := (b / 4096)) (by omega) (by omega)
  have e13 := and_15 (b := (b / 256)) (by omega) (by omega)
  have e14 := and_15 (b := (b / 16)) (by omega) (by omega)
  have e15 := and_15 (b := b) (by omega) (by omega)
  have hx := hex_at
  have HE := Lib.hid (hexS_eq hb0)
  have hcv := conv16 w
  go_enter Tryd.func64, Tryd.ntmps64
  go_wp2
  refine wp_loop_rounds 17 ?_
  repeat any_goals (rw [rounds_succ]; go_wp2)
  go_ret
  exact ⟨congrArg (fun s => Ending.returned (.string s)) HE.out, (Below.refl _ _).alloc (Nat.le_refl _) _⟩
end Go.Proofs.YtmepgpiihhilaaaDoor
