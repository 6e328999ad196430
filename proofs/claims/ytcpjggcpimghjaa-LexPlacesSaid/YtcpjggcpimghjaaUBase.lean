/- The smallest functions of layer 2 and of the document's answer: what each call comes to. -/
import Derived.Test.YtcpjggcpimghjaaRows
import Derived.Test.YtcpjggcpimghjaaUScan
import Derived.WalkKit
import Derived.WalkSpells
import Derived.WalkLawsBesides
import Derived.Handy
import Derived.Lib.Hide
import Derived.Lib.Strings
namespace Go.Proofs.Ytcpjggcpimghjaa
open Go.RowKit
set_option linter.unusedVariables false

set_option maxHeartbeats 400000 in
theorem sizeOf_any (n : Int) (w : World) :
    Calls Try.prog 33 #[.int .i64 n] w fun e w' => e = .returned (.int .i64 (sizeI n)) ∧ w = w' := by
  have HD : Hid (sizeI n = if n < 0 ∨ 1114111 < n ∨ (55296 ≤ n ∧ n ≤ 57343) then 0 else if 65536 ≤ n then 4 else if 2048 ≤ n then 3 else if 128 ≤ n then 2 else 1) := rfl
  generalize sizeI n = z at *
  go_enter Try.func33, Try.ntmps33
  go_wp2
  all_goals
    go_ret
    refine ⟨ret_int ?_, rfl⟩
    rw [HD.out]
    repeat' split
    all_goals first | omega | rfl | (exfalso; omega)

set_option maxHeartbeats 400000 in
theorem Sign_any (n : Int) (w : World) :
    Calls Try.prog 59 #[.int .i64 n] w fun e w' => e = .returned (.bool (!(sizeI n == 0))) ∧ w = w' := by
  have HD : Hid (sizeI n = if n < 0 ∨ 1114111 < n ∨ (55296 ≤ n ∧ n ≤ 57343) then 0 else if 65536 ≤ n then 4 else if 2048 ≤ n then 3 else if 128 ≤ n then 2 else 1) := rfl
  have HB : Hid ((n < 0 ∨ 1114111 < n ∨ (55296 ≤ n ∧ n ≤ 57343)) → (!(sizeI n == 0)) = false) := by
    intro h; rw [HD.out, if_pos h]; rfl
  have HG : Hid (¬ (n < 0 ∨ 1114111 < n ∨ (55296 ≤ n ∧ n ≤ 57343)) → (!(sizeI n == 0)) = true) := by
    intro h
    rw [HD.out, if_neg h]
    repeat' split
    all_goals rfl
  clear HD
  generalize (!(sizeI n == 0)) = z at *
  by_cases h1 : n < 0
  · go_enter Try.func59, Try.ntmps59
    go_wp2
    go_ret
    exact ⟨ret_bool (HB.out (by omega)).symm, rfl⟩
  · by_cases h2 : n < 55296
    · go_enter Try.func59, Try.ntmps59
      go_wp2
      go_ret
      exact ⟨ret_bool (HG.out (by omega)).symm, rfl⟩
    · by_cases h3 : n < 57344
      · go_enter Try.func59, Try.ntmps59
        go_wp2
        go_ret
        exact ⟨ret_bool (HB.out (by omega)).symm, rfl⟩
      · by_cases h4 : n ≤ 1114111
        · go_enter Try.func59, Try.ntmps59
          go_wp2
          go_ret
          exact ⟨ret_bool (by rw [HG.out (by omega)]), rfl⟩
        · go_enter Try.func59, Try.ntmps59
          go_wp2
          go_ret
          exact ⟨ret_bool (by rw [HB.out (by omega)]), rfl⟩

theorem not192 {c : Int} (h0 : 192 ≤ c) (h1 : c < 224) : bits .andNot .u8 c 192 = c - 192 := by
  have h : ∀ n : Fin 32, bits .andNot .u8 (((n.val : Nat) : Int) + 192) 192 = ((n.val : Nat) : Int) := by decide +kernel
  have h2 := h ⟨(c - 192).toNat, by omega⟩
  simp only at h2
  rw [show (((c - 192).toNat : Nat) : Int) + 192 = c by omega] at h2
  rw [h2]; omega
theorem not224 {c : Int} (h0 : 224 ≤ c) (h1 : c < 240) : bits .andNot .u8 c 224 = c - 224 := by
  have h : ∀ n : Fin 16, bits .andNot .u8 (((n.val : Nat) : Int) + 224) 224 = ((n.val : Nat) : Int) := by decide +kernel
  have h2 := h ⟨(c - 224).toNat, by omega⟩
  simp only at h2
  rw [show (((c - 224).toNat : Nat) : Int) + 224 = c by omega] at h2
  rw [h2]; omega
theorem not240 {c : Int} (h0 : 240 ≤ c) (h1 : c < 248) : bits .andNot .u8 c 240 = c - 240 := by
  have h : ∀ n : Fin 8, bits .andNot .u8 (((n.val : Nat) : Int) + 240) 240 = ((n.val : Nat) : Int) := by decide +kernel
  have h2 := h ⟨(c - 240).toNat, by omega⟩
  simp only at h2
  rw [show (((c - 240).toNat : Nat) : Int) + 240 = c by omega] at h2
  rw [h2]; omega
theorem not63 {c : Int} (h0 : 0 ≤ c) (h1 : c < 256) : bits .andNot .u8 c 63 = c / 64 * 64 := by
  have h : ∀ n : Fin 256, bits .andNot .u8 ((n.val : Nat) : Int) 63 = ((n.val : Nat) : Int) / 64 * 64 := by decide +kernel
  have h2 := h ⟨c.toNat, by omega⟩
  simp only at h2
  rwa [show ((c.toNat : Nat) : Int) = c by omega] at h2
theorem and63 {c : Int} (h0 : 0 ≤ c) (h1 : c < 256) : bits .and .u8 c 63 = c % 64 := by
  have h : ∀ n : Fin 256, bits .and .u8 ((n.val : Nat) : Int) 63 = ((n.val : Nat) : Int) % 64 := by decide +kernel
  have h2 := h ⟨c.toNat, by omega⟩
  simp only at h2
  rwa [show ((c.toNat : Nat) : Int) = c by omega] at h2
theorem wraps_i64 (n : Int) (h₀ : 0 ≤ n) (h₁ : n < 2 ^ 62) : IntKind.i64.wrap n = n := by rw [IntKind.wrap_i64]; omega
theorem iand63 {x : Int} (h0 : 0 ≤ x) (h1 : x < 4611686018427387904) : bits .and .i64 x 63 = x % 64 := bits_mask .i64 62 (by decide) wraps_i64 6 (by decide) x h0 h1
theorem ior6 {x y : Int} (hx₀ : 0 ≤ x) (hx : x % 64 = 0) (hx₁ : x < 4611686018427387904) (h₀ : 0 ≤ y) (h₁ : y < 64) : bits .or .i64 x y = x + y :=
  bits_join .i64 62 (by decide) wraps_i64 6 x y hx₀ hx hx₁ h₀ h₁ (by omega)
theorem ior224 {y : Int} (h₀ : 0 ≤ y) (h₁ : y < 16) : bits .or .i64 224 y = 224 + y :=
  bits_join .i64 62 (by decide) wraps_i64 4 224 y (by decide) (by decide) (by decide) h₀ h₁ (by omega)
theorem ior240 {y : Int} (h₀ : 0 ≤ y) (h₁ : y < 8) : bits .or .i64 240 y = 240 + y :=
  bits_join .i64 62 (by decide) wraps_i64 3 240 y (by decide) (by decide) (by decide) h₀ h₁ (by omega)

set_option maxHeartbeats 400000 in
theorem lead_any (c : Int) (h0 : 0 ≤ c) (h1 : c < 256) (w : World) :
    Calls Try.prog 32 #[.int .u8 c] w fun e w' => e = .returned (.tuple #[.int .i64 (ledU c), .int .i64 (ledN c)]) ∧ w = w' := by
  have HU : Hid (ledU c = if c < 128 then c else if c < 192 then 0 else if c < 224 then c - 192 else if c < 240 then c - 224 else if c < 248 then c - 240 else 0) := rfl
  have HN : Hid (ledN c = if c < 128 then 1 else if c < 192 then 0 else if c < 224 then 2 else if c < 240 then 3 else if c < 248 then 4 else 0) := rfl
  generalize ledU c = u at *
  generalize ledN c = n at *
  go_enter Try.func32, Try.ntmps32
  go_wp2
  all_goals
    go_ret2
    refine ⟨ret_ints ?_ ?_, rfl⟩
    · rw [HU.out]
      first
        | (rw [not192 (by omega) (by omega), RowKit.wrap64]; repeat' split; all_goals omega)
        | (rw [not224 (by omega) (by omega), RowKit.wrap64]; repeat' split; all_goals omega)
        | (rw [not240 (by omega) (by omega), RowKit.wrap64]; repeat' split; all_goals omega)
        | (repeat' split; all_goals omega)
    · rw [HN.out]; repeat' split; all_goals omega

set_option maxHeartbeats 400000 in
theorem tail_any (n : Int) (h0 : 0 ≤ n) (h1 : n ≤ 1114111) (w : World) :
    Calls Try.prog 77 #[.int .i64 n] w fun e w' => e = .returned (.int .i64 (128 + n % 64)) ∧ w = w' := by
  go_enter Try.func77, Try.ntmps77
  go_wp2
  go_ret
  exact ⟨ret_int (by rw [iand63 h0 (by omega), ior6 (by decide) (by decide) (by decide) (by omega) (by omega)]), rfl⟩

def fewS (s : ByteArray) : ByteArray := if 5000 < s.size then s.extract 0 5000 else s
theorem fewS_le (s : ByteArray) : (fewS s).size ≤ 5000 := by
  unfold fewS; split
  · rw [ByteArray.size_extract]; omega
  · omega
end Go.Proofs.Ytcpjggcpimghjaa
