/- Part of a proof: short names. -/
import Derived.Lib.Hide
namespace Go.Proofs.YtfcgpphodacdmaaGreatDoor
theorem za {p : Prop} (h : p) : RowKit.Hid p := h
theorem zb {α : Type _} [BEq α] [LawfulBEq α] {a b : α} : (a == b) = false ↔ a ≠ b := beq_eq_false_iff_ne
theorem zc : (false = true) = False := Bool.false_eq_true
theorem zd (n : Nat) : n ≤ n := Nat.le_refl n
theorem ze (B : Nat) (w : World) : RowKit.Below B w w := RowKit.Below.refl B w
end Go.Proofs.YtfcgpphodacdmaaGreatDoor
