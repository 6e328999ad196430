/- Two numbers are added, taken away, multiplied and divided as the document says: the walk of the statement. -/
import Derived.Test.YtmepgpiihhilaaaDoorWorks
namespace Go.Proofs.YtmepgpiihhilaaaDoor
open Go.RowKit
set_option linter.unusedVariables false

set_option maxRecDepth 100000 in
set_option maxHeartbeats 1000000 in
theorem law_BitsReckon (a : Int) (ha0 : 0 ≤ a) (ha : a < 18446744073709551616) (b : Int) (hb0 : 0 ≤ b) (hb : b < 18446744073709551616) (w : World) (htab : tab w) :
    Calls Tryd.prog 3 #[.int .u64 a, .int .u64 b] w fun e w' => e = .returned (.bool true) ∧ Below w.heap.size w w' := by
  have T := Lib.hid htab
  clear htab
  go_enter Tryd.func3, Tryd.ntmps3
  go_wp2_with (first
    | (go_at_call 15; refine (add_any _ _ _).mono ?_; rintro e w1 ⟨rfl, hB1⟩)
    | (go_at_call 16; refine (radd_any _ _ _).mono ?_; rintro e w2 ⟨rfl, hB2⟩)
    | (go_at_call 17; refine (sub_any _ _ _).mono ?_; rintro e w3 ⟨rfl, hB3⟩)
    | (go_at_call 18; refine (rsub_any _ _ _).mono ?_; rintro e w4 ⟨rfl, hB4⟩)
    | (go_at_call 19; refine (mul_any _ _ _).mono ?_; rintro e w5 ⟨rfl, hB5⟩)
    | (go_at_call 20; refine (rmul_any _ _ _).mono ?_; rintro e w6 ⟨rfl, hB6⟩)
    | (go_at_call 21; refine (div_any _ _ _).mono ?_; rintro e w7 ⟨rfl, hB7⟩)
    | (go_at_call 22; refine (rdiv_any _ _ _).mono ?_; rintro e w8 ⟨rfl, hB8⟩)
    | (go_at_call 23; refine (neg_any _ (by omega) (by omega) _).mono ?_; rintro e w' ⟨rfl, rfl⟩)
    | (go_at_call 24; refine (rneg_any _ (by omega) (by omega) _).mono ?_; rintro e w' ⟨rfl, rfl⟩)
    | (go_at_call 25; refine (works_any _ (tab_below T.out (below_trans (below_trans (below_trans (below_trans (below_trans (below_trans (below_trans hB1 hB2) hB3) hB4) hB5) hB6) hB7) hB8))).mono ?_; rintro e w9 ⟨rfl, hB9⟩))
  go_ret
  exact ⟨rfl, below_trans (below_trans (below_trans (below_trans (below_trans (below_trans (below_trans (below_trans hB1 hB2) hB3) hB4) hB5) hB6) hB7) hB8) hB9⟩
end Go.Proofs.YtmepgpiihhilaaaDoor
