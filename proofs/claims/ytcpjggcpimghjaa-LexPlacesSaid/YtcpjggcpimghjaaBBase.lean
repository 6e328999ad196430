/- The smallest functions of the program and of the document's answer: what each call comes to. -/
import Derived.Test.YtcpjggcpimghjaaRows
import Derived.Test.YtcpjggcpimghjaaBPlain
import Derived.WalkKit
import Derived.WalkSpells
import Derived.WalkLawsBesides
import Derived.Handy
import Derived.Lib.Hide
import Derived.Laws.Externs
namespace Go.Proofs.Ytcpjggcpimghjaa
open Go.RowKit

theorem fb_run (b : Nat) (w : World) : (callFunc 64 #[.float .f64 b]).run Try.prog w = .ok (.value (.int .u64 (b : Int))) w := by
  rw [run_callFunc_extern (e := Extern.MathFloatBits.float64bits) Try.func64 (by kernel_rfl) (by kernel_rfl) (by kernel_rfl) (by kernel_rfl)]
  rfl
set_option maxHeartbeats 400000 in
theorem isNaN_any (b : Int) (h0 : 0 ≤ b) (h1 : b < 18446744073709551616) (w : World) :
    Calls Try.prog 68 #[.int .u64 b] w fun e w' => e = .returned (.bool (nanB b)) ∧ w = w' := by
  go_enter Try.func68, Try.ntmps68
  go_wp2
  go_ret
  exact ⟨ret_bool (by rw [and_low63 h0 h1]; rfl), rfl⟩

set_option maxHeartbeats 400000 in
theorem clean_any (b : Nat) (hb : b < 18446744073709551616) (w : World) :
    Calls Try.prog 60 #[.float .f64 b] w fun e w' => e = .returned (.int .u64 (canon b)) ∧ w = w' := by
  have hfb := fb_run
  have c := isNaN_any b (by omega) (by omega) w
  have hc := Lib.hid c
  clear c
  cases hn : nanB b
  all_goals
    rw [hn] at hc
    have HN := Lib.hid hn
    clear hn
    go_enter Try.func60, Try.ntmps60
    go_wp2_with (go_at_call 68; refine hc.out.mono ?_; rintro e w' ⟨rfl, rfl⟩)
    go_ret
    exact ⟨ret_int (by rw [canon, HN.out]; rfl), rfl⟩

set_option maxHeartbeats 400000 in
theorem of_any (n : Int) (w : World) :
    Calls Try.prog 50 #[.int .i64 n] w fun e w' => e = .returned (.int .u64 (ofI n)) ∧ w = w' := by
  have hfb := fb_run
  go_enter Try.func50, Try.ntmps50
  go_wp2
  go_ret
  exact ⟨rfl, rfl⟩

set_option maxHeartbeats 400000 in
theorem rof_any (n : Int) (w : World) :
    Calls Try.prog 43 #[.int .i64 n] w fun e w' => e = .returned (.int .u64 (ofI n)) ∧ w = w' := by
  have hlt : floatOfInt .f64 n < 18446744073709551616 := by have := ofI_lt n; unfold ofI at this; omega
  have hc := clean_any (floatOfInt .f64 n) hlt w
  rw [show canon (floatOfInt .f64 n : Nat) = ofI n from canon_of n] at hc
  have HC := Lib.hid hc
  clear hc hlt
  go_enter Try.func43, Try.ntmps43
  go_wp2_with (go_at_call 60; refine HC.out.mono ?_; rintro e w' ⟨rfl, rfl⟩)
  go_ret
  exact ⟨rfl, rfl⟩

end Go.Proofs.Ytcpjggcpimghjaa
