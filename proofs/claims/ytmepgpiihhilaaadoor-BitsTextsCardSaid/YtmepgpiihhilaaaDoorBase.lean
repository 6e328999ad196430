/- The smallest functions of the program and of the document's answer: what each call comes to. -/
import Derived.Test.YtmepgpiihhilaaaDoorRows
import Derived.Test.YtmepgpiihhilaaaDoorPlain
import Derived.WalkKit
import Derived.WalkSpells
import Derived.WalkLawsBesides
import Derived.Handy
import Derived.Lib.Hide
import Derived.Laws.Externs
namespace Go.Proofs.YtmepgpiihhilaaaDoor
open Go.RowKit

theorem fb_run (b : Nat) (w : World) : (callFunc 62 #[.float .f64 b]).run Tryd.prog w = .ok (.value (.int .u64 (b : Int))) w := by
  rw [run_callFunc_extern (e := Extern.MathFloatBits.float64bits) Tryd.func62 (by kernel_rfl) (by kernel_rfl) (by kernel_rfl) (by kernel_rfl)]
  rfl
theorem fbf_run (b : Int) (w : World) : (callFunc 48 #[.int .u64 b]).run Tryd.prog w = .ok (.value (.float .f64 b.toNat)) w := by
  rw [run_callFunc_extern (e := Extern.MathFloatBits.float64frombits) Tryd.func48 (by kernel_rfl) (by kernel_rfl) (by kernel_rfl) (by kernel_rfl)]
  rfl

set_option maxHeartbeats 400000 in
theorem pack_any (b : Nat) (w : World) :
    Calls Tryd.prog 47 #[.float .f64 b] w fun e w' => e = .returned (.int .u64 (canon b)) ∧ w = w' := by
  have hfb := fb_run
  go_enter Tryd.func47, Tryd.ntmps47
  go_wp2
  · rename_i hn
    go_ret
    exact ⟨ret_int (by rw [order_self] at hn; rw [canon, hn]; rfl), rfl⟩
  · rename_i hn
    go_ret
    exact ⟨ret_int (by rw [order_self] at hn; rw [canon, hn]; rfl), rfl⟩

set_option maxHeartbeats 400000 in
theorem isNone_any (b : Int) (h0 : 0 ≤ b) (h1 : b < 18446744073709551616) (w : World) :
    Calls Tryd.prog 50 #[.int .u64 b] w fun e w' => e = .returned (.bool (nanB b)) ∧ w = w' := by
  go_enter Tryd.func50, Tryd.ntmps50
  go_wp2
  go_ret
  exact ⟨ret_bool (by rw [andNot_sign h0 h1]; rfl), rfl⟩

set_option maxHeartbeats 400000 in
theorem isNaN_any (b : Int) (h0 : 0 ≤ b) (h1 : b < 18446744073709551616) (w : World) :
    Calls Tryd.prog 51 #[.int .u64 b] w fun e w' => e = .returned (.bool (nanB b)) ∧ w = w' := by
  go_enter Tryd.func51, Tryd.ntmps51
  go_wp2
  go_ret
  exact ⟨ret_bool (by rw [and_low63 h0 h1]; rfl), rfl⟩

set_option maxHeartbeats 400000 in
theorem isInfinite_any (b : Int) (h0 : 0 ≤ b) (h1 : b < 18446744073709551616) (w : World) :
    Calls Tryd.prog 52 #[.int .u64 b] w fun e w' => e = .returned (.bool (infB b)) ∧ w = w' := by
  go_enter Tryd.func52, Tryd.ntmps52
  go_wp2
  go_ret
  exact ⟨ret_bool (by rw [andNot_sign h0 h1]; rfl), rfl⟩

set_option maxHeartbeats 400000 in
theorem isInf_any (b : Int) (h0 : 0 ≤ b) (h1 : b < 18446744073709551616) (w : World) :
    Calls Tryd.prog 57 #[.int .u64 b] w fun e w' => e = .returned (.bool (infB b)) ∧ w = w' := by
  go_enter Tryd.func57, Tryd.ntmps57
  go_wp2
  go_ret
  exact ⟨ret_bool (by rw [and_low63 h0 h1]; rfl), rfl⟩

set_option maxHeartbeats 400000 in
theorem isNought_any (b : Int) (h0 : 0 ≤ b) (h1 : b < 18446744073709551616) (w : World) :
    Calls Tryd.prog 53 #[.int .u64 b] w fun e w' => e = .returned (.bool (zerB b)) ∧ w = w' := by
  go_enter Tryd.func53, Tryd.ntmps53
  go_wp2
  go_ret
  exact ⟨ret_bool (by rw [andNot_sign h0 h1]; rfl), rfl⟩

set_option maxHeartbeats 400000 in
theorem isZero_any (b : Int) (h0 : 0 ≤ b) (h1 : b < 18446744073709551616) (w : World) :
    Calls Tryd.prog 46 #[.int .u64 b] w fun e w' => e = .returned (.bool (zerB b)) ∧ w = w' := by
  go_enter Tryd.func46, Tryd.ntmps46
  go_wp2
  go_ret
  exact ⟨ret_bool (by rw [and_low63 h0 h1]; rfl), rfl⟩

set_option maxHeartbeats 400000 in
theorem clean_any (b : Nat) (hb : b < 18446744073709551616) (w : World) :
    Calls Tryd.prog 49 #[.float .f64 b] w fun e w' => e = .returned (.int .u64 (canon b)) ∧ w = w' := by
  have hfb := fb_run
  have c := isNaN_any b (by omega) (by omega) w
  have hc := Lib.hid c
  clear c
  cases hn : nanB b
  all_goals
    rw [hn] at hc
    have HN := Lib.hid hn
    clear hn
    go_enter Tryd.func49, Tryd.ntmps49
    go_wp2_with (go_at_call 51; refine hc.out.mono ?_; rintro e w' ⟨rfl, rfl⟩)
    go_ret
    exact ⟨ret_int (by rw [canon, HN.out]; rfl), rfl⟩

set_option maxHeartbeats 400000 in
theorem of_any (n : Int) (w : World) :
    Calls Tryd.prog 40 #[.int .i64 n] w fun e w' => e = .returned (.int .u64 (ofI n)) ∧ w = w' := by
  have hfb := fb_run
  go_enter Tryd.func40, Tryd.ntmps40
  go_wp2
  go_ret
  exact ⟨rfl, rfl⟩

set_option maxHeartbeats 400000 in
theorem rof_any (n : Int) (w : World) :
    Calls Tryd.prog 41 #[.int .i64 n] w fun e w' => e = .returned (.int .u64 (ofI n)) ∧ w = w' := by
  have hlt : floatOfInt .f64 n < 18446744073709551616 := by have := ofI_lt n; unfold ofI at this; omega
  have hc := clean_any (floatOfInt .f64 n) hlt w
  rw [show canon (floatOfInt .f64 n : Nat) = ofI n from canon_of n] at hc
  have HC := Lib.hid hc
  clear hc hlt
  go_enter Tryd.func41, Tryd.ntmps41
  go_wp2_with (go_at_call 49; refine HC.out.mono ?_; rintro e w' ⟨rfl, rfl⟩)
  go_ret
  exact ⟨rfl, rfl⟩

set_option maxHeartbeats 400000 in
theorem add_any (a b : Int) (w : World) :
    Calls Tryd.prog 15 #[.int .u64 a, .int .u64 b] w fun e w' => e = .returned (.int .u64 (fop .add a b)) ∧ Below w.heap.size w w' := by
  have hfbf := fbf_run
  have hr := fun t x y w => run_float (P := Tryd.prog) .add (.inl rfl) t x y w
  go_enter Tryd.func15, Tryd.ntmps15
  go_wp2_with (go_at_call 47; refine (pack_any _ _).mono ?_; rintro e w' ⟨rfl, rfl⟩)
  go_ret
  exact ⟨ret_int (canon_fres .add a b w), fwld_below _ _ _ _⟩

set_option maxHeartbeats 400000 in
theorem radd_any (a b : Int) (w : World) :
    Calls Tryd.prog 16 #[.int .u64 a, .int .u64 b] w fun e w' => e = .returned (.int .u64 (fop .add a b)) ∧ Below w.heap.size w w' := by
  have hfbf := fbf_run
  have hr := fun t x y w => run_float (P := Tryd.prog) .add (.inl rfl) t x y w
  go_enter Tryd.func16, Tryd.ntmps16
  go_wp2_with (go_at_call 49; refine (clean_any _ (fres_lt _ _ _ _) _).mono ?_; rintro e w' ⟨rfl, rfl⟩)
  go_ret
  exact ⟨ret_int (canon_fres .add a b w), fwld_below _ _ _ _⟩

set_option maxHeartbeats 400000 in
theorem sub_any (a b : Int) (w : World) :
    Calls Tryd.prog 17 #[.int .u64 a, .int .u64 b] w fun e w' => e = .returned (.int .u64 (fop .sub a b)) ∧ Below w.heap.size w w' := by
  have hfbf := fbf_run
  have hr := fun t x y w => run_float (P := Tryd.prog) .sub (.inr (.inl rfl)) t x y w
  go_enter Tryd.func17, Tryd.ntmps17
  go_wp2_with (go_at_call 47; refine (pack_any _ _).mono ?_; rintro e w' ⟨rfl, rfl⟩)
  go_ret
  exact ⟨ret_int (canon_fres .sub a b w), fwld_below _ _ _ _⟩

set_option maxHeartbeats 400000 in
theorem rsub_any (a b : Int) (w : World) :
    Calls Tryd.prog 18 #[.int .u64 a, .int .u64 b] w fun e w' => e = .returned (.int .u64 (fop .sub a b)) ∧ Below w.heap.size w w' := by
  have hfbf := fbf_run
  have hr := fun t x y w => run_float (P := Tryd.prog) .sub (.inr (.inl rfl)) t x y w
  go_enter Tryd.func18, Tryd.ntmps18
  go_wp2_with (go_at_call 49; refine (clean_any _ (fres_lt _ _ _ _) _).mono ?_; rintro e w' ⟨rfl, rfl⟩)
  go_ret
  exact ⟨ret_int (canon_fres .sub a b w), fwld_below _ _ _ _⟩

set_option maxHeartbeats 400000 in
theorem mul_any (a b : Int) (w : World) :
    Calls Tryd.prog 19 #[.int .u64 a, .int .u64 b] w fun e w' => e = .returned (.int .u64 (fop .mul a b)) ∧ Below w.heap.size w w' := by
  have hfbf := fbf_run
  have hr := fun t x y w => run_float (P := Tryd.prog) .mul (.inr (.inr (.inl rfl))) t x y w
  go_enter Tryd.func19, Tryd.ntmps19
  go_wp2_with (go_at_call 47; refine (pack_any _ _).mono ?_; rintro e w' ⟨rfl, rfl⟩)
  go_ret
  exact ⟨ret_int (canon_fres .mul a b w), fwld_below _ _ _ _⟩

set_option maxHeartbeats 400000 in
theorem rmul_any (a b : Int) (w : World) :
    Calls Tryd.prog 20 #[.int .u64 a, .int .u64 b] w fun e w' => e = .returned (.int .u64 (fop .mul a b)) ∧ Below w.heap.size w w' := by
  have hfbf := fbf_run
  have hr := fun t x y w => run_float (P := Tryd.prog) .mul (.inr (.inr (.inl rfl))) t x y w
  go_enter Tryd.func20, Tryd.ntmps20
  go_wp2_with (go_at_call 49; refine (clean_any _ (fres_lt _ _ _ _) _).mono ?_; rintro e w' ⟨rfl, rfl⟩)
  go_ret
  exact ⟨ret_int (canon_fres .mul a b w), fwld_below _ _ _ _⟩

set_option maxHeartbeats 400000 in
theorem div_any (a b : Int) (w : World) :
    Calls Tryd.prog 21 #[.int .u64 a, .int .u64 b] w fun e w' => e = .returned (.int .u64 (fop .quo a b)) ∧ Below w.heap.size w w' := by
  have hfbf := fbf_run
  have hr := fun t x y w => run_float (P := Tryd.prog) .quo (.inr (.inr (.inr rfl))) t x y w
  go_enter Tryd.func21, Tryd.ntmps21
  go_wp2_with (go_at_call 47; refine (pack_any _ _).mono ?_; rintro e w' ⟨rfl, rfl⟩)
  go_ret
  exact ⟨ret_int (canon_fres .quo a b w), fwld_below _ _ _ _⟩

set_option maxHeartbeats 400000 in
theorem rdiv_any (a b : Int) (w : World) :
    Calls Tryd.prog 22 #[.int .u64 a, .int .u64 b] w fun e w' => e = .returned (.int .u64 (fop .quo a b)) ∧ Below w.heap.size w w' := by
  have hfbf := fbf_run
  have hr := fun t x y w => run_float (P := Tryd.prog) .quo (.inr (.inr (.inr rfl))) t x y w
  go_enter Tryd.func22, Tryd.ntmps22
  go_wp2_with (go_at_call 49; refine (clean_any _ (fres_lt _ _ _ _) _).mono ?_; rintro e w' ⟨rfl, rfl⟩)
  go_ret
  exact ⟨ret_int (canon_fres .quo a b w), fwld_below _ _ _ _⟩

set_option maxHeartbeats 400000 in
theorem neg_any (a : Int) (h0 : 0 ≤ a) (h1 : a < 18446744073709551616) (w : World) :
    Calls Tryd.prog 23 #[.int .u64 a] w fun e w' => e = .returned (.int .u64 (negI a)) ∧ w = w' := by
  have hc := isNone_any a h0 h1 w
  have HX := Lib.hid (xor_sign h0 h1)
  cases hn : nanB a
  all_goals
    rw [hn] at hc
    have HC := Lib.hid hc
    have HN := Lib.hid hn
    clear hc hn
    go_enter Tryd.func23, Tryd.ntmps23
    go_wp2_with (go_at_call 50; refine HC.out.mono ?_; rintro e w' ⟨rfl, rfl⟩)
    go_ret
    first
      | exact ⟨ret_int (by rw [negI, if_pos HN.out]; rfl), rfl⟩
      | exact ⟨ret_int (by rw [negI, if_neg (by rw [HN.out]; decide)]; exact HX.out), rfl⟩

set_option maxHeartbeats 400000 in
theorem rneg_any (a : Int) (h0 : 0 ≤ a) (h1 : a < 18446744073709551616) (w : World) :
    Calls Tryd.prog 24 #[.int .u64 a] w fun e w' => e = .returned (.int .u64 (negI a)) ∧ w = w' := by
  have hc := isNaN_any a h0 h1 w
  have HX := Lib.hid (xor_sign h0 h1)
  cases hn : nanB a
  all_goals
    rw [hn] at hc
    have HC := Lib.hid hc
    have HN := Lib.hid hn
    clear hc hn
    go_enter Tryd.func24, Tryd.ntmps24
    go_wp2_with (go_at_call 51; refine HC.out.mono ?_; rintro e w' ⟨rfl, rfl⟩)
    go_ret
    first
      | exact ⟨ret_int (by rw [negI, if_pos HN.out]; rfl), rfl⟩
      | exact ⟨ret_int (by rw [negI, if_neg (by rw [HN.out]; decide)]; exact HX.out), rfl⟩

end Go.Proofs.YtmepgpiihhilaaaDoor
