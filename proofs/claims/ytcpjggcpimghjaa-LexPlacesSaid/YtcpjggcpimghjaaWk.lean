/- The chapter's example. -/
import Derived.Test.YtcpjggcpimghjaaRSame
import Derived.Test.YtcpjggcpimghjaaRToks
import Derived.Test.YtcpjggcpimghjaaNm
namespace Go.Proofs.Ytcpjggcpimghjaa
open Go.RowKit
set_option linter.unusedVariables false
def exT : List Tk := [⟨1, 0, [97], 0⟩, ⟨5, 1, [43, 43], 0⟩, ⟨5, 3, [43], 0⟩, ⟨1, 4, [98], 0⟩]
theorem ex_lex : lexL [97, 43, 43, 43, 98] = .ok exT := by kernel_rfl
theorem ex_name : nameB [97] = true := by decide +kernel
theorem ex_word : wordB [105, 102] = true := by decide +kernel

set_option maxRecDepth 100000 in
set_option maxHeartbeats 4000000 in
theorem works_any (w : World) (hm : MLw w) :
    Calls Try.prog 11 #[] w fun e w' => e = .returned (.bool true) ∧ Below w.heap.size w w' := by
  have T := Lib.hid (Tokens_any (bs [97, 43, 43, 43, 98]) (by decide) w hm)
  rw [show (bs [97, 43, 43, 43, 98]).data.toList = [97, 43, 43, 43, 98] from rfl, ex_lex] at T
  have NM := Lib.hid (fun w => lname_any (bs [97]) (by decide) w)
  rw [show (bs [97]).data.toList = [97] from rfl, ex_name] at NM
  have WD := Lib.hid (fun w => word_any (bs [105, 102]) w)
  rw [show (bs [105, 102]).data.toList = [105, 102] from rfl, ex_word] at WD
  go_enter Try.func11, Try.ntmps11
  go_wp2_with fail
  refine T.out.mono ?_; rintro e w1 ⟨v, rfl, hown, hB⟩
  have HB := Lib.hid hB
  obtain ⟨g, cap, rfl, hg1, hg2⟩ := hown.form (by decide)
  have c1 : w1.cell? ⟨g, 6, none⟩ = some (.string (bs [43, 43])) := hown.cellAt 6 (by decide)
  have c2 : w1.cell? ⟨g, 13, none⟩ = some (.int .i64 4) := hown.cellAt 13 (by decide)
  have hl4 : exT.length = 4 := rfl
  rw [hl4]
  have q1 := tex_true (rfl : [43, 43] = ([43, 43] : List UInt8))
  generalize bs [43, 43] = tx at *
  clear hown hB
  go_wp2_with fail
  refine (NM.out _).mono ?_; rintro e w' ⟨rfl, rfl⟩
  go_wp2_with fail
  refine (WD.out _).mono ?_; rintro e w' ⟨rfl, rfl⟩
  go_wp2_with fail
  go_ret
  exact ⟨rfl, HB.out⟩
end Go.Proofs.Ytcpjggcpimghjaa
