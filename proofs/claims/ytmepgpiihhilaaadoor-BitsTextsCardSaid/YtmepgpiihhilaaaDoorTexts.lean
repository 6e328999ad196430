/- The text of a number and the reading of one, by the program and by the document. -/
import Derived.Test.YtmepgpiihhilaaaDoorRparse
namespace Go.Proofs.YtmepgpiihhilaaaDoor
open Go.RowKit
set_option linter.unusedVariables false

set_option maxRecDepth 100000 in
set_option maxHeartbeats 1000000 in
theorem law_BitsTexts (b : Int) (hb0 : 0 ≤ b) (hb : b < 18446744073709551616) (s : ByteArray) (hs : s.size ≤ 9223372036854775807) (w : World) (htab : tab w) :
    Calls Tryd.prog 7 #[.int .u64 b, .string s] w fun e w' => e = .returned (.bool true) ∧ Below w.heap.size w w' := by
  have K := Lib.hid htab
  have T1 := Lib.hid (fun w ht => text_any b hb0 hb w ht)
  have T2 := Lib.hid (fun w => rtext_any b hb0 hb w)
  clear htab
  by_cases hc : 2000 < s.size
  · have hu : (s.extract 0 2000).size ≤ 9223372036854775807 := by
      rw [Lib.size_eq, Lib.extract_data, List.length_take, List.length_drop, ← Lib.size_eq]; omega
    have P1 := Lib.hid (fun w => parse_any (s.extract 0 2000) hu w)
    have P2 := Lib.hid (fun w => rparse_any (s.extract 0 2000) hu w)
    have hf : (2000 : Int) < (s.size : Int) := by omega
    generalize textI b = t at *
    generalize parseI (s.extract 0 2000).data.toList = z at *
    go_enter Tryd.func7, Tryd.ntmps7
    go_wp2_with fail
    refine (T1.out _ K.out).mono ?_
    rintro e w1 ⟨rfl, hB1⟩
    go_wp2_with fail
    refine (T2.out _).mono ?_
    rintro e w2 ⟨rfl, hB2⟩
    go_wp2_with fail
    refine (P1.out _).mono ?_
    rintro e w3 ⟨rfl, hB3⟩
    go_wp2_with fail
    refine (P2.out _).mono ?_
    rintro e w4 ⟨rfl, hB4⟩
    go_wp2_with fail
    refine (works_any _ (tab_below K.out (below_trans (below_trans (below_trans hB1 hB2) hB3) hB4))).mono ?_
    rintro e w5 ⟨rfl, hB5⟩
    go_wp2_with fail
    go_ret
    exact ⟨rfl, below_trans (below_trans (below_trans (below_trans hB1 hB2) hB3) hB4) hB5⟩
  · have P1 := Lib.hid (fun w => parse_any s hs w)
    have P2 := Lib.hid (fun w => rparse_any s hs w)
    have hf : ¬ (2000 : Int) < (s.size : Int) := by omega
    generalize textI b = t at *
    generalize parseI s.data.toList = z at *
    go_enter Tryd.func7, Tryd.ntmps7
    go_wp2_with fail
    refine (T1.out _ K.out).mono ?_
    rintro e w1 ⟨rfl, hB1⟩
    go_wp2_with fail
    refine (T2.out _).mono ?_
    rintro e w2 ⟨rfl, hB2⟩
    go_wp2_with fail
    refine (P1.out _).mono ?_
    rintro e w3 ⟨rfl, hB3⟩
    go_wp2_with fail
    refine (P2.out _).mono ?_
    rintro e w4 ⟨rfl, hB4⟩
    go_wp2_with fail
    refine (works_any _ (tab_below K.out (below_trans (below_trans (below_trans hB1 hB2) hB3) hB4))).mono ?_
    rintro e w5 ⟨rfl, hB5⟩
    go_wp2_with fail
    go_ret
    exact ⟨rfl, below_trans (below_trans (below_trans (below_trans hB1 hB2) hB3) hB4) hB5⟩
end Go.Proofs.YtmepgpiihhilaaaDoor
