/- The chapter's example, that every statement asks. -/
import Derived.Test.YtmepgpiihhilaaaDoorParse
import Derived.Lib.AppendIntMem
namespace Go.Proofs.YtmepgpiihhilaaaDoor
open Go.RowKit

theorem tab_below {w w' : World} (h : tab w) (hb : Below w.heap.size w w') : tab w' := Lib.tabBelow_of_tabIs h w' hb
theorem below_trans {w a b : World} (h : Below w.heap.size w a) (k : Below a.heap.size a b) : Below w.heap.size w b := h.trans (k.mono h.size)

theorem w_add : (fop .add (ofI 1) (ofI 2) == ofI 3) = true := by decide +kernel
theorem w_div : ((textI (fop .quo (ofI 1) (ofI 2))).toList == [126, 51, 102, 101, 48, 48, 48, 48, 48, 48, 48, 48, 48, 48, 48, 48, 48]) = true := by
  rw [Lib.toList_data]; decide +kernel
theorem w_rem : (remI (ofI (-7)) (ofI 2) == ofI (-1)) = true := by decide +kernel
theorem w_word : (uwordI (ofI (-1)) == 4294967295) = true := by decide +kernel
theorem w_parse : (parseI [32, 49, 50, 32] == ofI 12) = true := by decide +kernel
theorem w_one : (ofI 1 != 0) = true := by decide +kernel

set_option maxRecDepth 100000 in
set_option maxHeartbeats 1000000 in
theorem works_any (w : World) (htab : tab w) :
    Calls Tryd.prog 25 #[] w fun e w' => e = .returned (.bool true) ∧ Below w.heap.size w w' := by
  have h1 := w_add
  have h2 := w_div
  have h3 := w_rem
  have h4 := w_word
  have h5 := w_parse
  have h6 := w_one
  have F := Lib.hid fop_nonneg
  have L := Lib.hid fop_lt
  have T := Lib.hid htab
  have hp : (⟨#[32, 49, 50, 32]⟩ : ByteArray).data.toList = [32, 49, 50, 32] := rfl
  have P := Lib.hid (fun w => parse_any ⟨#[32, 49, 50, 32]⟩ (by decide) w)
  rw [hp] at P
  clear hp htab
  go_enter Tryd.func25, Tryd.ntmps25
  go_wp2_with (first
    | (go_at_call 40; refine (of_any _ _).mono ?_; rintro e w' ⟨rfl, rfl⟩)
    | (go_at_call 15; refine (add_any _ _ _).mono ?_; rintro e w1 ⟨rfl, hB1⟩)
    | (go_at_call 21; refine (div_any _ _ _).mono ?_; rintro e w2 ⟨rfl, hB2⟩)
    | (go_at_call 42; refine (text_any _ (F.out _ _ _) (L.out _ _ _) _ (tab_below (tab_below T.out hB1) hB2)).mono ?_; rintro e w3 ⟨rfl, hB3⟩)
    | (go_at_call 26; refine (rem_any _ _ (ofI_nonneg _) (ofI_lt _) (ofI_nonneg _) (ofI_lt _) _).mono ?_; rintro e w' ⟨rfl, rfl⟩)
    | (go_at_call 36; refine (uint32_any _ (ofI_nonneg _) (ofI_lt _) _).mono ?_; rintro e w' ⟨rfl, rfl⟩)
    | (go_at_call 44; refine (P.out _).mono ?_; rintro e w4 ⟨rfl, hB4⟩))
  go_ret
  exact ⟨rfl, below_trans (below_trans (below_trans hB1 hB2) hB3) hB4⟩
end Go.Proofs.YtmepgpiihhilaaaDoor
