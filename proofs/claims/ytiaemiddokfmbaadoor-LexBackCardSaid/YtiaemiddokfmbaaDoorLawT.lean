/- LexTexts: a right text that is written is read as it was. -/
import Derived.Test.YtiaemiddokfmbaaDoorMQ
import Derived.Test.YtiaemiddokfmbaaDoorML4
namespace Go.Proofs.YtiaemiddokfmbaaDoor
open Go.RowKit
set_option linter.unusedVariables false

set_option maxRecDepth 100000 in
set_option maxHeartbeats 2000000 in
theorem law_LexTexts (s : ByteArray) (hs : s.size ≤ 9223372036854775807) (w : World) (hm : MLw w) (ht : Bt.tab w) :
    Calls Tryd.prog 5 #[.string s] w fun e w' => e = .returned (.bool true) ∧ Below w.heap.size w w' := by
  have hz := cut_size s 600
  generalize hx : s.extract 0 (min (s.size : Int) 600).toNat = x at *
  have hxl : x.data.toList.length ≤ 600 := by rw [list_size']; exact hz
  have P := Lib.hid (print_any 4 0 0 x (by omega) (by decide) (by decide) w ht)
  have hps : prS 4 x 0 = bs (quoteL x.data.toList) := rfl
  rw [hps] at P
  have hqs : (bs (quoteL x.data.toList)).size ≤ 3602 := by rw [bs_size]; have := quote_size x.data.toList; omega
  have T := Lib.hid (fun w hm => Tokens_any (bs (quoteL x.data.toList)) (by omega) w hm)
  rw [show (bs (quoteL x.data.toList)).data.toList = quoteL x.data.toList from rfl] at T
  have LQ := Lib.hid (lex_quote hxl)
  generalize bs (quoteL x.data.toList) = q at *
  generalize lexL (quoteL x.data.toList) = r at *
  have HX := Lib.hid hx
  clear hx hps
  go_enter Tryd.func5, Tryd.ntmps5
  go_wp2_with fail
  rw [HX.out]
  refine (P.out).mono ?_; rintro e w1 ⟨rfl, hB1⟩
  have HB1 := Lib.hid hB1
  have HM := Lib.hid hm
  clear hB1 hm ht
  go_wp2_with fail
  refine (T.out _ (HM.out.below HB1.out)).mono ?_; rintro e w2 F
  have HB2 := Lib.hid (fp_below F)
  have HM2 := Lib.hid ((HM.out.below HB1.out).below HB2.out)
  rcases LQ.out with ⟨k, rfl⟩ | rfl
  · obtain ⟨rfl, _⟩ := F
    go_wp2_with fail
    refine (works_any _ HM2.out).mono ?_; rintro e w3 ⟨rfl, hB3⟩
    have HB3 := Lib.hid hB3
    clear hB3
    go_wp2_with fail
    go_ret
    exact ⟨rfl, below_trans (below_trans HB1.out HB2.out HB1.out.size) HB3.out (Nat.le_trans HB1.out.size HB2.out.size)⟩
  · obtain ⟨v, rfl, hown, _⟩ := F
    obtain ⟨g, cap, rfl, hg1, hg2⟩ := hown.form (by simp)
    obtain ⟨c0, c1, c2, c3⟩ := tok_at hown 0 (by simp)
    have hbx : bs x.data.toList = x := (bs_eq rfl).symm
    have c0' : w2.cell? ⟨g, 0, none⟩ = some (.int .i64 4) := c0
    have c1' : w2.cell? ⟨g, 1, none⟩ = some (.int .i64 0) := c1
    have c2' : w2.cell? ⟨g, 2, none⟩ = some (.string x) := by rw [← hbx]; exact c2
    have c3' : w2.cell? ⟨g, 3, none⟩ = some (.int .u64 0) := c3
    have hl : ([⟨4, 0, x.data.toList, 0⟩] : List Tk).length = 1 := rfl
    rw [hl]
    clear c0 c1 c2 c3 hown hbx hl
    have qx : (x.toList == x.toList) = true := by simp
    go_wp2_with fail
    refine (works_any _ HM2.out).mono ?_; rintro e w3 ⟨rfl, hB3⟩
    have HB3 := Lib.hid hB3
    clear hB3
    go_wp2_with fail
    go_ret
    exact ⟨rfl, below_trans (below_trans HB1.out HB2.out HB1.out.size) HB3.out (Nat.le_trans HB1.out.size HB2.out.size)⟩
end Go.Proofs.YtiaemiddokfmbaaDoor
