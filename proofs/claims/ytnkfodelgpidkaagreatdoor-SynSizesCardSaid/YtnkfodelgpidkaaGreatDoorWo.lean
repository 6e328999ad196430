/- The chapter's example. -/
import Derived.Test.YtnkfodelgpidkaaGreatDoorPa
namespace Go.Proofs.YtnkfodelgpidkaaGreatDoor
open Go.RowKit
set_option linter.unusedVariables false
set_option linter.unusedSimpArgs false

def wkL : List Tk := [⟨1, 0, [97], 0⟩, ⟨5, 1, [46], 0⟩, ⟨1, 2, [98], 0⟩, ⟨5, 4, [61], 0⟩, ⟨3, 6, [], 4607182418800017408⟩, ⟨5, 8, [43], 0⟩, ⟨3, 10, [], 4611686018427387904⟩, ⟨5, 11, [59], 0⟩]
def wkK : List Tr := [nd 6 [] [nd 41 [61] [nd 32 [98] [.node 27 [97] 0 []], nd 38 [43] [.node 21 [] 4607182418800017408 [], .node 21 [] 4611686018427387904 []]]]]
theorem wk_lex : lexL [97, 46, 98, 32, 61, 32, 49, 32, 43, 32, 50, 59] = .ok wkL := by kernel_rfl
theorem wk_D : Q 12 40 .program wkL = some (.ok (bag wkK, [])) := by kernel_rfl
theorem wk_out {r : Except (Int × Int) Tr} (h : Out [97, 46, 98, 32, 61, 32, 49, 32, 43, 32, 50, 59] r) : r = .ok (nd 1 [] wkK) := by
  unfold Out at h
  rw [wk_lex] at h
  exact Syn1.det h ⟨_, D.of wk_D, rfl, rfl⟩
theorem wk_lay : (layT (nd 1 [] wkK)).length = 8 := by decide
theorem wk_ht : htT (nd 1 [] wkK) = 5 := by decide
set_option maxRecDepth 100000 in
set_option maxHeartbeats 1000000 in
theorem swork_any (w : World) (hm : MLw w) (ht : Bt.tab w) : Calls Tryz.prog 14 #[] w fun e w' => e = .returned (.bool true) ∧ Below w.heap.size w w' := by
  have T := Lib.hid (Parse_any ⟨#[97, 46, 98, 32, 61, 32, 49, 32, 43, 32, 50, 59]⟩ (by decide) w hm ht)
  clear hm ht
  go_enter Tryz.func14, Tryz.ntmps14
  go_wp2_with fail
  refine T.out.mono ?_; rintro e w1 ⟨r, h1, h2⟩
  have hr := wk_out h1
  subst hr
  obtain ⟨v, rfl, hW, _, hB⟩ := h2
  have hN := NRow.own hW
  have hN2 := Lib.hid hN
  have HB := Lib.hid hB
  rw [wk_lay] at hW
  obtain ⟨g, cp, rfl, hg1, hg2⟩ := hW.form (by decide)
  have c2 : w1.cell? ⟨g, 2, none⟩ = some (.int .i64 8) := (hW.cellAt 2 (by decide)).trans (by kernel_rfl)
  have c10 : w1.cell? ⟨g, 10, none⟩ = some (.int .i64 41) := (hW.cellAt 10 (by decide)).trans (by kernel_rfl)
  clear hW hN hB h1
  go_wp2_with fail
  refine (Height_tree w1 _ (nd 1 [] wkK) hN2.out (by decide)).mono ?_; rintro e w2 ⟨rfl, hB2⟩
  rw [wk_ht]
  have HB2 := Lib.hid hB2
  clear hB2
  go_wp2_with fail
  go_ret
  exact ⟨rfl, below_trans HB.out HB2.out HB.out.size⟩
end Go.Proofs.YtnkfodelgpidkaaGreatDoor
