/- Statements and elements: which one it is. -/
import Derived.Test.YtnkfodelgpidkaaGreatDoorAc
namespace Go.Proofs.YtnkfodelgpidkaaGreatDoor
open Go.RowKit
set_option linter.unusedVariables false

set_option maxRecDepth 100000 in
set_option maxHeartbeats 1000000 in
theorem element_any (c : Cx) (k : Nat) (ihs : Ok c .statement 89 #[c.p] k) (ihg : ∀ j, k < j → ∀ x, Ok c (.function 18 x) 87 #[c.p, .int .i64 18, .string (bs x)] j) : Ok c .element 47 #[c.p] k := by
  intro w h
  have hbl := h.lt
  have hfew := h.ok.few
  have G0 : Hid (Go1 c w w k) := ⟨h, Off.refl _ _⟩
  have IHS := Lib.hid ihs
  have IHG := Lib.hid ihg
  clear h ihg ihs
  go_enter Tryz.func47, Tryz.ntmps47
  go_wp2_with fail
  cases hq : isF c.E [102, 117, 110, 99, 116, 105, 111, 110] (c.R k)
  · refine (skip_no c k ⟨#[102, 117, 110, 99, 116, 105, 111, 110]⟩ _ G0.out.1 hq).mono ?_; rintro e w1 ⟨rfl, hB⟩
    have G2 : Hid (Go1 c w w1 k) := ⟨G0.out.1.below hB, G0.out.2.below hB⟩
    have Q1 := Lib.hid hq
    clear hB hq
    go_wp2_with fail
    refine (IHS.out _ G2.out.1).mono ?_; rintro e w3 ⟨r, hD, hr⟩
    rcases r with p | ⟨t3, R1⟩
    · obtain ⟨rfl, hO⟩ := hr
      have HO := Lib.hid (G2.out.2.trans hO)
      have D3 := Lib.hid hD
      clear hD hO
      unfold sflt
      go_wp2_with fail
      exact bodyPost_panic rfl (post_err (show D c.E .element (c.R k) (.error p) from D.mk1 D3.out fun m h0 => by simp only [body, Bool.false_eq_true, if_false, Q1.out, h0]) rfl HO.out)
    · obtain ⟨j3, v3, rfl, hj3, rfl, hG, hT⟩ := hr
      have G4 : Hid (Go1 c w w3 j3) := ⟨hG.1, G2.out.2.trans hG.2⟩
      have T3 := Lib.hid (hT.lower G2.out.2.size)
      have D3 := Lib.hid hD
      clear hD hG hT
      go_wp2_with fail
      go_ret
      exact post_ok (show D c.E .element (c.R k) (.ok (t3, c.R j3)) from D.mk1 D3.out fun m h0 => by simp only [body, Bool.false_eq_true, if_false, Q1.out, h0]) (by omega) rfl G4.out.1 G4.out.2 T3.out
  · refine (skip_yes c k ⟨#[102, 117, 110, 99, 116, 105, 111, 110]⟩ (by decide) _ G0.out.1 hq).mono ?_; rintro e w1 ⟨rfl, hG⟩
    have G5 : Hid (Go1 c w w1 (k + 1)) := ⟨hG.1, G0.out.2.trans hG.2⟩
    have Q1 := Lib.hid hq
    clear hG hq
    go_wp2_with fail
    by_cases hq : (c.T (k + 1)).kind = 1
    · refine (sname_yes c (k + 1) _ G5.out.1 hq).mono ?_; rintro e w6 ⟨rfl, hG⟩
      have G7 : Hid (Go1 c w w6 ((k + 1) + 1)) := ⟨hG.1, G5.out.2.trans hG.2⟩
      have Q6 := Lib.hid hq
      clear hG hq
      go_wp2_with fail
      refine (IHG.out ((k + 1) + 1) (by omega) (c.T (k + 1)).text _ G7.out.1).mono ?_; rintro e w8 ⟨r, hD, hr⟩
      rcases r with p | ⟨t8, R1⟩
      · obtain ⟨rfl, hO⟩ := hr
        have HO := Lib.hid (G7.out.2.trans hO)
        have D8 := Lib.hid hD
        clear hD hO
        unfold sflt
        go_wp2_with fail
        exact bodyPost_panic rfl (post_err (show D c.E .element (c.R k) (.error p) from D.mk1 D8.out fun m h0 => by simp only [body, if_true, R_tail, nameK, R_hd, Q1.out, Q6.out, h0]) rfl HO.out)
      · obtain ⟨j8, v8, rfl, hj8, rfl, hG, hT⟩ := hr
        have G9 : Hid (Go1 c w w8 j8) := ⟨hG.1, G7.out.2.trans hG.2⟩
        have T8 := Lib.hid (hT.lower G7.out.2.size)
        have D8 := Lib.hid hD
        clear hD hG hT
        go_wp2_with fail
        go_ret
        exact post_ok (show D c.E .element (c.R k) (.ok (t8, c.R j8)) from D.mk1 D8.out fun m h0 => by simp only [body, if_true, R_tail, nameK, R_hd, Q1.out, Q6.out, h0]) (by omega) rfl G9.out.1 G9.out.2 T8.out
    · refine (sname_no c (k + 1) _ G5.out.1 hq).mono ?_; rintro e w6 ⟨rfl, hB⟩
      have HO := Lib.hid (G5.out.2.below hB)
      have Q6 := Lib.hid hq
      clear hB hq
      unfold sflt
      go_wp2_with fail
      exact bodyPost_panic rfl (post_err (show D c.E .element (c.R k) (.error (c.T (k + 1)).pos) from D.mk0 fun m => by simp only [body, if_true, R_tail, nameK, if_false, bad, R_hd, Q1.out, Q6.out]) rfl HO.out)
set_option maxRecDepth 100000 in
set_option maxHeartbeats 1000000 in
theorem leave_any (c : Cx) (k : Nat) (kind : Int) (hlt : k < c.ts.length)  : Ok c (.leave kind) 157 #[c.p, .int .i64 kind] k := by
  intro w h
  have hbl := h.lt
  have hfew := h.ok.few
  have G0 : Hid (Go1 c w w k) := ⟨h, Off.refl _ _⟩
  clear h
  have ac1 := G0.out.1.c1
  have af1 := G0.out.1.fz 1
  go_enter Tryz.func157, Tryz.ntmps157
  go_wp2_with fail
  clear ac1 af1
  have hG : Go1 c w (w.setCell ⟨c.b, 1, none⟩ (.int .i64 ((k : Int) + 1))) (k + 1) := ⟨G0.out.1.next (j := k + 1) (by omega), (Off.refl _ _).set 1 _⟩
  have G2 : Hid (Go1 c w (w.setCell ⟨c.b, 1, none⟩ (.int .i64 ((k : Int) + 1))) (k + 1)) := ⟨hG.1, G0.out.2.trans hG.2⟩
  clear hG
  have hz1 : (w.setCell ⟨c.b, 1, none⟩ (.int .i64 ((k : Int) + 1))).heap.size = w.heap.size := by simp [World.setCell]
  generalize w.setCell ⟨c.b, 1, none⟩ (.int .i64 ((k : Int) + 1)) = u1 at *
  refine (newNode_any _ _ _ _ _ _).mono ?_; rintro e w3 hm
  obtain ⟨a3, rfl, hT, hB⟩ := node_none (k := kind) (x := []) G2.out.2.size hm
  have G4 : Hid (Go1 c w w3 (k + 1)) := ⟨G2.out.1.below hB, G2.out.2.below hB⟩
  have T3 := Lib.hid hT
  clear hT hB hm
  go_wp2_with fail
  cases hq : isF c.E [59] (c.R (k + 1))
  · refine (ended_no c (k + 1) _ _ G4.out.1 hq).mono ?_; rintro e w5 ⟨rfl, hB⟩
    have HO := Lib.hid (G4.out.2.below hB)
    have Q5 := Lib.hid hq
    clear hB hq
    unfold sflt
    go_wp2_with fail
    exact bodyPost_panic rfl (post_err (show D c.E (.leave kind) (c.R k) (.error (c.T (k + 1)).pos) from D.mk0 fun m => by simp only [body, R_tail, need, Bool.false_eq_true, if_false, bad, R_hd, Q5.out]) rfl HO.out)
  · refine (ended_yes c (k + 1) _ _ G4.out.1 hq).mono ?_; rintro e w5 ⟨rfl, hG⟩
    have G6 : Hid (Go1 c w w5 ((k + 1) + 1)) := ⟨hG.1, G4.out.2.trans hG.2⟩
    have T7 := Lib.hid (T3.out.off hG.2 hbl)
    have Q5 := Lib.hid hq
    clear hG hq
    go_wp2_with fail
    go_ret
    exact post_ok (show D c.E (.leave kind) (c.R k) (.ok ((nd kind [] []), c.R ((k + 1) + 1))) from D.mk0 fun m => by simp only [body, R_tail, need, if_true, ret, Q5.out]) (by omega) rfl G6.out.1 G6.out.2 T7.out
set_option maxRecDepth 100000 in
set_option maxHeartbeats 1000000 in
theorem statement_any (c : Cx) (k : Nat) (ihk : Ok c .block 150 #[c.p] k) (ihv : Ok c .vars 152 #[c.p] k) (ihi : Ok c .ifElse 153 #[c.p] k) (ihw : Ok c .whileDo 154 #[c.p] k) (ihd : Ok c .doWhile 155 #[c.p] k) (ihf : Ok c .forLoop 156 #[c.p] k) (ihr : Ok c .giveBack 158 #[c.p] k) (iht : Ok c .throwIt 159 #[c.p] k) (ihy : Ok c .tryIt 160 #[c.p] k) (ihe : Ok c .expr 161 #[c.p] k) : Ok c .statement 89 #[c.p] k := by
  intro w h
  have hbl := h.lt
  have hfew := h.ok.few
  have G0 : Hid (Go1 c w w k) := ⟨h, Off.refl _ _⟩
  have IHK := Lib.hid ihk
  have IHV := Lib.hid ihv
  have IHI := Lib.hid ihi
  have IHW := Lib.hid ihw
  have IHD := Lib.hid ihd
  have IHF := Lib.hid ihf
  have IHR := Lib.hid ihr
  have IHT := Lib.hid iht
  have IHY := Lib.hid ihy
  have IHE := Lib.hid ihe
  clear h ihk ihv ihi ihw ihd ihf ihr iht ihy ihe
  go_enter Tryz.func89, Tryz.ntmps89
  go_wp2_with fail
  refine (fixed_any c k _ G0.out.1).mono ?_; rintro e w1 ⟨rfl, hB⟩
  have G2 : Hid (Go1 c w w1 k) := ⟨G0.out.1.below hB, G0.out.2.below hB⟩
  clear hB
  by_cases x1_0 : fx (c.T k) = [123]
  · have n1_0 : ((bs (fx (c.T k))).toList == [123]) = true := gl_true (by rw [bs_list, x1_0])
    have Q1_0_0 : Hid (isF c.E [123] (c.R k) = true) := by show _ = _; rw [isF_T, x1_0]; rfl
    have hlt : k < c.ts.length := fx_in G2.out.1.le (by rw [x1_0]; decide)
    clear x1_0
    go_wp2_with fail
    refine (IHK.out _ G2.out.1).mono ?_; rintro e w3 ⟨r, hD, hr⟩
    rcases r with p | ⟨t3, R1⟩
    · obtain ⟨rfl, hO⟩ := hr
      have HO := Lib.hid (G2.out.2.trans hO)
      have D3 := Lib.hid hD
      clear hD hO
      unfold sflt
      go_wp2_with fail
      exact bodyPost_panic rfl (post_err (show D c.E .statement (c.R k) (.error p) from D.mk1 D3.out fun m h0 => by simp only [body, if_true, Q1_0_0.out, h0]) rfl HO.out)
    · obtain ⟨j3, v3, rfl, hj3, rfl, hG, hT⟩ := hr
      have G4 : Hid (Go1 c w w3 j3) := ⟨hG.1, G2.out.2.trans hG.2⟩
      have T3 := Lib.hid (hT.lower G2.out.2.size)
      have D3 := Lib.hid hD
      clear hD hG hT
      go_wp2_with fail
      go_ret
      exact post_ok (show D c.E .statement (c.R k) (.ok (t3, c.R j3)) from D.mk1 D3.out fun m h0 => by simp only [body, if_true, Q1_0_0.out, h0]) (by omega) rfl G4.out.1 G4.out.2 T3.out
  · skip
    by_cases x1_1 : fx (c.T k) = [118, 97, 114]
    · have n1_0 : ((bs (fx (c.T k))).toList == [123]) = false := gl_false (by rw [bs_list, x1_1]; decide)
      have Q1_1_0 : Hid (isF c.E [123] (c.R k) = false) := by show _ = _; rw [isF_T, x1_1]; rfl
      have n1_1 : ((bs (fx (c.T k))).toList == [118, 97, 114]) = true := gl_true (by rw [bs_list, x1_1])
      have Q1_1_1 : Hid (isF c.E [118, 97, 114] (c.R k) = true) := by show _ = _; rw [isF_T, x1_1]; rfl
      have hlt : k < c.ts.length := fx_in G2.out.1.le (by rw [x1_1]; decide)
      clear x1_0 x1_1
      go_wp2_with fail
      refine (IHV.out _ G2.out.1).mono ?_; rintro e w5 ⟨r, hD, hr⟩
      rcases r with p | ⟨t5, R1⟩
      · obtain ⟨rfl, hO⟩ := hr
        have HO := Lib.hid (G2.out.2.trans hO)
        have D5 := Lib.hid hD
        clear hD hO
        unfold sflt
        go_wp2_with fail
        exact bodyPost_panic rfl (post_err (show D c.E .statement (c.R k) (.error p) from D.mk1 D5.out fun m h0 => by simp only [body, Bool.false_eq_true, if_false, if_true, bnd, Q1_1_0.out, Q1_1_1.out, h0]) rfl HO.out)
      · obtain ⟨j5, vv, rfl, hj5, rfl, hG, hT⟩ := hr
        obtain ⟨v5, rfl⟩ := hT.ptr
        have G6 : Hid (Go1 c w w5 j5) := ⟨hG.1, G2.out.2.trans hG.2⟩
        have T5 := Lib.hid (hT.lower G2.out.2.size)
        have D5 := Lib.hid hD
        clear hD hG hT
        go_wp2_with fail
        cases hq : isF c.E [59] (c.R j5)
        · refine (ended_no c j5 _ _ G6.out.1 hq).mono ?_; rintro e w7 ⟨rfl, hB⟩
          have HO := Lib.hid (G6.out.2.below hB)
          have Q7 := Lib.hid hq
          clear hB hq
          unfold sflt
          go_wp2_with fail
          exact bodyPost_panic rfl (post_err (show D c.E .statement (c.R k) (.error (c.T j5).pos) from D.mk1 D5.out fun m h0 => by simp only [body, Bool.false_eq_true, if_false, if_true, bnd, need, bad, R_hd, Q1_1_0.out, Q1_1_1.out, Q7.out, h0]) rfl HO.out)
        · refine (ended_yes c j5 _ _ G6.out.1 hq).mono ?_; rintro e w7 ⟨rfl, hG⟩
          have G8 : Hid (Go1 c w w7 (j5 + 1)) := ⟨hG.1, G6.out.2.trans hG.2⟩
          have T9 := Lib.hid (T5.out.off hG.2 hbl)
          have Q7 := Lib.hid hq
          clear hG hq
          go_wp2_with fail
          go_ret
          exact post_ok (show D c.E .statement (c.R k) (.ok (t5, c.R (j5 + 1))) from D.mk1 D5.out fun m h0 => by simp only [body, Bool.false_eq_true, if_false, if_true, bnd, need, R_tail, ret, Q1_1_0.out, Q1_1_1.out, Q7.out, h0]) (by omega) rfl G8.out.1 G8.out.2 T9.out
    · skip
      by_cases x1_2 : fx (c.T k) = [59]
      · have n1_0 : ((bs (fx (c.T k))).toList == [123]) = false := gl_false (by rw [bs_list, x1_2]; decide)
        have Q1_2_0 : Hid (isF c.E [123] (c.R k) = false) := by show _ = _; rw [isF_T, x1_2]; rfl
        have n1_1 : ((bs (fx (c.T k))).toList == [118, 97, 114]) = false := gl_false (by rw [bs_list, x1_2]; decide)
        have Q1_2_1 : Hid (isF c.E [118, 97, 114] (c.R k) = false) := by show _ = _; rw [isF_T, x1_2]; rfl
        have n1_2 : ((bs (fx (c.T k))).toList == [59]) = true := gl_true (by rw [bs_list, x1_2])
        have Q1_2_2 : Hid (isF c.E [59] (c.R k) = true) := by show _ = _; rw [isF_T, x1_2]; rfl
        have hlt : k < c.ts.length := fx_in G2.out.1.le (by rw [x1_2]; decide)
        clear x1_0 x1_1 x1_2
        go_wp2_with fail
        refine (newNode_any _ _ _ _ _ _).mono ?_; rintro e w10 hm
        obtain ⟨a10, rfl, hT, hB⟩ := node_none (k := 5) (x := []) G2.out.2.size hm
        have G11 : Hid (Go1 c w w10 k) := ⟨G2.out.1.below hB, G2.out.2.below hB⟩
        have T10 := Lib.hid hT
        clear hT hB hm
        go_wp2_with fail
        refine (ended_yes c k _ _ G11.out.1 Q1_2_2.out).mono ?_; rintro e w12 ⟨rfl, hG⟩
        have G13 : Hid (Go1 c w w12 (k + 1)) := ⟨hG.1, G11.out.2.trans hG.2⟩
        have T14 := Lib.hid (T10.out.off hG.2 hbl)
        clear hG
        go_wp2_with fail
        go_ret
        exact post_ok (show D c.E .statement (c.R k) (.ok ((nd 5 [] []), c.R (k + 1))) from D.mk0 fun m => by simp only [body, Bool.false_eq_true, if_false, if_true, need, R_tail, ret, Q1_2_0.out, Q1_2_1.out, Q1_2_2.out]) (by omega) rfl G13.out.1 G13.out.2 T14.out
      · skip
        by_cases x1_3 : fx (c.T k) = [105, 102]
        · have n1_0 : ((bs (fx (c.T k))).toList == [123]) = false := gl_false (by rw [bs_list, x1_3]; decide)
          have Q1_3_0 : Hid (isF c.E [123] (c.R k) = false) := by show _ = _; rw [isF_T, x1_3]; rfl
          have n1_1 : ((bs (fx (c.T k))).toList == [118, 97, 114]) = false := gl_false (by rw [bs_list, x1_3]; decide)
          have Q1_3_1 : Hid (isF c.E [118, 97, 114] (c.R k) = false) := by show _ = _; rw [isF_T, x1_3]; rfl
          have n1_2 : ((bs (fx (c.T k))).toList == [59]) = false := gl_false (by rw [bs_list, x1_3]; decide)
          have Q1_3_2 : Hid (isF c.E [59] (c.R k) = false) := by show _ = _; rw [isF_T, x1_3]; rfl
          have n1_3 : ((bs (fx (c.T k))).toList == [105, 102]) = true := gl_true (by rw [bs_list, x1_3])
          have Q1_3_3 : Hid (isF c.E [105, 102] (c.R k) = true) := by show _ = _; rw [isF_T, x1_3]; rfl
          have hlt : k < c.ts.length := fx_in G2.out.1.le (by rw [x1_3]; decide)
          clear x1_0 x1_1 x1_2 x1_3
          go_wp2_with fail
          refine (IHI.out _ G2.out.1).mono ?_; rintro e w15 ⟨r, hD, hr⟩
          rcases r with p | ⟨t15, R1⟩
          · obtain ⟨rfl, hO⟩ := hr
            have HO := Lib.hid (G2.out.2.trans hO)
            have D15 := Lib.hid hD
            clear hD hO
            unfold sflt
            go_wp2_with fail
            exact bodyPost_panic rfl (post_err (show D c.E .statement (c.R k) (.error p) from D.mk1 D15.out fun m h0 => by simp only [body, Bool.false_eq_true, if_false, if_true, Q1_3_0.out, Q1_3_1.out, Q1_3_2.out, Q1_3_3.out, h0]) rfl HO.out)
          · obtain ⟨j15, v15, rfl, hj15, rfl, hG, hT⟩ := hr
            have G16 : Hid (Go1 c w w15 j15) := ⟨hG.1, G2.out.2.trans hG.2⟩
            have T15 := Lib.hid (hT.lower G2.out.2.size)
            have D15 := Lib.hid hD
            clear hD hG hT
            go_wp2_with fail
            go_ret
            exact post_ok (show D c.E .statement (c.R k) (.ok (t15, c.R j15)) from D.mk1 D15.out fun m h0 => by simp only [body, Bool.false_eq_true, if_false, if_true, Q1_3_0.out, Q1_3_1.out, Q1_3_2.out, Q1_3_3.out, h0]) (by omega) rfl G16.out.1 G16.out.2 T15.out
        · skip
          by_cases x1_4 : fx (c.T k) = [119, 104, 105, 108, 101]
          · have n1_0 : ((bs (fx (c.T k))).toList == [123]) = false := gl_false (by rw [bs_list, x1_4]; decide)
            have Q1_4_0 : Hid (isF c.E [123] (c.R k) = false) := by show _ = _; rw [isF_T, x1_4]; rfl
            have n1_1 : ((bs (fx (c.T k))).toList == [118, 97, 114]) = false := gl_false (by rw [bs_list, x1_4]; decide)
            have Q1_4_1 : Hid (isF c.E [118, 97, 114] (c.R k) = false) := by show _ = _; rw [isF_T, x1_4]; rfl
            have n1_2 : ((bs (fx (c.T k))).toList == [59]) = false := gl_false (by rw [bs_list, x1_4]; decide)
            have Q1_4_2 : Hid (isF c.E [59] (c.R k) = false) := by show _ = _; rw [isF_T, x1_4]; rfl
            have n1_3 : ((bs (fx (c.T k))).toList == [105, 102]) = false := gl_false (by rw [bs_list, x1_4]; decide)
            have Q1_4_3 : Hid (isF c.E [105, 102] (c.R k) = false) := by show _ = _; rw [isF_T, x1_4]; rfl
            have n1_4 : ((bs (fx (c.T k))).toList == [119, 104, 105, 108, 101]) = true := gl_true (by rw [bs_list, x1_4])
            have Q1_4_4 : Hid (isF c.E [119, 104, 105, 108, 101] (c.R k) = true) := by show _ = _; rw [isF_T, x1_4]; rfl
            have hlt : k < c.ts.length := fx_in G2.out.1.le (by rw [x1_4]; decide)
            clear x1_0 x1_1 x1_2 x1_3 x1_4
            go_wp2_with fail
            refine (IHW.out _ G2.out.1).mono ?_; rintro e w17 ⟨r, hD, hr⟩
            rcases r with p | ⟨t17, R1⟩
            · obtain ⟨rfl, hO⟩ := hr
              have HO := Lib.hid (G2.out.2.trans hO)
              have D17 := Lib.hid hD
              clear hD hO
              unfold sflt
              go_wp2_with fail
              exact bodyPost_panic rfl (post_err (show D c.E .statement (c.R k) (.error p) from D.mk1 D17.out fun m h0 => by simp only [body, Bool.false_eq_true, if_false, if_true, Q1_4_0.out, Q1_4_1.out, Q1_4_2.out, Q1_4_3.out, Q1_4_4.out, h0]) rfl HO.out)
            · obtain ⟨j17, v17, rfl, hj17, rfl, hG, hT⟩ := hr
              have G18 : Hid (Go1 c w w17 j17) := ⟨hG.1, G2.out.2.trans hG.2⟩
              have T17 := Lib.hid (hT.lower G2.out.2.size)
              have D17 := Lib.hid hD
              clear hD hG hT
              go_wp2_with fail
              go_ret
              exact post_ok (show D c.E .statement (c.R k) (.ok (t17, c.R j17)) from D.mk1 D17.out fun m h0 => by simp only [body, Bool.false_eq_true, if_false, if_true, Q1_4_0.out, Q1_4_1.out, Q1_4_2.out, Q1_4_3.out, Q1_4_4.out, h0]) (by omega) rfl G18.out.1 G18.out.2 T17.out
          · skip
            by_cases x1_5 : fx (c.T k) = [100, 111]
            · have n1_0 : ((bs (fx (c.T k))).toList == [123]) = false := gl_false (by rw [bs_list, x1_5]; decide)
              have Q1_5_0 : Hid (isF c.E [123] (c.R k) = false) := by show _ = _; rw [isF_T, x1_5]; rfl
              have n1_1 : ((bs (fx (c.T k))).toList == [118, 97, 114]) = false := gl_false (by rw [bs_list, x1_5]; decide)
              have Q1_5_1 : Hid (isF c.E [118, 97, 114] (c.R k) = false) := by show _ = _; rw [isF_T, x1_5]; rfl
              have n1_2 : ((bs (fx (c.T k))).toList == [59]) = false := gl_false (by rw [bs_list, x1_5]; decide)
              have Q1_5_2 : Hid (isF c.E [59] (c.R k) = false) := by show _ = _; rw [isF_T, x1_5]; rfl
              have n1_3 : ((bs (fx (c.T k))).toList == [105, 102]) = false := gl_false (by rw [bs_list, x1_5]; decide)
              have Q1_5_3 : Hid (isF c.E [105, 102] (c.R k) = false) := by show _ = _; rw [isF_T, x1_5]; rfl
              have n1_4 : ((bs (fx (c.T k))).toList == [119, 104, 105, 108, 101]) = false := gl_false (by rw [bs_list, x1_5]; decide)
              have Q1_5_4 : Hid (isF c.E [119, 104, 105, 108, 101] (c.R k) = false) := by show _ = _; rw [isF_T, x1_5]; rfl
              have n1_5 : ((bs (fx (c.T k))).toList == [100, 111]) = true := gl_true (by rw [bs_list, x1_5])
              have Q1_5_5 : Hid (isF c.E [100, 111] (c.R k) = true) := by show _ = _; rw [isF_T, x1_5]; rfl
              have hlt : k < c.ts.length := fx_in G2.out.1.le (by rw [x1_5]; decide)
              clear x1_0 x1_1 x1_2 x1_3 x1_4 x1_5
              go_wp2_with fail
              refine (IHD.out _ G2.out.1).mono ?_; rintro e w19 ⟨r, hD, hr⟩
              rcases r with p | ⟨t19, R1⟩
              · obtain ⟨rfl, hO⟩ := hr
                have HO := Lib.hid (G2.out.2.trans hO)
                have D19 := Lib.hid hD
                clear hD hO
                unfold sflt
                go_wp2_with fail
                exact bodyPost_panic rfl (post_err (show D c.E .statement (c.R k) (.error p) from D.mk1 D19.out fun m h0 => by simp only [body, Bool.false_eq_true, if_false, if_true, Q1_5_0.out, Q1_5_1.out, Q1_5_2.out, Q1_5_3.out, Q1_5_4.out, Q1_5_5.out, h0]) rfl HO.out)
              · obtain ⟨j19, v19, rfl, hj19, rfl, hG, hT⟩ := hr
                have G20 : Hid (Go1 c w w19 j19) := ⟨hG.1, G2.out.2.trans hG.2⟩
                have T19 := Lib.hid (hT.lower G2.out.2.size)
                have D19 := Lib.hid hD
                clear hD hG hT
                go_wp2_with fail
                go_ret
                exact post_ok (show D c.E .statement (c.R k) (.ok (t19, c.R j19)) from D.mk1 D19.out fun m h0 => by simp only [body, Bool.false_eq_true, if_false, if_true, Q1_5_0.out, Q1_5_1.out, Q1_5_2.out, Q1_5_3.out, Q1_5_4.out, Q1_5_5.out, h0]) (by omega) rfl G20.out.1 G20.out.2 T19.out
            · skip
              by_cases x1_6 : fx (c.T k) = [102, 111, 114]
              · have n1_0 : ((bs (fx (c.T k))).toList == [123]) = false := gl_false (by rw [bs_list, x1_6]; decide)
                have Q1_6_0 : Hid (isF c.E [123] (c.R k) = false) := by show _ = _; rw [isF_T, x1_6]; rfl
                have n1_1 : ((bs (fx (c.T k))).toList == [118, 97, 114]) = false := gl_false (by rw [bs_list, x1_6]; decide)
                have Q1_6_1 : Hid (isF c.E [118, 97, 114] (c.R k) = false) := by show _ = _; rw [isF_T, x1_6]; rfl
                have n1_2 : ((bs (fx (c.T k))).toList == [59]) = false := gl_false (by rw [bs_list, x1_6]; decide)
                have Q1_6_2 : Hid (isF c.E [59] (c.R k) = false) := by show _ = _; rw [isF_T, x1_6]; rfl
                have n1_3 : ((bs (fx (c.T k))).toList == [105, 102]) = false := gl_false (by rw [bs_list, x1_6]; decide)
                have Q1_6_3 : Hid (isF c.E [105, 102] (c.R k) = false) := by show _ = _; rw [isF_T, x1_6]; rfl
                have n1_4 : ((bs (fx (c.T k))).toList == [119, 104, 105, 108, 101]) = false := gl_false (by rw [bs_list, x1_6]; decide)
                have Q1_6_4 : Hid (isF c.E [119, 104, 105, 108, 101] (c.R k) = false) := by show _ = _; rw [isF_T, x1_6]; rfl
                have n1_5 : ((bs (fx (c.T k))).toList == [100, 111]) = false := gl_false (by rw [bs_list, x1_6]; decide)
                have Q1_6_5 : Hid (isF c.E [100, 111] (c.R k) = false) := by show _ = _; rw [isF_T, x1_6]; rfl
                have n1_6 : ((bs (fx (c.T k))).toList == [102, 111, 114]) = true := gl_true (by rw [bs_list, x1_6])
                have Q1_6_6 : Hid (isF c.E [102, 111, 114] (c.R k) = true) := by show _ = _; rw [isF_T, x1_6]; rfl
                have hlt : k < c.ts.length := fx_in G2.out.1.le (by rw [x1_6]; decide)
                clear x1_0 x1_1 x1_2 x1_3 x1_4 x1_5 x1_6
                go_wp2_with fail
                refine (IHF.out _ G2.out.1).mono ?_; rintro e w21 ⟨r, hD, hr⟩
                rcases r with p | ⟨t21, R1⟩
                · obtain ⟨rfl, hO⟩ := hr
                  have HO := Lib.hid (G2.out.2.trans hO)
                  have D21 := Lib.hid hD
                  clear hD hO
                  unfold sflt
                  go_wp2_with fail
                  exact bodyPost_panic rfl (post_err (show D c.E .statement (c.R k) (.error p) from D.mk1 D21.out fun m h0 => by simp only [body, Bool.false_eq_true, if_false, if_true, Q1_6_0.out, Q1_6_1.out, Q1_6_2.out, Q1_6_3.out, Q1_6_4.out, Q1_6_5.out, Q1_6_6.out, h0]) rfl HO.out)
                · obtain ⟨j21, v21, rfl, hj21, rfl, hG, hT⟩ := hr
                  have G22 : Hid (Go1 c w w21 j21) := ⟨hG.1, G2.out.2.trans hG.2⟩
                  have T21 := Lib.hid (hT.lower G2.out.2.size)
                  have D21 := Lib.hid hD
                  clear hD hG hT
                  go_wp2_with fail
                  go_ret
                  exact post_ok (show D c.E .statement (c.R k) (.ok (t21, c.R j21)) from D.mk1 D21.out fun m h0 => by simp only [body, Bool.false_eq_true, if_false, if_true, Q1_6_0.out, Q1_6_1.out, Q1_6_2.out, Q1_6_3.out, Q1_6_4.out, Q1_6_5.out, Q1_6_6.out, h0]) (by omega) rfl G22.out.1 G22.out.2 T21.out
              · skip
                by_cases x1_7 : fx (c.T k) = [98, 114, 101, 97, 107]
                · have n1_0 : ((bs (fx (c.T k))).toList == [123]) = false := gl_false (by rw [bs_list, x1_7]; decide)
                  have Q1_7_0 : Hid (isF c.E [123] (c.R k) = false) := by show _ = _; rw [isF_T, x1_7]; rfl
                  have n1_1 : ((bs (fx (c.T k))).toList == [118, 97, 114]) = false := gl_false (by rw [bs_list, x1_7]; decide)
                  have Q1_7_1 : Hid (isF c.E [118, 97, 114] (c.R k) = false) := by show _ = _; rw [isF_T, x1_7]; rfl
                  have n1_2 : ((bs (fx (c.T k))).toList == [59]) = false := gl_false (by rw [bs_list, x1_7]; decide)
                  have Q1_7_2 : Hid (isF c.E [59] (c.R k) = false) := by show _ = _; rw [isF_T, x1_7]; rfl
                  have n1_3 : ((bs (fx (c.T k))).toList == [105, 102]) = false := gl_false (by rw [bs_list, x1_7]; decide)
                  have Q1_7_3 : Hid (isF c.E [105, 102] (c.R k) = false) := by show _ = _; rw [isF_T, x1_7]; rfl
                  have n1_4 : ((bs (fx (c.T k))).toList == [119, 104, 105, 108, 101]) = false := gl_false (by rw [bs_list, x1_7]; decide)
                  have Q1_7_4 : Hid (isF c.E [119, 104, 105, 108, 101] (c.R k) = false) := by show _ = _; rw [isF_T, x1_7]; rfl
                  have n1_5 : ((bs (fx (c.T k))).toList == [100, 111]) = false := gl_false (by rw [bs_list, x1_7]; decide)
                  have Q1_7_5 : Hid (isF c.E [100, 111] (c.R k) = false) := by show _ = _; rw [isF_T, x1_7]; rfl
                  have n1_6 : ((bs (fx (c.T k))).toList == [102, 111, 114]) = false := gl_false (by rw [bs_list, x1_7]; decide)
                  have Q1_7_6 : Hid (isF c.E [102, 111, 114] (c.R k) = false) := by show _ = _; rw [isF_T, x1_7]; rfl
                  have n1_7 : ((bs (fx (c.T k))).toList == [98, 114, 101, 97, 107]) = true := gl_true (by rw [bs_list, x1_7])
                  have Q1_7_7 : Hid (isF c.E [98, 114, 101, 97, 107] (c.R k) = true) := by show _ = _; rw [isF_T, x1_7]; rfl
                  have hlt : k < c.ts.length := fx_in G2.out.1.le (by rw [x1_7]; decide)
                  clear x1_0 x1_1 x1_2 x1_3 x1_4 x1_5 x1_6 x1_7
                  go_wp2_with fail
                  refine (leave_any c k 11 hlt _ G2.out.1).mono ?_; rintro e w23 ⟨r, hD, hr⟩
                  rcases r with p | ⟨t23, R1⟩
                  · obtain ⟨rfl, hO⟩ := hr
                    have HO := Lib.hid (G2.out.2.trans hO)
                    have D23 := Lib.hid hD
                    clear hD hO
                    unfold sflt
                    go_wp2_with fail
                    exact bodyPost_panic rfl (post_err (show D c.E .statement (c.R k) (.error p) from D.mk1 D23.out fun m h0 => by simp only [body, Bool.false_eq_true, if_false, if_true, Q1_7_0.out, Q1_7_1.out, Q1_7_2.out, Q1_7_3.out, Q1_7_4.out, Q1_7_5.out, Q1_7_6.out, Q1_7_7.out, h0]) rfl HO.out)
                  · obtain ⟨j23, v23, rfl, hj23, rfl, hG, hT⟩ := hr
                    have G24 : Hid (Go1 c w w23 j23) := ⟨hG.1, G2.out.2.trans hG.2⟩
                    have T23 := Lib.hid (hT.lower G2.out.2.size)
                    have D23 := Lib.hid hD
                    clear hD hG hT
                    go_wp2_with fail
                    go_ret
                    exact post_ok (show D c.E .statement (c.R k) (.ok (t23, c.R j23)) from D.mk1 D23.out fun m h0 => by simp only [body, Bool.false_eq_true, if_false, if_true, Q1_7_0.out, Q1_7_1.out, Q1_7_2.out, Q1_7_3.out, Q1_7_4.out, Q1_7_5.out, Q1_7_6.out, Q1_7_7.out, h0]) (by omega) rfl G24.out.1 G24.out.2 T23.out
                · skip
                  by_cases x1_8 : fx (c.T k) = [99, 111, 110, 116, 105, 110, 117, 101]
                  · have n1_0 : ((bs (fx (c.T k))).toList == [123]) = false := gl_false (by rw [bs_list, x1_8]; decide)
                    have Q1_8_0 : Hid (isF c.E [123] (c.R k) = false) := by show _ = _; rw [isF_T, x1_8]; rfl
                    have n1_1 : ((bs (fx (c.T k))).toList == [118, 97, 114]) = false := gl_false (by rw [bs_list, x1_8]; decide)
                    have Q1_8_1 : Hid (isF c.E [118, 97, 114] (c.R k) = false) := by show _ = _; rw [isF_T, x1_8]; rfl
                    have n1_2 : ((bs (fx (c.T k))).toList == [59]) = false := gl_false (by rw [bs_list, x1_8]; decide)
                    have Q1_8_2 : Hid (isF c.E [59] (c.R k) = false) := by show _ = _; rw [isF_T, x1_8]; rfl
                    have n1_3 : ((bs (fx (c.T k))).toList == [105, 102]) = false := gl_false (by rw [bs_list, x1_8]; decide)
                    have Q1_8_3 : Hid (isF c.E [105, 102] (c.R k) = false) := by show _ = _; rw [isF_T, x1_8]; rfl
                    have n1_4 : ((bs (fx (c.T k))).toList == [119, 104, 105, 108, 101]) = false := gl_false (by rw [bs_list, x1_8]; decide)
                    have Q1_8_4 : Hid (isF c.E [119, 104, 105, 108, 101] (c.R k) = false) := by show _ = _; rw [isF_T, x1_8]; rfl
                    have n1_5 : ((bs (fx (c.T k))).toList == [100, 111]) = false := gl_false (by rw [bs_list, x1_8]; decide)
                    have Q1_8_5 : Hid (isF c.E [100, 111] (c.R k) = false) := by show _ = _; rw [isF_T, x1_8]; rfl
                    have n1_6 : ((bs (fx (c.T k))).toList == [102, 111, 114]) = false := gl_false (by rw [bs_list, x1_8]; decide)
                    have Q1_8_6 : Hid (isF c.E [102, 111, 114] (c.R k) = false) := by show _ = _; rw [isF_T, x1_8]; rfl
                    have n1_7 : ((bs (fx (c.T k))).toList == [98, 114, 101, 97, 107]) = false := gl_false (by rw [bs_list, x1_8]; decide)
                    have Q1_8_7 : Hid (isF c.E [98, 114, 101, 97, 107] (c.R k) = false) := by show _ = _; rw [isF_T, x1_8]; rfl
                    have n1_8 : ((bs (fx (c.T k))).toList == [99, 111, 110, 116, 105, 110, 117, 101]) = true := gl_true (by rw [bs_list, x1_8])
                    have Q1_8_8 : Hid (isF c.E [99, 111, 110, 116, 105, 110, 117, 101] (c.R k) = true) := by show _ = _; rw [isF_T, x1_8]; rfl
                    have hlt : k < c.ts.length := fx_in G2.out.1.le (by rw [x1_8]; decide)
                    clear x1_0 x1_1 x1_2 x1_3 x1_4 x1_5 x1_6 x1_7 x1_8
                    go_wp2_with fail
                    refine (leave_any c k 12 hlt _ G2.out.1).mono ?_; rintro e w25 ⟨r, hD, hr⟩
                    rcases r with p | ⟨t25, R1⟩
                    · obtain ⟨rfl, hO⟩ := hr
                      have HO := Lib.hid (G2.out.2.trans hO)
                      have D25 := Lib.hid hD
                      clear hD hO
                      unfold sflt
                      go_wp2_with fail
                      exact bodyPost_panic rfl (post_err (show D c.E .statement (c.R k) (.error p) from D.mk1 D25.out fun m h0 => by simp only [body, Bool.false_eq_true, if_false, if_true, Q1_8_0.out, Q1_8_1.out, Q1_8_2.out, Q1_8_3.out, Q1_8_4.out, Q1_8_5.out, Q1_8_6.out, Q1_8_7.out, Q1_8_8.out, h0]) rfl HO.out)
                    · obtain ⟨j25, v25, rfl, hj25, rfl, hG, hT⟩ := hr
                      have G26 : Hid (Go1 c w w25 j25) := ⟨hG.1, G2.out.2.trans hG.2⟩
                      have T25 := Lib.hid (hT.lower G2.out.2.size)
                      have D25 := Lib.hid hD
                      clear hD hG hT
                      go_wp2_with fail
                      go_ret
                      exact post_ok (show D c.E .statement (c.R k) (.ok (t25, c.R j25)) from D.mk1 D25.out fun m h0 => by simp only [body, Bool.false_eq_true, if_false, if_true, Q1_8_0.out, Q1_8_1.out, Q1_8_2.out, Q1_8_3.out, Q1_8_4.out, Q1_8_5.out, Q1_8_6.out, Q1_8_7.out, Q1_8_8.out, h0]) (by omega) rfl G26.out.1 G26.out.2 T25.out
                  · skip
                    by_cases x1_9 : fx (c.T k) = [114, 101, 116, 117, 114, 110]
                    · have n1_0 : ((bs (fx (c.T k))).toList == [123]) = false := gl_false (by rw [bs_list, x1_9]; decide)
                      have Q1_9_0 : Hid (isF c.E [123] (c.R k) = false) := by show _ = _; rw [isF_T, x1_9]; rfl
                      have n1_1 : ((bs (fx (c.T k))).toList == [118, 97, 114]) = false := gl_false (by rw [bs_list, x1_9]; decide)
                      have Q1_9_1 : Hid (isF c.E [118, 97, 114] (c.R k) = false) := by show _ = _; rw [isF_T, x1_9]; rfl
                      have n1_2 : ((bs (fx (c.T k))).toList == [59]) = false := gl_false (by rw [bs_list, x1_9]; decide)
                      have Q1_9_2 : Hid (isF c.E [59] (c.R k) = false) := by show _ = _; rw [isF_T, x1_9]; rfl
                      have n1_3 : ((bs (fx (c.T k))).toList == [105, 102]) = false := gl_false (by rw [bs_list, x1_9]; decide)
                      have Q1_9_3 : Hid (isF c.E [105, 102] (c.R k) = false) := by show _ = _; rw [isF_T, x1_9]; rfl
                      have n1_4 : ((bs (fx (c.T k))).toList == [119, 104, 105, 108, 101]) = false := gl_false (by rw [bs_list, x1_9]; decide)
                      have Q1_9_4 : Hid (isF c.E [119, 104, 105, 108, 101] (c.R k) = false) := by show _ = _; rw [isF_T, x1_9]; rfl
                      have n1_5 : ((bs (fx (c.T k))).toList == [100, 111]) = false := gl_false (by rw [bs_list, x1_9]; decide)
                      have Q1_9_5 : Hid (isF c.E [100, 111] (c.R k) = false) := by show _ = _; rw [isF_T, x1_9]; rfl
                      have n1_6 : ((bs (fx (c.T k))).toList == [102, 111, 114]) = false := gl_false (by rw [bs_list, x1_9]; decide)
                      have Q1_9_6 : Hid (isF c.E [102, 111, 114] (c.R k) = false) := by show _ = _; rw [isF_T, x1_9]; rfl
                      have n1_7 : ((bs (fx (c.T k))).toList == [98, 114, 101, 97, 107]) = false := gl_false (by rw [bs_list, x1_9]; decide)
                      have Q1_9_7 : Hid (isF c.E [98, 114, 101, 97, 107] (c.R k) = false) := by show _ = _; rw [isF_T, x1_9]; rfl
                      have n1_8 : ((bs (fx (c.T k))).toList == [99, 111, 110, 116, 105, 110, 117, 101]) = false := gl_false (by rw [bs_list, x1_9]; decide)
                      have Q1_9_8 : Hid (isF c.E [99, 111, 110, 116, 105, 110, 117, 101] (c.R k) = false) := by show _ = _; rw [isF_T, x1_9]; rfl
                      have n1_9 : ((bs (fx (c.T k))).toList == [114, 101, 116, 117, 114, 110]) = true := gl_true (by rw [bs_list, x1_9])
                      have Q1_9_9 : Hid (isF c.E [114, 101, 116, 117, 114, 110] (c.R k) = true) := by show _ = _; rw [isF_T, x1_9]; rfl
                      have hlt : k < c.ts.length := fx_in G2.out.1.le (by rw [x1_9]; decide)
                      clear x1_0 x1_1 x1_2 x1_3 x1_4 x1_5 x1_6 x1_7 x1_8 x1_9
                      go_wp2_with fail
                      refine (IHR.out _ G2.out.1).mono ?_; rintro e w27 ⟨r, hD, hr⟩
                      rcases r with p | ⟨t27, R1⟩
                      · obtain ⟨rfl, hO⟩ := hr
                        have HO := Lib.hid (G2.out.2.trans hO)
                        have D27 := Lib.hid hD
                        clear hD hO
                        unfold sflt
                        go_wp2_with fail
                        exact bodyPost_panic rfl (post_err (show D c.E .statement (c.R k) (.error p) from D.mk1 D27.out fun m h0 => by simp only [body, Bool.false_eq_true, if_false, if_true, Q1_9_0.out, Q1_9_1.out, Q1_9_2.out, Q1_9_3.out, Q1_9_4.out, Q1_9_5.out, Q1_9_6.out, Q1_9_7.out, Q1_9_8.out, Q1_9_9.out, h0]) rfl HO.out)
                      · obtain ⟨j27, v27, rfl, hj27, rfl, hG, hT⟩ := hr
                        have G28 : Hid (Go1 c w w27 j27) := ⟨hG.1, G2.out.2.trans hG.2⟩
                        have T27 := Lib.hid (hT.lower G2.out.2.size)
                        have D27 := Lib.hid hD
                        clear hD hG hT
                        go_wp2_with fail
                        go_ret
                        exact post_ok (show D c.E .statement (c.R k) (.ok (t27, c.R j27)) from D.mk1 D27.out fun m h0 => by simp only [body, Bool.false_eq_true, if_false, if_true, Q1_9_0.out, Q1_9_1.out, Q1_9_2.out, Q1_9_3.out, Q1_9_4.out, Q1_9_5.out, Q1_9_6.out, Q1_9_7.out, Q1_9_8.out, Q1_9_9.out, h0]) (by omega) rfl G28.out.1 G28.out.2 T27.out
                    · skip
                      by_cases x1_10 : fx (c.T k) = [116, 104, 114, 111, 119]
                      · have n1_0 : ((bs (fx (c.T k))).toList == [123]) = false := gl_false (by rw [bs_list, x1_10]; decide)
                        have Q1_10_0 : Hid (isF c.E [123] (c.R k) = false) := by show _ = _; rw [isF_T, x1_10]; rfl
                        have n1_1 : ((bs (fx (c.T k))).toList == [118, 97, 114]) = false := gl_false (by rw [bs_list, x1_10]; decide)
                        have Q1_10_1 : Hid (isF c.E [118, 97, 114] (c.R k) = false) := by show _ = _; rw [isF_T, x1_10]; rfl
                        have n1_2 : ((bs (fx (c.T k))).toList == [59]) = false := gl_false (by rw [bs_list, x1_10]; decide)
                        have Q1_10_2 : Hid (isF c.E [59] (c.R k) = false) := by show _ = _; rw [isF_T, x1_10]; rfl
                        have n1_3 : ((bs (fx (c.T k))).toList == [105, 102]) = false := gl_false (by rw [bs_list, x1_10]; decide)
                        have Q1_10_3 : Hid (isF c.E [105, 102] (c.R k) = false) := by show _ = _; rw [isF_T, x1_10]; rfl
                        have n1_4 : ((bs (fx (c.T k))).toList == [119, 104, 105, 108, 101]) = false := gl_false (by rw [bs_list, x1_10]; decide)
                        have Q1_10_4 : Hid (isF c.E [119, 104, 105, 108, 101] (c.R k) = false) := by show _ = _; rw [isF_T, x1_10]; rfl
                        have n1_5 : ((bs (fx (c.T k))).toList == [100, 111]) = false := gl_false (by rw [bs_list, x1_10]; decide)
                        have Q1_10_5 : Hid (isF c.E [100, 111] (c.R k) = false) := by show _ = _; rw [isF_T, x1_10]; rfl
                        have n1_6 : ((bs (fx (c.T k))).toList == [102, 111, 114]) = false := gl_false (by rw [bs_list, x1_10]; decide)
                        have Q1_10_6 : Hid (isF c.E [102, 111, 114] (c.R k) = false) := by show _ = _; rw [isF_T, x1_10]; rfl
                        have n1_7 : ((bs (fx (c.T k))).toList == [98, 114, 101, 97, 107]) = false := gl_false (by rw [bs_list, x1_10]; decide)
                        have Q1_10_7 : Hid (isF c.E [98, 114, 101, 97, 107] (c.R k) = false) := by show _ = _; rw [isF_T, x1_10]; rfl
                        have n1_8 : ((bs (fx (c.T k))).toList == [99, 111, 110, 116, 105, 110, 117, 101]) = false := gl_false (by rw [bs_list, x1_10]; decide)
                        have Q1_10_8 : Hid (isF c.E [99, 111, 110, 116, 105, 110, 117, 101] (c.R k) = false) := by show _ = _; rw [isF_T, x1_10]; rfl
                        have n1_9 : ((bs (fx (c.T k))).toList == [114, 101, 116, 117, 114, 110]) = false := gl_false (by rw [bs_list, x1_10]; decide)
                        have Q1_10_9 : Hid (isF c.E [114, 101, 116, 117, 114, 110] (c.R k) = false) := by show _ = _; rw [isF_T, x1_10]; rfl
                        have n1_10 : ((bs (fx (c.T k))).toList == [116, 104, 114, 111, 119]) = true := gl_true (by rw [bs_list, x1_10])
                        have Q1_10_10 : Hid (isF c.E [116, 104, 114, 111, 119] (c.R k) = true) := by show _ = _; rw [isF_T, x1_10]; rfl
                        have hlt : k < c.ts.length := fx_in G2.out.1.le (by rw [x1_10]; decide)
                        clear x1_0 x1_1 x1_2 x1_3 x1_4 x1_5 x1_6 x1_7 x1_8 x1_9 x1_10
                        go_wp2_with fail
                        refine (IHT.out _ G2.out.1).mono ?_; rintro e w29 ⟨r, hD, hr⟩
                        rcases r with p | ⟨t29, R1⟩
                        · obtain ⟨rfl, hO⟩ := hr
                          have HO := Lib.hid (G2.out.2.trans hO)
                          have D29 := Lib.hid hD
                          clear hD hO
                          unfold sflt
                          go_wp2_with fail
                          exact bodyPost_panic rfl (post_err (show D c.E .statement (c.R k) (.error p) from D.mk1 D29.out fun m h0 => by simp only [body, Bool.false_eq_true, if_false, if_true, Q1_10_0.out, Q1_10_1.out, Q1_10_2.out, Q1_10_3.out, Q1_10_4.out, Q1_10_5.out, Q1_10_6.out, Q1_10_7.out, Q1_10_8.out, Q1_10_9.out, Q1_10_10.out, h0]) rfl HO.out)
                        · obtain ⟨j29, v29, rfl, hj29, rfl, hG, hT⟩ := hr
                          have G30 : Hid (Go1 c w w29 j29) := ⟨hG.1, G2.out.2.trans hG.2⟩
                          have T29 := Lib.hid (hT.lower G2.out.2.size)
                          have D29 := Lib.hid hD
                          clear hD hG hT
                          go_wp2_with fail
                          go_ret
                          exact post_ok (show D c.E .statement (c.R k) (.ok (t29, c.R j29)) from D.mk1 D29.out fun m h0 => by simp only [body, Bool.false_eq_true, if_false, if_true, Q1_10_0.out, Q1_10_1.out, Q1_10_2.out, Q1_10_3.out, Q1_10_4.out, Q1_10_5.out, Q1_10_6.out, Q1_10_7.out, Q1_10_8.out, Q1_10_9.out, Q1_10_10.out, h0]) (by omega) rfl G30.out.1 G30.out.2 T29.out
                      · skip
                        by_cases x1_11 : fx (c.T k) = [116, 114, 121]
                        · have n1_0 : ((bs (fx (c.T k))).toList == [123]) = false := gl_false (by rw [bs_list, x1_11]; decide)
                          have Q1_11_0 : Hid (isF c.E [123] (c.R k) = false) := by show _ = _; rw [isF_T, x1_11]; rfl
                          have n1_1 : ((bs (fx (c.T k))).toList == [118, 97, 114]) = false := gl_false (by rw [bs_list, x1_11]; decide)
                          have Q1_11_1 : Hid (isF c.E [118, 97, 114] (c.R k) = false) := by show _ = _; rw [isF_T, x1_11]; rfl
                          have n1_2 : ((bs (fx (c.T k))).toList == [59]) = false := gl_false (by rw [bs_list, x1_11]; decide)
                          have Q1_11_2 : Hid (isF c.E [59] (c.R k) = false) := by show _ = _; rw [isF_T, x1_11]; rfl
                          have n1_3 : ((bs (fx (c.T k))).toList == [105, 102]) = false := gl_false (by rw [bs_list, x1_11]; decide)
                          have Q1_11_3 : Hid (isF c.E [105, 102] (c.R k) = false) := by show _ = _; rw [isF_T, x1_11]; rfl
                          have n1_4 : ((bs (fx (c.T k))).toList == [119, 104, 105, 108, 101]) = false := gl_false (by rw [bs_list, x1_11]; decide)
                          have Q1_11_4 : Hid (isF c.E [119, 104, 105, 108, 101] (c.R k) = false) := by show _ = _; rw [isF_T, x1_11]; rfl
                          have n1_5 : ((bs (fx (c.T k))).toList == [100, 111]) = false := gl_false (by rw [bs_list, x1_11]; decide)
                          have Q1_11_5 : Hid (isF c.E [100, 111] (c.R k) = false) := by show _ = _; rw [isF_T, x1_11]; rfl
                          have n1_6 : ((bs (fx (c.T k))).toList == [102, 111, 114]) = false := gl_false (by rw [bs_list, x1_11]; decide)
                          have Q1_11_6 : Hid (isF c.E [102, 111, 114] (c.R k) = false) := by show _ = _; rw [isF_T, x1_11]; rfl
                          have n1_7 : ((bs (fx (c.T k))).toList == [98, 114, 101, 97, 107]) = false := gl_false (by rw [bs_list, x1_11]; decide)
                          have Q1_11_7 : Hid (isF c.E [98, 114, 101, 97, 107] (c.R k) = false) := by show _ = _; rw [isF_T, x1_11]; rfl
                          have n1_8 : ((bs (fx (c.T k))).toList == [99, 111, 110, 116, 105, 110, 117, 101]) = false := gl_false (by rw [bs_list, x1_11]; decide)
                          have Q1_11_8 : Hid (isF c.E [99, 111, 110, 116, 105, 110, 117, 101] (c.R k) = false) := by show _ = _; rw [isF_T, x1_11]; rfl
                          have n1_9 : ((bs (fx (c.T k))).toList == [114, 101, 116, 117, 114, 110]) = false := gl_false (by rw [bs_list, x1_11]; decide)
                          have Q1_11_9 : Hid (isF c.E [114, 101, 116, 117, 114, 110] (c.R k) = false) := by show _ = _; rw [isF_T, x1_11]; rfl
                          have n1_10 : ((bs (fx (c.T k))).toList == [116, 104, 114, 111, 119]) = false := gl_false (by rw [bs_list, x1_11]; decide)
                          have Q1_11_10 : Hid (isF c.E [116, 104, 114, 111, 119] (c.R k) = false) := by show _ = _; rw [isF_T, x1_11]; rfl
                          have n1_11 : ((bs (fx (c.T k))).toList == [116, 114, 121]) = true := gl_true (by rw [bs_list, x1_11])
                          have Q1_11_11 : Hid (isF c.E [116, 114, 121] (c.R k) = true) := by show _ = _; rw [isF_T, x1_11]; rfl
                          have hlt : k < c.ts.length := fx_in G2.out.1.le (by rw [x1_11]; decide)
                          clear x1_0 x1_1 x1_2 x1_3 x1_4 x1_5 x1_6 x1_7 x1_8 x1_9 x1_10 x1_11
                          go_wp2_with fail
                          refine (IHY.out _ G2.out.1).mono ?_; rintro e w31 ⟨r, hD, hr⟩
                          rcases r with p | ⟨t31, R1⟩
                          · obtain ⟨rfl, hO⟩ := hr
                            have HO := Lib.hid (G2.out.2.trans hO)
                            have D31 := Lib.hid hD
                            clear hD hO
                            unfold sflt
                            go_wp2_with fail
                            exact bodyPost_panic rfl (post_err (show D c.E .statement (c.R k) (.error p) from D.mk1 D31.out fun m h0 => by simp only [body, Bool.false_eq_true, if_false, if_true, Q1_11_0.out, Q1_11_1.out, Q1_11_2.out, Q1_11_3.out, Q1_11_4.out, Q1_11_5.out, Q1_11_6.out, Q1_11_7.out, Q1_11_8.out, Q1_11_9.out, Q1_11_10.out, Q1_11_11.out, h0]) rfl HO.out)
                          · obtain ⟨j31, v31, rfl, hj31, rfl, hG, hT⟩ := hr
                            have G32 : Hid (Go1 c w w31 j31) := ⟨hG.1, G2.out.2.trans hG.2⟩
                            have T31 := Lib.hid (hT.lower G2.out.2.size)
                            have D31 := Lib.hid hD
                            clear hD hG hT
                            go_wp2_with fail
                            go_ret
                            exact post_ok (show D c.E .statement (c.R k) (.ok (t31, c.R j31)) from D.mk1 D31.out fun m h0 => by simp only [body, Bool.false_eq_true, if_false, if_true, Q1_11_0.out, Q1_11_1.out, Q1_11_2.out, Q1_11_3.out, Q1_11_4.out, Q1_11_5.out, Q1_11_6.out, Q1_11_7.out, Q1_11_8.out, Q1_11_9.out, Q1_11_10.out, Q1_11_11.out, h0]) (by omega) rfl G32.out.1 G32.out.2 T31.out
                        · skip
                          by_cases x1_12 : fx (c.T k) = [102, 117, 110, 99, 116, 105, 111, 110]
                          · have n1_0 : ((bs (fx (c.T k))).toList == [123]) = false := gl_false (by rw [bs_list, x1_12]; decide)
                            have Q1_12_0 : Hid (isF c.E [123] (c.R k) = false) := by show _ = _; rw [isF_T, x1_12]; rfl
                            have n1_1 : ((bs (fx (c.T k))).toList == [118, 97, 114]) = false := gl_false (by rw [bs_list, x1_12]; decide)
                            have Q1_12_1 : Hid (isF c.E [118, 97, 114] (c.R k) = false) := by show _ = _; rw [isF_T, x1_12]; rfl
                            have n1_2 : ((bs (fx (c.T k))).toList == [59]) = false := gl_false (by rw [bs_list, x1_12]; decide)
                            have Q1_12_2 : Hid (isF c.E [59] (c.R k) = false) := by show _ = _; rw [isF_T, x1_12]; rfl
                            have n1_3 : ((bs (fx (c.T k))).toList == [105, 102]) = false := gl_false (by rw [bs_list, x1_12]; decide)
                            have Q1_12_3 : Hid (isF c.E [105, 102] (c.R k) = false) := by show _ = _; rw [isF_T, x1_12]; rfl
                            have n1_4 : ((bs (fx (c.T k))).toList == [119, 104, 105, 108, 101]) = false := gl_false (by rw [bs_list, x1_12]; decide)
                            have Q1_12_4 : Hid (isF c.E [119, 104, 105, 108, 101] (c.R k) = false) := by show _ = _; rw [isF_T, x1_12]; rfl
                            have n1_5 : ((bs (fx (c.T k))).toList == [100, 111]) = false := gl_false (by rw [bs_list, x1_12]; decide)
                            have Q1_12_5 : Hid (isF c.E [100, 111] (c.R k) = false) := by show _ = _; rw [isF_T, x1_12]; rfl
                            have n1_6 : ((bs (fx (c.T k))).toList == [102, 111, 114]) = false := gl_false (by rw [bs_list, x1_12]; decide)
                            have Q1_12_6 : Hid (isF c.E [102, 111, 114] (c.R k) = false) := by show _ = _; rw [isF_T, x1_12]; rfl
                            have n1_7 : ((bs (fx (c.T k))).toList == [98, 114, 101, 97, 107]) = false := gl_false (by rw [bs_list, x1_12]; decide)
                            have Q1_12_7 : Hid (isF c.E [98, 114, 101, 97, 107] (c.R k) = false) := by show _ = _; rw [isF_T, x1_12]; rfl
                            have n1_8 : ((bs (fx (c.T k))).toList == [99, 111, 110, 116, 105, 110, 117, 101]) = false := gl_false (by rw [bs_list, x1_12]; decide)
                            have Q1_12_8 : Hid (isF c.E [99, 111, 110, 116, 105, 110, 117, 101] (c.R k) = false) := by show _ = _; rw [isF_T, x1_12]; rfl
                            have n1_9 : ((bs (fx (c.T k))).toList == [114, 101, 116, 117, 114, 110]) = false := gl_false (by rw [bs_list, x1_12]; decide)
                            have Q1_12_9 : Hid (isF c.E [114, 101, 116, 117, 114, 110] (c.R k) = false) := by show _ = _; rw [isF_T, x1_12]; rfl
                            have n1_10 : ((bs (fx (c.T k))).toList == [116, 104, 114, 111, 119]) = false := gl_false (by rw [bs_list, x1_12]; decide)
                            have Q1_12_10 : Hid (isF c.E [116, 104, 114, 111, 119] (c.R k) = false) := by show _ = _; rw [isF_T, x1_12]; rfl
                            have n1_11 : ((bs (fx (c.T k))).toList == [116, 114, 121]) = false := gl_false (by rw [bs_list, x1_12]; decide)
                            have Q1_12_11 : Hid (isF c.E [116, 114, 121] (c.R k) = false) := by show _ = _; rw [isF_T, x1_12]; rfl
                            have n1_12 : ((bs (fx (c.T k))).toList == [102, 117, 110, 99, 116, 105, 111, 110]) = true := gl_true (by rw [bs_list, x1_12])
                            have Q1_12_12 : Hid (isF c.E [102, 117, 110, 99, 116, 105, 111, 110] (c.R k) = true) := by show _ = _; rw [isF_T, x1_12]; rfl
                            have hlt : k < c.ts.length := fx_in G2.out.1.le (by rw [x1_12]; decide)
                            clear x1_0 x1_1 x1_2 x1_3 x1_4 x1_5 x1_6 x1_7 x1_8 x1_9 x1_10 x1_11 x1_12
                            go_wp2_with fail
                            refine (sgiveUp_any c k _ G2.out.1).mono ?_; rintro e w33 ⟨rfl, hB⟩
                            have HO := Lib.hid (G2.out.2.below hB)
                            clear hB
                            unfold sflt
                            go_wp2_with fail
                            exact bodyPost_panic rfl (post_err (show D c.E .statement (c.R k) (.error (c.T k).pos) from D.mk0 fun m => by simp only [body, Bool.false_eq_true, if_false, if_true, bad, R_hd, Q1_12_0.out, Q1_12_1.out, Q1_12_2.out, Q1_12_3.out, Q1_12_4.out, Q1_12_5.out, Q1_12_6.out, Q1_12_7.out, Q1_12_8.out, Q1_12_9.out, Q1_12_10.out, Q1_12_11.out, Q1_12_12.out]) rfl HO.out)
                          · have n1_0 : ((bs (fx (c.T k))).toList == [123]) = false := gl_false (by rw [bs_list]; exact x1_0)
                            have Q1_d_0 : Hid (isF c.E [123] (c.R k) = false) := by show _ = _; rw [isF_T, beq_eq_false_iff_ne]; exact x1_0
                            have n1_1 : ((bs (fx (c.T k))).toList == [118, 97, 114]) = false := gl_false (by rw [bs_list]; exact x1_1)
                            have Q1_d_1 : Hid (isF c.E [118, 97, 114] (c.R k) = false) := by show _ = _; rw [isF_T, beq_eq_false_iff_ne]; exact x1_1
                            have n1_2 : ((bs (fx (c.T k))).toList == [59]) = false := gl_false (by rw [bs_list]; exact x1_2)
                            have Q1_d_2 : Hid (isF c.E [59] (c.R k) = false) := by show _ = _; rw [isF_T, beq_eq_false_iff_ne]; exact x1_2
                            have n1_3 : ((bs (fx (c.T k))).toList == [105, 102]) = false := gl_false (by rw [bs_list]; exact x1_3)
                            have Q1_d_3 : Hid (isF c.E [105, 102] (c.R k) = false) := by show _ = _; rw [isF_T, beq_eq_false_iff_ne]; exact x1_3
                            have n1_4 : ((bs (fx (c.T k))).toList == [119, 104, 105, 108, 101]) = false := gl_false (by rw [bs_list]; exact x1_4)
                            have Q1_d_4 : Hid (isF c.E [119, 104, 105, 108, 101] (c.R k) = false) := by show _ = _; rw [isF_T, beq_eq_false_iff_ne]; exact x1_4
                            have n1_5 : ((bs (fx (c.T k))).toList == [100, 111]) = false := gl_false (by rw [bs_list]; exact x1_5)
                            have Q1_d_5 : Hid (isF c.E [100, 111] (c.R k) = false) := by show _ = _; rw [isF_T, beq_eq_false_iff_ne]; exact x1_5
                            have n1_6 : ((bs (fx (c.T k))).toList == [102, 111, 114]) = false := gl_false (by rw [bs_list]; exact x1_6)
                            have Q1_d_6 : Hid (isF c.E [102, 111, 114] (c.R k) = false) := by show _ = _; rw [isF_T, beq_eq_false_iff_ne]; exact x1_6
                            have n1_7 : ((bs (fx (c.T k))).toList == [98, 114, 101, 97, 107]) = false := gl_false (by rw [bs_list]; exact x1_7)
                            have Q1_d_7 : Hid (isF c.E [98, 114, 101, 97, 107] (c.R k) = false) := by show _ = _; rw [isF_T, beq_eq_false_iff_ne]; exact x1_7
                            have n1_8 : ((bs (fx (c.T k))).toList == [99, 111, 110, 116, 105, 110, 117, 101]) = false := gl_false (by rw [bs_list]; exact x1_8)
                            have Q1_d_8 : Hid (isF c.E [99, 111, 110, 116, 105, 110, 117, 101] (c.R k) = false) := by show _ = _; rw [isF_T, beq_eq_false_iff_ne]; exact x1_8
                            have n1_9 : ((bs (fx (c.T k))).toList == [114, 101, 116, 117, 114, 110]) = false := gl_false (by rw [bs_list]; exact x1_9)
                            have Q1_d_9 : Hid (isF c.E [114, 101, 116, 117, 114, 110] (c.R k) = false) := by show _ = _; rw [isF_T, beq_eq_false_iff_ne]; exact x1_9
                            have n1_10 : ((bs (fx (c.T k))).toList == [116, 104, 114, 111, 119]) = false := gl_false (by rw [bs_list]; exact x1_10)
                            have Q1_d_10 : Hid (isF c.E [116, 104, 114, 111, 119] (c.R k) = false) := by show _ = _; rw [isF_T, beq_eq_false_iff_ne]; exact x1_10
                            have n1_11 : ((bs (fx (c.T k))).toList == [116, 114, 121]) = false := gl_false (by rw [bs_list]; exact x1_11)
                            have Q1_d_11 : Hid (isF c.E [116, 114, 121] (c.R k) = false) := by show _ = _; rw [isF_T, beq_eq_false_iff_ne]; exact x1_11
                            have n1_12 : ((bs (fx (c.T k))).toList == [102, 117, 110, 99, 116, 105, 111, 110]) = false := gl_false (by rw [bs_list]; exact x1_12)
                            have Q1_d_12 : Hid (isF c.E [102, 117, 110, 99, 116, 105, 111, 110] (c.R k) = false) := by show _ = _; rw [isF_T, beq_eq_false_iff_ne]; exact x1_12
                            clear x1_0 x1_1 x1_2 x1_3 x1_4 x1_5 x1_6 x1_7 x1_8 x1_9 x1_10 x1_11 x1_12
                            go_wp2_with fail
                            refine (IHE.out _ G2.out.1).mono ?_; rintro e w34 ⟨r, hD, hr⟩
                            rcases r with p | ⟨t34, R1⟩
                            · obtain ⟨rfl, hO⟩ := hr
                              have HO := Lib.hid (G2.out.2.trans hO)
                              have D34 := Lib.hid hD
                              clear hD hO
                              unfold sflt
                              go_wp2_with fail
                              exact bodyPost_panic rfl (post_err (show D c.E .statement (c.R k) (.error p) from D.mk1 D34.out fun m h0 => by simp only [body, Bool.false_eq_true, if_false, bnd, Q1_d_0.out, Q1_d_1.out, Q1_d_2.out, Q1_d_3.out, Q1_d_4.out, Q1_d_5.out, Q1_d_6.out, Q1_d_7.out, Q1_d_8.out, Q1_d_9.out, Q1_d_10.out, Q1_d_11.out, Q1_d_12.out, h0]) rfl HO.out)
                            · obtain ⟨j34, vv, rfl, hj34, rfl, hG, hT⟩ := hr
                              obtain ⟨v34, rfl⟩ := hT.ptr
                              have G35 : Hid (Go1 c w w34 j34) := ⟨hG.1, G2.out.2.trans hG.2⟩
                              have T34 := Lib.hid (hT.lower G2.out.2.size)
                              have D34 := Lib.hid hD
                              clear hD hG hT
                              go_wp2_with fail
                              refine (newNode_any _ _ _ _ _ _).mono ?_; rintro e w36 hm
                              obtain ⟨a36, rfl, hT, hB⟩ := node_kids (k := 6) (x := []) (vs := [(.pointer (some ⟨v34, 0, none⟩))]) (kids := [t34]) (IsTs.cons T34.out (IsTs.nil _ _)) G35.out.2.size hm
                              have G37 : Hid (Go1 c w w36 j34) := ⟨G35.out.1.below hB, G35.out.2.below hB⟩
                              have T38 := Lib.hid (T34.out.stay hB)
                              have T36 := Lib.hid hT
                              clear hT hB hm
                              go_wp2_with fail
                              cases hq : isF c.E [59] (c.R j34)
                              · refine (ended_no c j34 _ _ G37.out.1 hq).mono ?_; rintro e w39 ⟨rfl, hB⟩
                                have HO := Lib.hid (G37.out.2.below hB)
                                have Q39 := Lib.hid hq
                                clear hB hq
                                unfold sflt
                                go_wp2_with fail
                                exact bodyPost_panic rfl (post_err (show D c.E .statement (c.R k) (.error (c.T j34).pos) from D.mk1 D34.out fun m h0 => by simp only [body, Bool.false_eq_true, if_false, bnd, need, bad, R_hd, Q1_d_0.out, Q1_d_1.out, Q1_d_2.out, Q1_d_3.out, Q1_d_4.out, Q1_d_5.out, Q1_d_6.out, Q1_d_7.out, Q1_d_8.out, Q1_d_9.out, Q1_d_10.out, Q1_d_11.out, Q1_d_12.out, Q39.out, h0]) rfl HO.out)
                              · refine (ended_yes c j34 _ _ G37.out.1 hq).mono ?_; rintro e w39 ⟨rfl, hG⟩
                                have G40 : Hid (Go1 c w w39 (j34 + 1)) := ⟨hG.1, G37.out.2.trans hG.2⟩
                                have T41 := Lib.hid (T38.out.off hG.2 hbl)
                                have T42 := Lib.hid (T36.out.off hG.2 hbl)
                                have Q39 := Lib.hid hq
                                clear hG hq
                                go_wp2_with fail
                                go_ret
                                exact post_ok (show D c.E .statement (c.R k) (.ok ((nd 6 [] [t34]), c.R (j34 + 1))) from D.mk1 D34.out fun m h0 => by simp only [body, Bool.false_eq_true, if_false, bnd, need, if_true, R_tail, ret, Q1_d_0.out, Q1_d_1.out, Q1_d_2.out, Q1_d_3.out, Q1_d_4.out, Q1_d_5.out, Q1_d_6.out, Q1_d_7.out, Q1_d_8.out, Q1_d_9.out, Q1_d_10.out, Q1_d_11.out, Q1_d_12.out, Q39.out, h0]) (by omega) rfl G40.out.1 G40.out.2 T42.out
end Go.Proofs.YtnkfodelgpidkaaGreatDoor
