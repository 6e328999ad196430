/- Statements, by the reader of trees: blocks, declarations, what stands at the front. -/
import Derived.Test.YtnkfodelgpidkaaGreatDoorG1
namespace Go.Proofs.YtnkfodelgpidkaaGreatDoor
open Go.RowKit
set_option linter.unusedVariables false

set_option maxRecDepth 100000 in
set_option maxHeartbeats 1000000 in
theorem block_any (c : Cx) (k : Nat) (ihu : ∀ j, k < j → OkL c (.untl [125] .statement) 146 #[c.p, .string ⟨#[125]⟩, .func (.func 89) #[c.p] #[]] j) : Ok c .block 150 #[c.p] k := by
  intro w h
  have hbl := h.lt
  have hfew := h.ok.few
  have G0 : Hid (Go1 c w w k) := ⟨h, Off.refl _ _⟩
  have IHU := Lib.hid ihu
  clear h ihu
  go_enter Tryz.func150, Tryz.ntmps150
  go_wp2_with fail
  cases hq : isF c.E [123] (c.R k)
  · refine (need_no c k ⟨#[123]⟩ _ G0.out.1 hq).mono ?_; rintro e w1 ⟨rfl, hB⟩
    have HO := Lib.hid (G0.out.2.below hB)
    have Q1 := Lib.hid hq
    clear hB hq
    unfold sflt
    go_wp2_with fail
    exact bodyPost_panic rfl (post_err (show D c.E .block (c.R k) (.error (c.T k).pos) from D.mk0 fun m => by simp only [body, need, Bool.false_eq_true, if_false, bad, R_hd, Q1.out]) rfl HO.out)
  · refine (need_yes c k ⟨#[123]⟩ (by decide) _ G0.out.1 hq).mono ?_; rintro e w1 ⟨rfl, hG⟩
    have G2 : Hid (Go1 c w w1 (k + 1)) := ⟨hG.1, G0.out.2.trans hG.2⟩
    have Q1 := Lib.hid hq
    clear hG hq
    go_wp2_with fail
    refine (IHU.out (k + 1) (by omega) _ G2.out.1).mono ?_; rintro e w3 ⟨r, hD, hr⟩
    rcases r with p | ⟨t3, R1⟩
    · obtain ⟨rfl, hO⟩ := hr
      have HO := Lib.hid (G2.out.2.trans hO)
      have D3 := Lib.hid hD
      clear hD hO
      unfold sflt
      go_wp2_with fail
      exact bodyPost_panic rfl (post_err (show D c.E .block (c.R k) (.error p) from D.mk1 D3.out fun m h0 => by simp only [body, need, if_true, R_tail, bnd, Q1.out, h0]) rfl HO.out)
    · obtain ⟨j3, v3, vs3, S3, rfl, hj3, rfl, hG, hW, hK, hS, hN⟩ := hr
      have G4 : Hid (Go1 c w w3 j3) := ⟨hG.1, G2.out.2.trans hG.2⟩
      have HW3 := Lib.hid (own_mono hW G2.out.2.size)
      have HK3 := Lib.hid hK
      have HN3 := Lib.hid hN
      have HS3 : Hid (∀ i, S3 i → F w.heap.size w3.heap.size i) := fun i hi => F.mono G2.out.2.size (Nat.le_refl _) i (hS i hi)
      obtain ⟨ao3, cp3, rfl⟩ := own_slice hW
      have D3 := Lib.hid hD
      clear hD hG hW hK hS hN
      go_wp2_with fail
      refine (newNode_any _ _ _ _ _ _).mono ?_; rintro e w5 hm
      obtain ⟨a5, rfl, hT, hB⟩ := node_row (k := 2) (x := []) HK3.out HS3.out G4.out.2.size HW3.out hm
      have G6 : Hid (Go1 c w w5 j3) := ⟨G4.out.1.below hB, G4.out.2.below hB⟩
      have T5 := Lib.hid hT
      clear hT hB hm
      go_wp2_with fail
      go_ret
      exact post_ok (show D c.E .block (c.R k) (.ok ((nd 2 [] t3.kids), c.R j3)) from D.mk1 D3.out fun m h0 => by simp only [body, need, if_true, R_tail, bnd, ret, Q1.out, h0]) (by omega) rfl G6.out.1 G6.out.2 T5.out
set_option maxRecDepth 100000 in
set_option maxHeartbeats 1000000 in
theorem vars_any (c : Cx) (k : Nat) (ihr : ∀ j, k < j → OkL c (.row .decl) 193 #[c.p, .func (.func 194) #[c.p] #[]] j) : Ok c .vars 152 #[c.p] k := by
  intro w h
  have hbl := h.lt
  have hfew := h.ok.few
  have G0 : Hid (Go1 c w w k) := ⟨h, Off.refl _ _⟩
  have IHR := Lib.hid ihr
  clear h ihr
  go_enter Tryz.func152, Tryz.ntmps152
  go_wp2_with fail
  cases hq : isF c.E [118, 97, 114] (c.R k)
  · refine (need_no c k ⟨#[118, 97, 114]⟩ _ G0.out.1 hq).mono ?_; rintro e w1 ⟨rfl, hB⟩
    have HO := Lib.hid (G0.out.2.below hB)
    have Q1 := Lib.hid hq
    clear hB hq
    unfold sflt
    go_wp2_with fail
    exact bodyPost_panic rfl (post_err (show D c.E .vars (c.R k) (.error (c.T k).pos) from D.mk0 fun m => by simp only [body, need, Bool.false_eq_true, if_false, bad, R_hd, Q1.out]) rfl HO.out)
  · refine (need_yes c k ⟨#[118, 97, 114]⟩ (by decide) _ G0.out.1 hq).mono ?_; rintro e w1 ⟨rfl, hG⟩
    have G2 : Hid (Go1 c w w1 (k + 1)) := ⟨hG.1, G0.out.2.trans hG.2⟩
    have Q1 := Lib.hid hq
    clear hG hq
    go_wp2_with fail
    refine (IHR.out (k + 1) (by omega) _ G2.out.1).mono ?_; rintro e w3 ⟨r, hD, hr⟩
    rcases r with p | ⟨t3, R1⟩
    · obtain ⟨rfl, hO⟩ := hr
      have HO := Lib.hid (G2.out.2.trans hO)
      have D3 := Lib.hid hD
      clear hD hO
      unfold sflt
      go_wp2_with fail
      exact bodyPost_panic rfl (post_err (show D c.E .vars (c.R k) (.error p) from D.mk1 D3.out fun m h0 => by simp only [body, need, if_true, R_tail, bnd, Q1.out, h0]) rfl HO.out)
    · obtain ⟨j3, v3, vs3, S3, rfl, hj3, rfl, hG, hW, hK, hS, hN⟩ := hr
      have G4 : Hid (Go1 c w w3 j3) := ⟨hG.1, G2.out.2.trans hG.2⟩
      have HW3 := Lib.hid (own_mono hW G2.out.2.size)
      have HK3 := Lib.hid hK
      have HN3 := Lib.hid hN
      have HS3 : Hid (∀ i, S3 i → F w.heap.size w3.heap.size i) := fun i hi => F.mono G2.out.2.size (Nat.le_refl _) i (hS i hi)
      obtain ⟨ao3, cp3, rfl⟩ := own_slice hW
      have D3 := Lib.hid hD
      clear hD hG hW hK hS hN
      go_wp2_with fail
      refine (newNode_any _ _ _ _ _ _).mono ?_; rintro e w5 hm
      obtain ⟨a5, rfl, hT, hB⟩ := node_row (k := 3) (x := []) HK3.out HS3.out G4.out.2.size HW3.out hm
      have G6 : Hid (Go1 c w w5 j3) := ⟨G4.out.1.below hB, G4.out.2.below hB⟩
      have T5 := Lib.hid hT
      clear hT hB hm
      go_wp2_with fail
      go_ret
      exact post_ok (show D c.E .vars (c.R k) (.ok ((nd 3 [] t3.kids), c.R j3)) from D.mk1 D3.out fun m h0 => by simp only [body, need, if_true, R_tail, bnd, ret, Q1.out, h0]) (by omega) rfl G6.out.1 G6.out.2 T5.out
set_option maxRecDepth 100000 in
set_option maxHeartbeats 1000000 in
theorem param_any (c : Cx) (k : Nat)  : Ok c .param 145 #[c.p] k := by
  intro w h
  have hbl := h.lt
  have hfew := h.ok.few
  have G0 : Hid (Go1 c w w k) := ⟨h, Off.refl _ _⟩
  clear h
  go_enter Tryz.func145, Tryz.ntmps145
  go_wp2_with fail
  by_cases hq : (c.T k).kind = 1
  · refine (sname_yes c k _ G0.out.1 hq).mono ?_; rintro e w1 ⟨rfl, hG⟩
    have G2 : Hid (Go1 c w w1 (k + 1)) := ⟨hG.1, G0.out.2.trans hG.2⟩
    have Q1 := Lib.hid hq
    clear hG hq
    go_wp2_with fail
    refine (newNode_any _ _ _ _ _ _).mono ?_; rintro e w3 hm
    obtain ⟨a3, rfl, hT, hB⟩ := node_none (k := 19) (x := (c.T k).text) G2.out.2.size hm
    have G4 : Hid (Go1 c w w3 (k + 1)) := ⟨G2.out.1.below hB, G2.out.2.below hB⟩
    have T3 := Lib.hid hT
    clear hT hB hm
    go_wp2_with fail
    go_ret
    exact post_ok (show D c.E .param (c.R k) (.ok ((nd 19 (c.T k).text []), c.R (k + 1))) from D.mk0 fun m => by simp only [body, nameK, if_true, R_tail, R_hd, ret, Q1.out]) (by omega) rfl G4.out.1 G4.out.2 T3.out
  · refine (sname_no c k _ G0.out.1 hq).mono ?_; rintro e w1 ⟨rfl, hB⟩
    have HO := Lib.hid (G0.out.2.below hB)
    have Q1 := Lib.hid hq
    clear hB hq
    unfold sflt
    go_wp2_with fail
    exact bodyPost_panic rfl (post_err (show D c.E .param (c.R k) (.error (c.T k).pos) from D.mk0 fun m => by simp only [body, nameK, if_false, bad, R_hd, Q1.out]) rfl HO.out)
set_option maxRecDepth 100000 in
set_option maxHeartbeats 1000000 in
theorem catchIt_any (c : Cx) (k : Nat) (ihk : ∀ j, k < j → Ok c .block 150 #[c.p] j) : Ok c .catchIt 198 #[c.p] k := by
  intro w h
  have hbl := h.lt
  have hfew := h.ok.few
  have G0 : Hid (Go1 c w w k) := ⟨h, Off.refl _ _⟩
  have IHK := Lib.hid ihk
  clear h ihk
  go_enter Tryz.func198, Tryz.ntmps198
  go_wp2_with fail
  cases hq : isF c.E [99, 97, 116, 99, 104] (c.R k)
  · refine (need_no c k ⟨#[99, 97, 116, 99, 104]⟩ _ G0.out.1 hq).mono ?_; rintro e w1 ⟨rfl, hB⟩
    have HO := Lib.hid (G0.out.2.below hB)
    have Q1 := Lib.hid hq
    clear hB hq
    unfold sflt
    go_wp2_with fail
    exact bodyPost_panic rfl (post_err (show D c.E .catchIt (c.R k) (.error (c.T k).pos) from D.mk0 fun m => by simp only [body, need, Bool.false_eq_true, if_false, bad, R_hd, Q1.out]) rfl HO.out)
  · refine (need_yes c k ⟨#[99, 97, 116, 99, 104]⟩ (by decide) _ G0.out.1 hq).mono ?_; rintro e w1 ⟨rfl, hG⟩
    have G2 : Hid (Go1 c w w1 (k + 1)) := ⟨hG.1, G0.out.2.trans hG.2⟩
    have Q1 := Lib.hid hq
    clear hG hq
    go_wp2_with fail
    cases hq : isF c.E [40] (c.R (k + 1))
    · refine (need_no c (k + 1) ⟨#[40]⟩ _ G2.out.1 hq).mono ?_; rintro e w3 ⟨rfl, hB⟩
      have HO := Lib.hid (G2.out.2.below hB)
      have Q3 := Lib.hid hq
      clear hB hq
      unfold sflt
      go_wp2_with fail
      exact bodyPost_panic rfl (post_err (show D c.E .catchIt (c.R k) (.error (c.T (k + 1)).pos) from D.mk0 fun m => by simp only [body, need, if_true, R_tail, Bool.false_eq_true, if_false, bad, R_hd, Q1.out, Q3.out]) rfl HO.out)
    · refine (need_yes c (k + 1) ⟨#[40]⟩ (by decide) _ G2.out.1 hq).mono ?_; rintro e w3 ⟨rfl, hG⟩
      have G4 : Hid (Go1 c w w3 ((k + 1) + 1)) := ⟨hG.1, G2.out.2.trans hG.2⟩
      have Q3 := Lib.hid hq
      clear hG hq
      go_wp2_with fail
      by_cases hq : (c.T ((k + 1) + 1)).kind = 1
      · refine (sname_yes c ((k + 1) + 1) _ G4.out.1 hq).mono ?_; rintro e w5 ⟨rfl, hG⟩
        have G6 : Hid (Go1 c w w5 (((k + 1) + 1) + 1)) := ⟨hG.1, G4.out.2.trans hG.2⟩
        have Q5 := Lib.hid hq
        clear hG hq
        go_wp2_with fail
        cases hq : isF c.E [41] (c.R (((k + 1) + 1) + 1))
        · refine (need_no c (((k + 1) + 1) + 1) ⟨#[41]⟩ _ G6.out.1 hq).mono ?_; rintro e w7 ⟨rfl, hB⟩
          have HO := Lib.hid (G6.out.2.below hB)
          have Q7 := Lib.hid hq
          clear hB hq
          unfold sflt
          go_wp2_with fail
          exact bodyPost_panic rfl (post_err (show D c.E .catchIt (c.R k) (.error (c.T (((k + 1) + 1) + 1)).pos) from D.mk0 fun m => by simp only [body, need, if_true, R_tail, nameK, R_hd, Bool.false_eq_true, if_false, bad, Q1.out, Q3.out, Q5.out, Q7.out]) rfl HO.out)
        · refine (need_yes c (((k + 1) + 1) + 1) ⟨#[41]⟩ (by decide) _ G6.out.1 hq).mono ?_; rintro e w7 ⟨rfl, hG⟩
          have G8 : Hid (Go1 c w w7 ((((k + 1) + 1) + 1) + 1)) := ⟨hG.1, G6.out.2.trans hG.2⟩
          have Q7 := Lib.hid hq
          clear hG hq
          go_wp2_with fail
          refine (IHK.out ((((k + 1) + 1) + 1) + 1) (by omega) _ G8.out.1).mono ?_; rintro e w9 ⟨r, hD, hr⟩
          rcases r with p | ⟨t9, R1⟩
          · obtain ⟨rfl, hO⟩ := hr
            have HO := Lib.hid (G8.out.2.trans hO)
            have D9 := Lib.hid hD
            clear hD hO
            unfold sflt
            go_wp2_with fail
            exact bodyPost_panic rfl (post_err (show D c.E .catchIt (c.R k) (.error p) from D.mk1 D9.out fun m h0 => by simp only [body, need, if_true, R_tail, nameK, R_hd, bnd, Q1.out, Q3.out, Q5.out, Q7.out, h0]) rfl HO.out)
          · obtain ⟨j9, vv, rfl, hj9, rfl, hG, hT⟩ := hr
            obtain ⟨v9, rfl⟩ := hT.ptr
            have G10 : Hid (Go1 c w w9 j9) := ⟨hG.1, G8.out.2.trans hG.2⟩
            have T9 := Lib.hid (hT.lower G8.out.2.size)
            have D9 := Lib.hid hD
            clear hD hG hT
            go_wp2_with fail
            refine (newNode_any _ _ _ _ _ _).mono ?_; rintro e w11 hm
            obtain ⟨a11, rfl, hT, hB⟩ := node_kids (k := 16) (x := (c.T ((k + 1) + 1)).text) (vs := [(.pointer (some ⟨v9, 0, none⟩))]) (kids := [t9]) (IsTs.cons T9.out (IsTs.nil _ _)) G10.out.2.size hm
            have G12 : Hid (Go1 c w w11 j9) := ⟨G10.out.1.below hB, G10.out.2.below hB⟩
            have T13 := Lib.hid (T9.out.stay hB)
            have T11 := Lib.hid hT
            clear hT hB hm
            go_wp2_with fail
            go_ret
            exact post_ok (show D c.E .catchIt (c.R k) (.ok ((nd 16 (c.T ((k + 1) + 1)).text [t9]), c.R j9)) from D.mk1 D9.out fun m h0 => by simp only [body, need, if_true, R_tail, nameK, R_hd, bnd, ret, Q1.out, Q3.out, Q5.out, Q7.out, h0]) (by omega) rfl G12.out.1 G12.out.2 T11.out
      · refine (sname_no c ((k + 1) + 1) _ G4.out.1 hq).mono ?_; rintro e w5 ⟨rfl, hB⟩
        have HO := Lib.hid (G4.out.2.below hB)
        have Q5 := Lib.hid hq
        clear hB hq
        unfold sflt
        go_wp2_with fail
        exact bodyPost_panic rfl (post_err (show D c.E .catchIt (c.R k) (.error (c.T ((k + 1) + 1)).pos) from D.mk0 fun m => by simp only [body, need, if_true, R_tail, nameK, if_false, bad, R_hd, Q1.out, Q3.out, Q5.out]) rfl HO.out)
set_option maxRecDepth 100000 in
set_option maxHeartbeats 1000000 in
theorem forStart_any (c : Cx) (k : Nat) (ihv : Ok c .vars 152 #[c.p] k) (ihe : Ok c .expr 161 #[c.p] k) : Ok c .forStart 196 #[c.p] k := by
  intro w h
  have hbl := h.lt
  have hfew := h.ok.few
  have G0 : Hid (Go1 c w w k) := ⟨h, Off.refl _ _⟩
  have IHV := Lib.hid ihv
  have IHE := Lib.hid ihe
  clear h ihv ihe
  go_enter Tryz.func196, Tryz.ntmps196
  go_wp2_with fail
  refine (fixed_any c k _ G0.out.1).mono ?_; rintro e w1 ⟨rfl, hB⟩
  have G2 : Hid (Go1 c w w1 k) := ⟨G0.out.1.below hB, G0.out.2.below hB⟩
  clear hB
  by_cases x1_0 : fx (c.T k) = [118, 97, 114]
  · have n1_0 : ((bs (fx (c.T k))).toList == [118, 97, 114]) = true := gl_true (by rw [bs_list, x1_0])
    have Q1_0_0 : Hid (isF c.E [118, 97, 114] (c.R k) = true) := by show _ = _; rw [isF_T, x1_0]; rfl
    have hlt : k < c.ts.length := fx_in G2.out.1.le (by rw [x1_0]; decide)
    clear x1_0
    go_wp2_with fail
    refine (IHV.out _ G2.out.1).mono ?_; rintro e w3 ⟨r, hD, hr⟩
    rcases r with p | ⟨t3, R1⟩
    · obtain ⟨rfl, hO⟩ := hr
      have HO := Lib.hid (G2.out.2.trans hO)
      have D3 := Lib.hid hD
      clear hD hO
      unfold sflt
      go_wp2_with fail
      exact bodyPost_panic rfl (post_err (show D c.E .forStart (c.R k) (.error p) from D.mk1 D3.out fun m h0 => by simp only [body, if_true, bnd, Q1_0_0.out, h0]) rfl HO.out)
    · obtain ⟨j3, vv, rfl, hj3, rfl, hG, hT⟩ := hr
      obtain ⟨v3, rfl⟩ := hT.ptr
      have G4 : Hid (Go1 c w w3 j3) := ⟨hG.1, G2.out.2.trans hG.2⟩
      have T3 := Lib.hid (hT.lower G2.out.2.size)
      have D3 := Lib.hid hD
      clear hD hG hT
      go_wp2_with fail
      cases hq : isF c.E [59] (c.R j3)
      · refine (ended_no c j3 _ _ G4.out.1 hq).mono ?_; rintro e w5 ⟨rfl, hB⟩
        have HO := Lib.hid (G4.out.2.below hB)
        have Q5 := Lib.hid hq
        clear hB hq
        unfold sflt
        go_wp2_with fail
        exact bodyPost_panic rfl (post_err (show D c.E .forStart (c.R k) (.error (c.T j3).pos) from D.mk1 D3.out fun m h0 => by simp only [body, if_true, bnd, need, Bool.false_eq_true, if_false, bad, R_hd, Q1_0_0.out, Q5.out, h0]) rfl HO.out)
      · refine (ended_yes c j3 _ _ G4.out.1 hq).mono ?_; rintro e w5 ⟨rfl, hG⟩
        have G6 : Hid (Go1 c w w5 (j3 + 1)) := ⟨hG.1, G4.out.2.trans hG.2⟩
        have T7 := Lib.hid (T3.out.off hG.2 hbl)
        have Q5 := Lib.hid hq
        clear hG hq
        go_wp2_with fail
        go_ret
        exact post_ok (show D c.E .forStart (c.R k) (.ok (t3, c.R (j3 + 1))) from D.mk1 D3.out fun m h0 => by simp only [body, if_true, bnd, need, R_tail, ret, Q1_0_0.out, Q5.out, h0]) (by omega) rfl G6.out.1 G6.out.2 T7.out
  · skip
    by_cases x1_1 : fx (c.T k) = [59]
    · have n1_0 : ((bs (fx (c.T k))).toList == [118, 97, 114]) = false := gl_false (by rw [bs_list, x1_1]; decide)
      have Q1_1_0 : Hid (isF c.E [118, 97, 114] (c.R k) = false) := by show _ = _; rw [isF_T, x1_1]; rfl
      have n1_1 : ((bs (fx (c.T k))).toList == [59]) = true := gl_true (by rw [bs_list, x1_1])
      have Q1_1_1 : Hid (isF c.E [59] (c.R k) = true) := by show _ = _; rw [isF_T, x1_1]; rfl
      have hlt : k < c.ts.length := fx_in G2.out.1.le (by rw [x1_1]; decide)
      clear x1_0 x1_1
      go_wp2_with fail
      refine (newNode_any _ _ _ _ _ _).mono ?_; rintro e w8 hm
      obtain ⟨a8, rfl, hT, hB⟩ := node_none (k := 5) (x := []) G2.out.2.size hm
      have G9 : Hid (Go1 c w w8 k) := ⟨G2.out.1.below hB, G2.out.2.below hB⟩
      have T8 := Lib.hid hT
      clear hT hB hm
      go_wp2_with fail
      refine (ended_yes c k _ _ G9.out.1 Q1_1_1.out).mono ?_; rintro e w10 ⟨rfl, hG⟩
      have G11 : Hid (Go1 c w w10 (k + 1)) := ⟨hG.1, G9.out.2.trans hG.2⟩
      have T12 := Lib.hid (T8.out.off hG.2 hbl)
      clear hG
      go_wp2_with fail
      go_ret
      exact post_ok (show D c.E .forStart (c.R k) (.ok ((nd 5 [] []), c.R (k + 1))) from D.mk0 fun m => by simp only [body, Bool.false_eq_true, if_false, if_true, need, R_tail, ret, Q1_1_0.out, Q1_1_1.out]) (by omega) rfl G11.out.1 G11.out.2 T12.out
    · have n1_0 : ((bs (fx (c.T k))).toList == [118, 97, 114]) = false := gl_false (by rw [bs_list]; exact x1_0)
      have Q1_d_0 : Hid (isF c.E [118, 97, 114] (c.R k) = false) := by show _ = _; rw [isF_T, beq_eq_false_iff_ne]; exact x1_0
      have n1_1 : ((bs (fx (c.T k))).toList == [59]) = false := gl_false (by rw [bs_list]; exact x1_1)
      have Q1_d_1 : Hid (isF c.E [59] (c.R k) = false) := by show _ = _; rw [isF_T, beq_eq_false_iff_ne]; exact x1_1
      clear x1_0 x1_1
      go_wp2_with fail
      refine (IHE.out _ G2.out.1).mono ?_; rintro e w13 ⟨r, hD, hr⟩
      rcases r with p | ⟨t13, R1⟩
      · obtain ⟨rfl, hO⟩ := hr
        have HO := Lib.hid (G2.out.2.trans hO)
        have D13 := Lib.hid hD
        clear hD hO
        unfold sflt
        go_wp2_with fail
        exact bodyPost_panic rfl (post_err (show D c.E .forStart (c.R k) (.error p) from D.mk1 D13.out fun m h0 => by simp only [body, Bool.false_eq_true, if_false, bnd, Q1_d_0.out, Q1_d_1.out, h0]) rfl HO.out)
      · obtain ⟨j13, vv, rfl, hj13, rfl, hG, hT⟩ := hr
        obtain ⟨v13, rfl⟩ := hT.ptr
        have G14 : Hid (Go1 c w w13 j13) := ⟨hG.1, G2.out.2.trans hG.2⟩
        have T13 := Lib.hid (hT.lower G2.out.2.size)
        have D13 := Lib.hid hD
        clear hD hG hT
        go_wp2_with fail
        refine (newNode_any _ _ _ _ _ _).mono ?_; rintro e w15 hm
        obtain ⟨a15, rfl, hT, hB⟩ := node_kids (k := 6) (x := []) (vs := [(.pointer (some ⟨v13, 0, none⟩))]) (kids := [t13]) (IsTs.cons T13.out (IsTs.nil _ _)) G14.out.2.size hm
        have G16 : Hid (Go1 c w w15 j13) := ⟨G14.out.1.below hB, G14.out.2.below hB⟩
        have T17 := Lib.hid (T13.out.stay hB)
        have T15 := Lib.hid hT
        clear hT hB hm
        go_wp2_with fail
        cases hq : isF c.E [59] (c.R j13)
        · refine (ended_no c j13 _ _ G16.out.1 hq).mono ?_; rintro e w18 ⟨rfl, hB⟩
          have HO := Lib.hid (G16.out.2.below hB)
          have Q18 := Lib.hid hq
          clear hB hq
          unfold sflt
          go_wp2_with fail
          exact bodyPost_panic rfl (post_err (show D c.E .forStart (c.R k) (.error (c.T j13).pos) from D.mk1 D13.out fun m h0 => by simp only [body, Bool.false_eq_true, if_false, bnd, need, bad, R_hd, Q1_d_0.out, Q1_d_1.out, Q18.out, h0]) rfl HO.out)
        · refine (ended_yes c j13 _ _ G16.out.1 hq).mono ?_; rintro e w18 ⟨rfl, hG⟩
          have G19 : Hid (Go1 c w w18 (j13 + 1)) := ⟨hG.1, G16.out.2.trans hG.2⟩
          have T20 := Lib.hid (T17.out.off hG.2 hbl)
          have T21 := Lib.hid (T15.out.off hG.2 hbl)
          have Q18 := Lib.hid hq
          clear hG hq
          go_wp2_with fail
          go_ret
          exact post_ok (show D c.E .forStart (c.R k) (.ok ((nd 6 [] [t13]), c.R (j13 + 1))) from D.mk1 D13.out fun m h0 => by simp only [body, Bool.false_eq_true, if_false, bnd, need, if_true, R_tail, ret, Q1_d_0.out, Q1_d_1.out, Q18.out, h0]) (by omega) rfl G19.out.1 G19.out.2 T21.out
set_option maxRecDepth 100000 in
set_option maxHeartbeats 1000000 in
theorem forLoop_any (c : Cx) (k : Nat) (ihf : ∀ j, k < j → Ok c .forStart 196 #[c.p] j) (iho : ∀ j, k < j → Ok c (.optional [59]) 197 #[c.p, .string ⟨#[59]⟩] j) (ihp : ∀ j, k < j → Ok c (.optional [41]) 197 #[c.p, .string ⟨#[41]⟩] j) (ihs : ∀ j, k < j → Ok c .statement 89 #[c.p] j) : Ok c .forLoop 156 #[c.p] k := by
  intro w h
  have hbl := h.lt
  have hfew := h.ok.few
  have G0 : Hid (Go1 c w w k) := ⟨h, Off.refl _ _⟩
  have IHF := Lib.hid ihf
  have IHO := Lib.hid iho
  have IHP := Lib.hid ihp
  have IHS := Lib.hid ihs
  clear h ihf iho ihp ihs
  go_enter Tryz.func156, Tryz.ntmps156
  go_wp2_with fail
  cases hq : isF c.E [102, 111, 114] (c.R k)
  · refine (need_no c k ⟨#[102, 111, 114]⟩ _ G0.out.1 hq).mono ?_; rintro e w1 ⟨rfl, hB⟩
    have HO := Lib.hid (G0.out.2.below hB)
    have Q1 := Lib.hid hq
    clear hB hq
    unfold sflt
    go_wp2_with fail
    exact bodyPost_panic rfl (post_err (show D c.E .forLoop (c.R k) (.error (c.T k).pos) from D.mk0 fun m => by simp only [body, need, Bool.false_eq_true, if_false, bad, R_hd, Q1.out]) rfl HO.out)
  · refine (need_yes c k ⟨#[102, 111, 114]⟩ (by decide) _ G0.out.1 hq).mono ?_; rintro e w1 ⟨rfl, hG⟩
    have G2 : Hid (Go1 c w w1 (k + 1)) := ⟨hG.1, G0.out.2.trans hG.2⟩
    have Q1 := Lib.hid hq
    clear hG hq
    go_wp2_with fail
    cases hq : isF c.E [40] (c.R (k + 1))
    · refine (need_no c (k + 1) ⟨#[40]⟩ _ G2.out.1 hq).mono ?_; rintro e w3 ⟨rfl, hB⟩
      have HO := Lib.hid (G2.out.2.below hB)
      have Q3 := Lib.hid hq
      clear hB hq
      unfold sflt
      go_wp2_with fail
      exact bodyPost_panic rfl (post_err (show D c.E .forLoop (c.R k) (.error (c.T (k + 1)).pos) from D.mk0 fun m => by simp only [body, need, if_true, R_tail, Bool.false_eq_true, if_false, bad, R_hd, Q1.out, Q3.out]) rfl HO.out)
    · refine (need_yes c (k + 1) ⟨#[40]⟩ (by decide) _ G2.out.1 hq).mono ?_; rintro e w3 ⟨rfl, hG⟩
      have G4 : Hid (Go1 c w w3 ((k + 1) + 1)) := ⟨hG.1, G2.out.2.trans hG.2⟩
      have Q3 := Lib.hid hq
      clear hG hq
      go_wp2_with fail
      refine (IHF.out ((k + 1) + 1) (by omega) _ G4.out.1).mono ?_; rintro e w5 ⟨r, hD, hr⟩
      rcases r with p | ⟨t5, R1⟩
      · obtain ⟨rfl, hO⟩ := hr
        have HO := Lib.hid (G4.out.2.trans hO)
        have D5 := Lib.hid hD
        clear hD hO
        unfold sflt
        go_wp2_with fail
        exact bodyPost_panic rfl (post_err (show D c.E .forLoop (c.R k) (.error p) from D.mk1 D5.out fun m h0 => by simp only [body, need, if_true, R_tail, bnd, Q1.out, Q3.out, h0]) rfl HO.out)
      · obtain ⟨j5, vv, rfl, hj5, rfl, hG, hT⟩ := hr
        obtain ⟨v5, rfl⟩ := hT.ptr
        have G6 : Hid (Go1 c w w5 j5) := ⟨hG.1, G4.out.2.trans hG.2⟩
        have T5 := Lib.hid (hT.lower G4.out.2.size)
        have D5 := Lib.hid hD
        clear hD hG hT
        go_wp2_with fail
        refine (IHO.out j5 (by omega) _ G6.out.1).mono ?_; rintro e w7 ⟨r, hD, hr⟩
        rcases r with p | ⟨t7, R1⟩
        · obtain ⟨rfl, hO⟩ := hr
          have HO := Lib.hid (G6.out.2.trans hO)
          have D7 := Lib.hid hD
          clear hD hO
          unfold sflt
          go_wp2_with fail
          exact bodyPost_panic rfl (post_err (show D c.E .forLoop (c.R k) (.error p) from D.mk2 D5.out D7.out fun m h0 h1 => by simp only [body, need, if_true, R_tail, bnd, Q1.out, Q3.out, h0, h1]) rfl HO.out)
        · obtain ⟨j7, vv, rfl, hj7, rfl, hG, hT⟩ := hr
          obtain ⟨v7, rfl⟩ := hT.ptr
          have G8 : Hid (Go1 c w w7 j7) := ⟨hG.1, G6.out.2.trans hG.2⟩
          have T9 := Lib.hid (T5.out.off hG.2 hbl)
          have T7 := Lib.hid (hT.lower G6.out.2.size)
          have D7 := Lib.hid hD
          clear hD hG hT
          go_wp2_with fail
          refine (IHP.out j7 (by omega) _ G8.out.1).mono ?_; rintro e w10 ⟨r, hD, hr⟩
          rcases r with p | ⟨t10, R1⟩
          · obtain ⟨rfl, hO⟩ := hr
            have HO := Lib.hid (G8.out.2.trans hO)
            have D10 := Lib.hid hD
            clear hD hO
            unfold sflt
            go_wp2_with fail
            exact bodyPost_panic rfl (post_err (show D c.E .forLoop (c.R k) (.error p) from D.mk3 D5.out D7.out D10.out fun m h0 h1 h2 => by simp only [body, need, if_true, R_tail, bnd, Q1.out, Q3.out, h0, h1, h2]) rfl HO.out)
          · obtain ⟨j10, vv, rfl, hj10, rfl, hG, hT⟩ := hr
            obtain ⟨v10, rfl⟩ := hT.ptr
            have G11 : Hid (Go1 c w w10 j10) := ⟨hG.1, G8.out.2.trans hG.2⟩
            have T12 := Lib.hid (T9.out.off hG.2 hbl)
            have T13 := Lib.hid (T7.out.off hG.2 hbl)
            have T10 := Lib.hid (hT.lower G8.out.2.size)
            have D10 := Lib.hid hD
            clear hD hG hT
            go_wp2_with fail
            refine (IHS.out j10 (by omega) _ G11.out.1).mono ?_; rintro e w14 ⟨r, hD, hr⟩
            rcases r with p | ⟨t14, R1⟩
            · obtain ⟨rfl, hO⟩ := hr
              have HO := Lib.hid (G11.out.2.trans hO)
              have D14 := Lib.hid hD
              clear hD hO
              unfold sflt
              go_wp2_with fail
              exact bodyPost_panic rfl (post_err (show D c.E .forLoop (c.R k) (.error p) from D.mk4 D5.out D7.out D10.out D14.out fun m h0 h1 h2 h3 => by simp only [body, need, if_true, R_tail, bnd, Q1.out, Q3.out, h0, h1, h2, h3]) rfl HO.out)
            · obtain ⟨j14, vv, rfl, hj14, rfl, hG, hT⟩ := hr
              obtain ⟨v14, rfl⟩ := hT.ptr
              have G15 : Hid (Go1 c w w14 j14) := ⟨hG.1, G11.out.2.trans hG.2⟩
              have T16 := Lib.hid (T12.out.off hG.2 hbl)
              have T17 := Lib.hid (T13.out.off hG.2 hbl)
              have T18 := Lib.hid (T10.out.off hG.2 hbl)
              have T14 := Lib.hid (hT.lower G11.out.2.size)
              have D14 := Lib.hid hD
              clear hD hG hT
              go_wp2_with fail
              refine (newNode_any _ _ _ _ _ _).mono ?_; rintro e w19 hm
              obtain ⟨a19, rfl, hT, hB⟩ := node_kids (k := 10) (x := []) (vs := [(.pointer (some ⟨v5, 0, none⟩)), (.pointer (some ⟨v7, 0, none⟩)), (.pointer (some ⟨v10, 0, none⟩)), (.pointer (some ⟨v14, 0, none⟩))]) (kids := [t5, t7, t10, t14]) (IsTs.cons T16.out (IsTs.cons T17.out (IsTs.cons T18.out (IsTs.cons T14.out (IsTs.nil _ _))))) G15.out.2.size hm
              have G20 : Hid (Go1 c w w19 j14) := ⟨G15.out.1.below hB, G15.out.2.below hB⟩
              have T21 := Lib.hid (T16.out.stay hB)
              have T22 := Lib.hid (T17.out.stay hB)
              have T23 := Lib.hid (T18.out.stay hB)
              have T24 := Lib.hid (T14.out.stay hB)
              have T19 := Lib.hid hT
              clear hT hB hm
              go_wp2_with fail
              go_ret
              exact post_ok (show D c.E .forLoop (c.R k) (.ok ((nd 10 [] [t5, t7, t10, t14]), c.R j14)) from D.mk4 D5.out D7.out D10.out D14.out fun m h0 h1 h2 h3 => by simp only [body, need, if_true, R_tail, bnd, ret, Q1.out, Q3.out, h0, h1, h2, h3]) (by omega) rfl G20.out.1 G20.out.2 T19.out
set_option maxRecDepth 100000 in
set_option maxHeartbeats 1000000 in
theorem optional_any (c : Cx) (k : Nat) (stop : List UInt8) (hst : stop ≠ []) (ihe : Ok c .expr 161 #[c.p] k) : Ok c (.optional stop) 197 #[c.p, .string (bs stop)] k := by
  intro w h
  have hbl := h.lt
  have hfew := h.ok.few
  have G0 : Hid (Go1 c w w k) := ⟨h, Off.refl _ _⟩
  have IHE := Lib.hid ihe
  clear h ihe
  go_enter Tryz.func197, Tryz.ntmps197
  go_wp2_with fail
  cases hq : isF c.E stop (c.R k)
  · refine (skip_no c k (bs stop) _ G0.out.1 hq).mono ?_; rintro e w1 ⟨rfl, hB⟩
    have G2 : Hid (Go1 c w w1 k) := ⟨G0.out.1.below hB, G0.out.2.below hB⟩
    have Q1 := Lib.hid hq
    clear hB hq
    go_wp2_with fail
    refine (IHE.out _ G2.out.1).mono ?_; rintro e w3 ⟨r, hD, hr⟩
    rcases r with p | ⟨t3, R1⟩
    · obtain ⟨rfl, hO⟩ := hr
      have HO := Lib.hid (G2.out.2.trans hO)
      have D3 := Lib.hid hD
      clear hD hO
      unfold sflt
      go_wp2_with fail
      exact bodyPost_panic rfl (post_err (show D c.E (.optional stop) (c.R k) (.error p) from D.mk1 D3.out fun m h0 => by simp only [body, Bool.false_eq_true, if_false, bnd, Q1.out, h0]) rfl HO.out)
    · obtain ⟨j3, vv, rfl, hj3, rfl, hG, hT⟩ := hr
      obtain ⟨v3, rfl⟩ := hT.ptr
      have G4 : Hid (Go1 c w w3 j3) := ⟨hG.1, G2.out.2.trans hG.2⟩
      have T3 := Lib.hid (hT.lower G2.out.2.size)
      have D3 := Lib.hid hD
      clear hD hG hT
      go_wp2_with fail
      cases hq : isF c.E stop (c.R j3)
      · refine (need_no c j3 (bs stop) _ G4.out.1 hq).mono ?_; rintro e w5 ⟨rfl, hB⟩
        have HO := Lib.hid (G4.out.2.below hB)
        have Q5 := Lib.hid hq
        clear hB hq
        unfold sflt
        go_wp2_with fail
        exact bodyPost_panic rfl (post_err (show D c.E (.optional stop) (c.R k) (.error (c.T j3).pos) from D.mk1 D3.out fun m h0 => by simp only [body, Bool.false_eq_true, if_false, bnd, need, bad, R_hd, Q1.out, Q5.out, h0]) rfl HO.out)
      · refine (need_yes c j3 (bs stop) hst _ G4.out.1 hq).mono ?_; rintro e w5 ⟨rfl, hG⟩
        have G6 : Hid (Go1 c w w5 (j3 + 1)) := ⟨hG.1, G4.out.2.trans hG.2⟩
        have T7 := Lib.hid (T3.out.off hG.2 hbl)
        have Q5 := Lib.hid hq
        clear hG hq
        go_wp2_with fail
        go_ret
        exact post_ok (show D c.E (.optional stop) (c.R k) (.ok (t3, c.R (j3 + 1))) from D.mk1 D3.out fun m h0 => by simp only [body, Bool.false_eq_true, if_false, bnd, need, if_true, R_tail, ret, Q1.out, Q5.out, h0]) (by omega) rfl G6.out.1 G6.out.2 T7.out
  · refine (skip_yes c k (bs stop) hst _ G0.out.1 hq).mono ?_; rintro e w1 ⟨rfl, hG⟩
    have G8 : Hid (Go1 c w w1 (k + 1)) := ⟨hG.1, G0.out.2.trans hG.2⟩
    have Q1 := Lib.hid hq
    clear hG hq
    go_wp2_with fail
    refine (newNode_any _ _ _ _ _ _).mono ?_; rintro e w9 hm
    obtain ⟨a9, rfl, hT, hB⟩ := node_none (k := 5) (x := []) G8.out.2.size hm
    have G10 : Hid (Go1 c w w9 (k + 1)) := ⟨G8.out.1.below hB, G8.out.2.below hB⟩
    have T9 := Lib.hid hT
    clear hT hB hm
    go_wp2_with fail
    go_ret
    exact post_ok (show D c.E (.optional stop) (c.R k) (.ok ((nd 5 [] []), c.R (k + 1))) from D.mk0 fun m => by simp only [body, if_true, R_tail, ret, Q1.out]) (by omega) rfl G10.out.1 G10.out.2 T9.out
end Go.Proofs.YtnkfodelgpidkaaGreatDoor
