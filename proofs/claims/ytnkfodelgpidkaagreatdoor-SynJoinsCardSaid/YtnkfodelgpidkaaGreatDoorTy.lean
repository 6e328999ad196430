/- try. -/
import Derived.Test.YtnkfodelgpidkaaGreatDoorDc
namespace Go.Proofs.YtnkfodelgpidkaaGreatDoor
open Go.RowKit
set_option linter.unusedVariables false
set_option linter.unusedSimpArgs false

set_option maxRecDepth 100000 in
set_option maxHeartbeats 8000000 in
theorem tryIt_any (c : Cx) (k : Nat) (ihk : ∀ j, k < j → Ok c .block 150 #[c.p] j) (ihc : ∀ j, k < j → Ok c .catchIt 198 #[c.p] j) : Ok c .tryIt 160 #[c.p] k := by
  intro w h
  have hbl := h.lt
  have hfew := h.ok.few
  have G0 : Hid (Go1 c w w k) := ⟨h, Off.refl _ _⟩
  have IHK := Lib.hid ihk
  have IHC := Lib.hid ihc
  clear h ihk ihc
  have hgl : c.g < w.heap.size := G0.out.1.ltg
  have h0l : c.w0.heap.size ≤ w.heap.size := G0.out.1.base.size
  go_enter Tryz.func160, Tryz.ntmps160
  go_wp2_with fail
  cases hq : isF c.E [116, 114, 121] (c.R k)
  · refine (need_no c k ⟨#[116, 114, 121]⟩ _ G0.out.1 hq).mono ?_; rintro e w1 ⟨rfl, hB⟩
    have HO := Lib.hid (G0.out.2.below hB)
    have Q1 := Lib.hid hq
    clear hB hq
    unfold sflt
    go_wp2_with fail
    exact bodyPost_panic rfl (post_err (show D c.E .tryIt (c.R k) (.error (c.T k).pos) from D.mk0 fun m => by simp only [body, need, Bool.false_eq_true, if_false, bad, R_hd, Q1.out]) rfl HO.out)
  · refine (need_yes c k ⟨#[116, 114, 121]⟩ (by decide) _ G0.out.1 hq).mono ?_; rintro e w1 ⟨rfl, hG⟩
    have G2 : Hid (Go1 c w w1 (k + 1)) := ⟨hG.1, G0.out.2.trans hG.2⟩
    have Q1 := Lib.hid hq
    clear hG hq
    go_wp2_with fail
    refine (IHK.out (k + 1) (by omega) _ G2.out.1).mono ?_; rintro e w3 ⟨r, hD, hr⟩
    rcases r with p | ⟨t3, R1⟩
    · obtain ⟨rfl, hO⟩ := hr
      have HO := Lib.hid (G2.out.2.trans hO)
      have D3 := Lib.hid hD
      clear hD hO
      unfold sflt
      go_wp2_with fail
      exact bodyPost_panic rfl (post_err (show D c.E .tryIt (c.R k) (.error p) from D.mk1 D3.out fun m h0 => by simp only [body, need, if_true, R_tail, bnd, Q1.out, h0]) rfl HO.out)
    · obtain ⟨j3, vv, rfl, hj3, rfl, hG, hT⟩ := hr
      obtain ⟨v3, rfl⟩ := hT.ptr
      have G4 : Hid (Go1 c w w3 j3) := ⟨hG.1, G2.out.2.trans hG.2⟩
      have T3 := Lib.hid (hT.lower G2.out.2.size)
      have D3 := Lib.hid hD
      clear hD hG hT
      go_wp2_with fail
      refine (newNode_any _ _ _ _ _ _).mono ?_; rintro e w5 hm
      obtain ⟨a5, rfl, hO, hB⟩ := opn_kids (k := 15) (x := []) (vs := [(.pointer (some ⟨v3, 0, none⟩))]) (kids := [t3]) (by simp) (by simp) (IsTs.cons T3.out (IsTs.nil _ _)) G4.out.2.size hm
      have G6 : Hid (Go1 c w w5 j3) := ⟨G4.out.1.below hB, G4.out.2.below hB⟩
      have O5 := Lib.hid hO
      obtain ⟨ov5, hov5⟩ : ∃ v, v = Value.slice (some ⟨w3.heap.size, 0, none⟩) 1 1 := ⟨_, rfl⟩
      clear hO hB hm
      go_wp2_with fail
      cases hq : isF c.E [99, 97, 116, 99, 104] (c.R j3)
      · refine (is_at c j3 ⟨#[99, 97, 116, 99, 104]⟩ _ G6.out.1 hq).mono ?_; rintro e w7 ⟨rfl, hB⟩
        have G8 : Hid (Go1 c w w7 j3) := ⟨G6.out.1.below hB, G6.out.2.below hB⟩
        have O9 := Lib.hid (O5.out.stay hB)
        have Q7 := Lib.hid hq
        clear hB hq
        go_wp2_with fail
        cases hq : isF c.E [102, 105, 110, 97, 108, 108, 121] (c.R j3)
        · refine (skip_no c j3 ⟨#[102, 105, 110, 97, 108, 108, 121]⟩ _ G8.out.1 hq).mono ?_; rintro e w10 ⟨rfl, hB⟩
          have G11 : Hid (Go1 c w w10 j3) := ⟨G8.out.1.below hB, G8.out.2.below hB⟩
          have O12 := Lib.hid (O9.out.stay hB)
          have Q10 := Lib.hid hq
          clear hB hq
          have oq := O12.out.c3
          go_wp2_with fail
          clear oq
          refine (sgiveUp_any c j3 _ G11.out.1).mono ?_; rintro e w13 ⟨rfl, hB⟩
          have HO := Lib.hid (G11.out.2.below hB)
          clear hB
          unfold sflt
          go_wp2_with fail
          exact bodyPost_panic rfl (post_err (show D c.E .tryIt (c.R k) (.error (c.T j3).pos) from D.mk1 D3.out fun m h0 => by simp only [body, need, if_true, R_tail, bnd, Bool.false_eq_true, if_false, bad, R_hd, Q1.out, Q7.out, Q10.out, h0]) rfl HO.out)
        · refine (skip_yes c j3 ⟨#[102, 105, 110, 97, 108, 108, 121]⟩ (by decide) _ G8.out.1 hq).mono ?_; rintro e w10 ⟨rfl, hG⟩
          have G14 : Hid (Go1 c w w10 (j3 + 1)) := ⟨hG.1, G8.out.2.trans hG.2⟩
          have O15 := Lib.hid (O9.out.off hG.2 hbl)
          have Q10 := Lib.hid hq
          clear hG hq
          go_wp2_with fail
          have hBd : Below w10.heap.size w10 w10.drew := (Below.refl _ _).drew
          have G19 : Hid (Go1 c w w10.drew (j3 + 1)) := ⟨G14.out.1.below hBd, G14.out.2.below hBd⟩
          have O20 := Lib.hid (O15.out.stay hBd)
          have oS := O20.out.c3
          have hal17 : a5 < w10.drew.heap.size := O20.out.lt
          have hol17 := Lib.hid (fun i hi => (O20.out.2.2.1.lt i hi).2)
          have hlw17 : w.heap.size ≤ w10.drew.heap.size := G19.out.2.size
          obtain ⟨i0, hi, hz0, hz1', hz2⟩ := info_parts info_ptr
          clear hBd
          go_region_law
            (first | (go_simp
                      go_at_call 150
                      refine (IHK.out (j3 + 1) (by omega) _ G19.out.1).mono ?_
                      rintro e w17 ⟨r, hD, hr⟩
                      rcases r with p | ⟨t17, R1⟩
                      · obtain ⟨rfl, hO⟩ := hr
                        have HO := Lib.hid (G19.out.2.trans hO)
                        have D17 := Lib.hid hD
                        clear hD hO
                        unfold sflt
                        exact bodyPost_panic rfl (post_err (show D c.E .tryIt (c.R k) (.error p) from D.mk2 D3.out D17.out fun m h0 h1 => by simp only [body, need, if_true, R_tail, bnd, Bool.false_eq_true, if_false, Q1.out, Q7.out, Q10.out, h0, h1]) rfl HO.out)
                      obtain ⟨j17, vv, rfl, hj17, rfl, hG, hT⟩ := hr
                      obtain ⟨v17, rfl⟩ := hT.ptr
                      have G21 : Hid (Go1 c w w17 j17) := ⟨hG.1, G19.out.2.trans hG.2⟩
                      have O22 := Lib.hid (O20.out.off hG.2 hbl)
                      have T17 := Lib.hid hT
                      have D17 := Lib.hid hD
                      have hown17 := O22.out.2.2.1
                      have hwl17 : w.heap.size ≤ w17.heap.size := G21.out.2.size
                      have oS17 := O22.out.c3
                      have oT17 := cell_alloc oS17 (.cells #[.pointer (some ⟨v17, 0, none⟩)] 59)
                      have hdl := hG.2.size
                      clear hD hG hT)
                   | (go_simp
                      go_at_call 46
                      refine (newNode_any _ _ _ _ _ _).mono ?_
                      rintro e w23 hm
                      obtain ⟨v23, rfl, hT, hB⟩ := node_kids (k := 17) (x := []) (vs := [.pointer (some ⟨v17, 0, none⟩)]) (kids := [t17]) (IsTs.cons T17.out (IsTs.nil _ _)) hdl hm
                      have G24 : Hid (Go1 c w w23 j17) := ⟨G21.out.1.below hB, G21.out.2.below hB⟩
                      have O25 := Lib.hid (O22.out.stay hB)
                      have T23 := Lib.hid hT
                      have hown23 := O25.out.2.2.1
                      have hwl23 : w.heap.size ≤ w23.heap.size := G24.out.2.size
                      have oS23 := O25.out.c3
                      have oT23 := cell_alloc oS23 (.cells #[.pointer (some ⟨v23, 0, none⟩)] 59)
                      clear hT hB hm)
                   | (refine step_append_lies _ rfl _ _ 87 rfl w.heap.size 59 i0 _ 1 8 Tryz.underlying87 hi hz0 hz1' hz2 rfl (by decide) _ _ _ rfl (hown23.alloc _) ⟨w23.heap.size, 0, none⟩ 1 1 [.pointer (some ⟨v23, 0, none⟩)] rfl rfl (news_one _ _) (fun u hu => by simp at hu; subst hu; rfl) (by decide) (by unfold maxLen; simp) (by simp) (by simp; omega) (w23.heap.size + 1) (by simp) ?_
                      intro g cap w'' hown'' hgrow hat hlt''
                      have O18 := Lib.hid (O25.out.push T23.out hlw17 hal17 hol17.out hown'' hgrow hat)
                      have hbel := grown_old hown23 hwl23 hgrow
                      have GO18 : Hid (Go1 c w w'' j17) := G24.out.old hbel hgl hbl h0l
                      have oc := (O25.out.grown hgrow).1
                      have of := (O25.out.grown hgrow).2
                      clear hown'' hgrow hat hlt'' hbel))
          all_goals
            have hlo18 : w.heap.size ≤ a5 := O18.out.1
            have GP18 := Lib.hid (GO18.out.set (p := ⟨a5, 3, none⟩) hlo18 hgl hbl h0l (.slice (some ⟨g, 0, none⟩) 2 cap))
            generalize hw18 : World.setCell w'' _ _ = u18
            have OP18 : Hid (Opn w.heap.size u18 a5 15 [] (.slice (some ⟨g, 0, none⟩) 2 cap) ([(.pointer (some ⟨v3, 0, none⟩))] ++ [.pointer (some ⟨v23, 0, none⟩)]) ([t3] ++ [(nd 17 [] [t17])])) := by rw [← hw18]; exact O18
            have G18 : Hid (Go1 c w u18 j17) := by rw [← hw18]; exact GP18
            clear hi hz0 hz1' hz2 oc of oS hdl hown17 oS17 oT17 GO18 GP18 O18 hw18 hown23 oS23 oT23
            have oq := OP18.out.c3
            go_wp2_with fail
            clear oq
            go_ret
            exact post_ok (show D c.E .tryIt (c.R k) (.ok (nd 15 [] ([t3] ++ [(nd 17 [] [t17])]), c.R j17)) from D.mk2 D3.out D17.out fun m h0 h1 => by simp only [body, need, if_true, R_tail, bnd, Bool.false_eq_true, if_false, ret, List.nil_append, List.cons_append, Q1.out, Q7.out, Q10.out, h0, h1]) (by omega) rfl G18.out.1 G18.out.2 OP18.out.isT
      · refine (is_at c j3 ⟨#[99, 97, 116, 99, 104]⟩ _ G6.out.1 hq).mono ?_; rintro e w7 ⟨rfl, hB⟩
        have G26 : Hid (Go1 c w w7 j3) := ⟨G6.out.1.below hB, G6.out.2.below hB⟩
        have O27 := Lib.hid (O5.out.stay hB)
        have Q7 := Lib.hid hq
        clear hB hq
        go_wp2_with fail
        have hBd : Below w7.heap.size w7 w7.drew := (Below.refl _ _).drew
        have G31 : Hid (Go1 c w w7.drew j3) := ⟨G26.out.1.below hBd, G26.out.2.below hBd⟩
        have O32 := Lib.hid (O27.out.stay hBd)
        have oS := O32.out.c3
        have hal29 : a5 < w7.drew.heap.size := O32.out.lt
        have hol29 := Lib.hid (fun i hi => (O32.out.2.2.1.lt i hi).2)
        have hlw29 : w.heap.size ≤ w7.drew.heap.size := G31.out.2.size
        obtain ⟨i0, hi, hz0, hz1', hz2⟩ := info_parts info_ptr
        clear hBd
        go_region_law
          (first | (go_simp
                    go_at_call 198
                    refine (IHC.out j3 (by omega) _ G31.out.1).mono ?_
                    rintro e w29 ⟨r, hD, hr⟩
                    rcases r with p | ⟨t29, R1⟩
                    · obtain ⟨rfl, hO⟩ := hr
                      have HO := Lib.hid (G31.out.2.trans hO)
                      have D29 := Lib.hid hD
                      clear hD hO
                      unfold sflt
                      exact bodyPost_panic rfl (post_err (show D c.E .tryIt (c.R k) (.error p) from D.mk2 D3.out D29.out fun m h0 h1 => by simp only [body, need, if_true, R_tail, bnd, Q1.out, Q7.out, h0, h1]) rfl HO.out)
                    obtain ⟨j29, vv, rfl, hj29, rfl, hG, hT⟩ := hr
                    obtain ⟨v29, rfl⟩ := hT.ptr
                    have G33 : Hid (Go1 c w w29 j29) := ⟨hG.1, G31.out.2.trans hG.2⟩
                    have O34 := Lib.hid (O32.out.off hG.2 hbl)
                    have T29 := Lib.hid hT
                    have D29 := Lib.hid hD
                    have hown29 := O34.out.2.2.1
                    have hwl29 : w.heap.size ≤ w29.heap.size := G33.out.2.size
                    have oS29 := O34.out.c3
                    have oT29 := cell_alloc oS29 (.cells #[.pointer (some ⟨v29, 0, none⟩)] 59)
                    have hdl := hG.2.size
                    clear hD hG hT)
                 | (refine step_append_lies _ rfl _ _ 87 rfl w.heap.size 59 i0 _ 1 8 Tryz.underlying87 hi hz0 hz1' hz2 rfl (by decide) _ _ _ rfl (hown29.alloc _) ⟨w29.heap.size, 0, none⟩ 1 1 [.pointer (some ⟨v29, 0, none⟩)] rfl rfl (news_one _ _) (fun u hu => by simp at hu; subst hu; rfl) (by decide) (by unfold maxLen; simp) (by simp) (by simp; omega) (w29.heap.size + 1) (by simp) ?_
                    intro g cap w'' hown'' hgrow hat hlt''
                    have O30 := Lib.hid (O34.out.push T29.out hlw29 hal29 hol29.out hown'' hgrow hat)
                    have hbel := grown_old hown29 hwl29 hgrow
                    have GO30 : Hid (Go1 c w w'' j29) := G33.out.old hbel hgl hbl h0l
                    have oc := (O34.out.grown hgrow).1
                    have of := (O34.out.grown hgrow).2
                    clear hown'' hgrow hat hlt'' hbel))
        all_goals
          have hlo30 : w.heap.size ≤ a5 := O30.out.1
          have GP30 := Lib.hid (GO30.out.set (p := ⟨a5, 3, none⟩) hlo30 hgl hbl h0l (.slice (some ⟨g, 0, none⟩) 2 cap))
          generalize hw30 : World.setCell w'' _ _ = u30
          have OP30 : Hid (Opn w.heap.size u30 a5 15 [] (.slice (some ⟨g, 0, none⟩) 2 cap) ([(.pointer (some ⟨v3, 0, none⟩))] ++ [.pointer (some ⟨v29, 0, none⟩)]) ([t3] ++ [t29])) := by rw [← hw30]; exact O30
          have G30 : Hid (Go1 c w u30 j29) := by rw [← hw30]; exact GP30
          clear hi hz0 hz1' hz2 oc of oS hdl hown29 oS29 oT29 GO30 GP30 O30 hw30
          go_wp2_with fail
          cases hq : isF c.E [102, 105, 110, 97, 108, 108, 121] (c.R j29)
          · refine (skip_no c j29 ⟨#[102, 105, 110, 97, 108, 108, 121]⟩ _ G30.out.1 hq).mono ?_; rintro e w35 ⟨rfl, hB⟩
            have G36 : Hid (Go1 c w w35 j29) := ⟨G30.out.1.below hB, G30.out.2.below hB⟩
            have O37 := Lib.hid (OP30.out.stay hB)
            have Q35 := Lib.hid hq
            clear hB hq
            have oq := O37.out.c3
            go_wp2_with fail
            clear oq
            go_ret
            exact post_ok (show D c.E .tryIt (c.R k) (.ok (nd 15 [] ([t3] ++ [t29]), c.R j29)) from D.mk2 D3.out D29.out fun m h0 h1 => by simp only [body, need, if_true, R_tail, bnd, Bool.false_eq_true, if_false, ret, List.nil_append, List.cons_append, Q1.out, Q7.out, Q35.out, h0, h1]) (by omega) rfl G36.out.1 G36.out.2 O37.out.isT
          · refine (skip_yes c j29 ⟨#[102, 105, 110, 97, 108, 108, 121]⟩ (by decide) _ G30.out.1 hq).mono ?_; rintro e w35 ⟨rfl, hG⟩
            have G38 : Hid (Go1 c w w35 (j29 + 1)) := ⟨hG.1, G30.out.2.trans hG.2⟩
            have O39 := Lib.hid (OP30.out.off hG.2 hbl)
            have Q35 := Lib.hid hq
            clear hG hq
            go_wp2_with fail
            have hBd : Below w35.heap.size w35 w35.drew := (Below.refl _ _).drew
            have G43 : Hid (Go1 c w w35.drew (j29 + 1)) := ⟨G38.out.1.below hBd, G38.out.2.below hBd⟩
            have O44 := Lib.hid (O39.out.stay hBd)
            have oS := O44.out.c3
            have hal41 : a5 < w35.drew.heap.size := O44.out.lt
            have hol41 := Lib.hid (fun i hi => (O44.out.2.2.1.lt i hi).2)
            have hlw41 : w.heap.size ≤ w35.drew.heap.size := G43.out.2.size
            obtain ⟨i0, hi, hz0, hz1', hz2⟩ := info_parts info_ptr
            clear hBd
            go_region_law
              (first | (go_simp
                        go_at_call 150
                        refine (IHK.out (j29 + 1) (by omega) _ G43.out.1).mono ?_
                        rintro e w41 ⟨r, hD, hr⟩
                        rcases r with p | ⟨t41, R1⟩
                        · obtain ⟨rfl, hO⟩ := hr
                          have HO := Lib.hid (G43.out.2.trans hO)
                          have D41 := Lib.hid hD
                          clear hD hO
                          unfold sflt
                          exact bodyPost_panic rfl (post_err (show D c.E .tryIt (c.R k) (.error p) from D.mk3 D3.out D29.out D41.out fun m h0 h1 h2 => by simp only [body, need, if_true, R_tail, bnd, Q1.out, Q7.out, Q35.out, h0, h1, h2]) rfl HO.out)
                        obtain ⟨j41, vv, rfl, hj41, rfl, hG, hT⟩ := hr
                        obtain ⟨v41, rfl⟩ := hT.ptr
                        have G45 : Hid (Go1 c w w41 j41) := ⟨hG.1, G43.out.2.trans hG.2⟩
                        have O46 := Lib.hid (O44.out.off hG.2 hbl)
                        have T41 := Lib.hid hT
                        have D41 := Lib.hid hD
                        have hown41 := O46.out.2.2.1
                        have hwl41 : w.heap.size ≤ w41.heap.size := G45.out.2.size
                        have oS41 := O46.out.c3
                        have oT41 := cell_alloc oS41 (.cells #[.pointer (some ⟨v41, 0, none⟩)] 59)
                        have hdl := hG.2.size
                        clear hD hG hT)
                     | (go_simp
                        go_at_call 46
                        refine (newNode_any _ _ _ _ _ _).mono ?_
                        rintro e w47 hm
                        obtain ⟨v47, rfl, hT, hB⟩ := node_kids (k := 17) (x := []) (vs := [.pointer (some ⟨v41, 0, none⟩)]) (kids := [t41]) (IsTs.cons T41.out (IsTs.nil _ _)) hdl hm
                        have G48 : Hid (Go1 c w w47 j41) := ⟨G45.out.1.below hB, G45.out.2.below hB⟩
                        have O49 := Lib.hid (O46.out.stay hB)
                        have T47 := Lib.hid hT
                        have hown47 := O49.out.2.2.1
                        have hwl47 : w.heap.size ≤ w47.heap.size := G48.out.2.size
                        have oS47 := O49.out.c3
                        have oT47 := cell_alloc oS47 (.cells #[.pointer (some ⟨v47, 0, none⟩)] 59)
                        clear hT hB hm)
                     | (refine step_append_lies _ rfl _ _ 87 rfl w.heap.size 59 i0 _ 1 8 Tryz.underlying87 hi hz0 hz1' hz2 rfl (by decide) _ _ _ rfl (hown47.alloc _) ⟨w47.heap.size, 0, none⟩ 1 1 [.pointer (some ⟨v47, 0, none⟩)] rfl rfl (news_one _ _) (fun u hu => by simp at hu; subst hu; rfl) (by decide) (by unfold maxLen; simp) (by simp) (by simp; omega) (w47.heap.size + 1) (by simp) ?_
                        intro g cap w'' hown'' hgrow hat hlt''
                        have O42 := Lib.hid (O49.out.push T47.out hlw41 hal41 hol41.out hown'' hgrow hat)
                        have hbel := grown_old hown47 hwl47 hgrow
                        have GO42 : Hid (Go1 c w w'' j41) := G48.out.old hbel hgl hbl h0l
                        have oc := (O49.out.grown hgrow).1
                        have of := (O49.out.grown hgrow).2
                        clear hown'' hgrow hat hlt'' hbel))
            all_goals
              have hlo42 : w.heap.size ≤ a5 := O42.out.1
              have GP42 := Lib.hid (GO42.out.set (p := ⟨a5, 3, none⟩) hlo42 hgl hbl h0l (.slice (some ⟨g, 0, none⟩) 3 cap))
              generalize hw42 : World.setCell w'' _ _ = u42
              have OP42 : Hid (Opn w.heap.size u42 a5 15 [] (.slice (some ⟨g, 0, none⟩) 3 cap) (([(.pointer (some ⟨v3, 0, none⟩))] ++ [.pointer (some ⟨v29, 0, none⟩)]) ++ [.pointer (some ⟨v47, 0, none⟩)]) (([t3] ++ [t29]) ++ [(nd 17 [] [t41])])) := by rw [← hw42]; exact O42
              have G42 : Hid (Go1 c w u42 j41) := by rw [← hw42]; exact GP42
              clear hi hz0 hz1' hz2 oc of oS hdl hown41 oS41 oT41 GO42 GP42 O42 hw42 hown47 oS47 oT47
              have oq := OP42.out.c3
              go_wp2_with fail
              clear oq
              go_ret
              exact post_ok (show D c.E .tryIt (c.R k) (.ok (nd 15 [] (([t3] ++ [t29]) ++ [(nd 17 [] [t41])]), c.R j41)) from D.mk3 D3.out D29.out D41.out fun m h0 h1 h2 => by simp only [body, need, if_true, R_tail, bnd, ret, List.nil_append, List.cons_append, Q1.out, Q7.out, Q35.out, h0, h1, h2]) (by omega) rfl G42.out.1 G42.out.2 OP42.out.isT
end Go.Proofs.YtnkfodelgpidkaaGreatDoor
