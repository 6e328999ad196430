/- Nodes that are given more kids. -/
import Derived.Test.YtnkfodelgpidkaaGreatDoorOp
namespace Go.Proofs.YtnkfodelgpidkaaGreatDoor
open Go.RowKit
set_option linter.unusedVariables false
set_option linter.unusedSimpArgs false

theorem news_one (w : World) (v : Value) : ∀ j u, [v][j]? = some u → (w.alloc (.cells #[v] 59)).cell? ((⟨w.heap.size, 0, none⟩ : Addr).add j) = some u := by
  intro j u hj
  match j, hj with
  | 0, hj => simp at hj; subst hj; simp [Addr.add]

set_option maxRecDepth 100000 in
set_option maxHeartbeats 1000000 in
theorem decl_any (c : Cx) (k : Nat) (iha : ∀ j, k < j → Ok c .assign 199 #[c.p] j) : Ok c .decl 194 #[c.p] k := by
  intro w h
  have hbl := h.lt
  have hfew := h.ok.few
  have G0 : Hid (Go1 c w w k) := ⟨h, Off.refl _ _⟩
  have IHA := Lib.hid iha
  clear h iha
  have hgl : c.g < w.heap.size := G0.out.1.ltg
  have h0l : c.w0.heap.size ≤ w.heap.size := G0.out.1.base.size
  go_enter Tryz.func194, Tryz.ntmps194
  go_wp2_with fail
  by_cases hq : (c.T k).kind = 1
  · refine (sname_yes c k _ G0.out.1 hq).mono ?_; rintro e w1 ⟨rfl, hG⟩
    have G2 : Hid (Go1 c w w1 (k + 1)) := ⟨hG.1, G0.out.2.trans hG.2⟩
    have Q1 := Lib.hid hq
    clear hG hq
    go_wp2_with fail
    refine (newNode_any _ _ _ _ _ _).mono ?_; rintro e w3 hm
    obtain ⟨a3, rfl, hO, hB⟩ := opn_none (k := 4) (x := (c.T k).text) G2.out.2.size hm
    have G4 : Hid (Go1 c w w3 (k + 1)) := ⟨G2.out.1.below hB, G2.out.2.below hB⟩
    have O3 := Lib.hid hO
    clear hO hB hm
    go_wp2_with fail
    cases hq : isF c.E [61] (c.R (k + 1))
    · refine (skip_no c (k + 1) ⟨#[61]⟩ _ G4.out.1 hq).mono ?_; rintro e w5 ⟨rfl, hB⟩
      have G6 : Hid (Go1 c w w5 (k + 1)) := ⟨G4.out.1.below hB, G4.out.2.below hB⟩
      have O7 := Lib.hid (O3.out.stay hB)
      have Q5 := Lib.hid hq
      clear hB hq
      go_wp2_with fail
      go_ret
      exact post_ok (show D c.E .decl (c.R k) (.ok (nd 4 (c.T k).text [], c.R (k + 1))) from D.mk0 fun m => by simp only [body, nameK, if_true, R_tail, R_hd, Bool.false_eq_true, if_false, ret, List.nil_append, List.cons_append, Q1.out, Q5.out]) (by omega) rfl G6.out.1 G6.out.2 O7.out.isT
    · refine (skip_yes c (k + 1) ⟨#[61]⟩ (by decide) _ G4.out.1 hq).mono ?_; rintro e w5 ⟨rfl, hG⟩
      have G8 : Hid (Go1 c w w5 ((k + 1) + 1)) := ⟨hG.1, G4.out.2.trans hG.2⟩
      have O9 := Lib.hid (O3.out.off hG.2 hbl)
      have Q5 := Lib.hid hq
      clear hG hq
      go_wp2_with fail
      have hBd : Below w5.heap.size w5 w5.drew := (Below.refl _ _).drew
      have G13 : Hid (Go1 c w w5.drew ((k + 1) + 1)) := ⟨G8.out.1.below hBd, G8.out.2.below hBd⟩
      have O14 := Lib.hid (O9.out.stay hBd)
      have oS := O14.out.c3
      have hal11 : a3 < w5.drew.heap.size := O14.out.lt
      have hol11 := Lib.hid (fun i hi => (O14.out.2.2.1.lt i hi).2)
      have hlw11 : w.heap.size ≤ w5.drew.heap.size := G13.out.2.size
      obtain ⟨i0, hi, hz0, hz1', hz2⟩ := info_parts info_ptr
      clear hBd
      go_region_law
        (first | (go_simp
                  go_at_call 199
                  refine (IHA.out ((k + 1) + 1) (by omega) _ G13.out.1).mono ?_
                  rintro e w11 ⟨r, hD, hr⟩
                  rcases r with p | ⟨t11, R1⟩
                  · obtain ⟨rfl, hO⟩ := hr
                    have HO := Lib.hid (G13.out.2.trans hO)
                    have D11 := Lib.hid hD
                    clear hD hO
                    unfold sflt
                    exact bodyPost_panic rfl (post_err (show D c.E .decl (c.R k) (.error p) from D.mk1 D11.out fun m h0 => by simp only [body, nameK, if_true, R_tail, R_hd, bnd, Q1.out, Q5.out, h0]) rfl HO.out)
                  obtain ⟨j11, vv, rfl, hj11, rfl, hG, hT⟩ := hr
                  obtain ⟨v11, rfl⟩ := hT.ptr
                  have G15 : Hid (Go1 c w w11 j11) := ⟨hG.1, G13.out.2.trans hG.2⟩
                  have O16 := Lib.hid (O14.out.off hG.2 hbl)
                  have T11 := Lib.hid hT
                  have D11 := Lib.hid hD
                  have hown11 := O16.out.2.2.1
                  have hwl11 : w.heap.size ≤ w11.heap.size := G15.out.2.size
                  have oS11 := O16.out.c3
                  have oT11 := cell_alloc oS11 (.cells #[.pointer (some ⟨v11, 0, none⟩)] 59)
                  have hdl := hG.2.size
                  clear hD hG hT)
               | (refine step_append_lies _ rfl _ _ 87 rfl w.heap.size 59 i0 _ 1 8 Tryz.underlying87 hi hz0 hz1' hz2 rfl (by decide) _ _ _ rfl (hown11.alloc _) ⟨w11.heap.size, 0, none⟩ 1 1 [.pointer (some ⟨v11, 0, none⟩)] rfl rfl (news_one _ _) (fun u hu => by simp at hu; subst hu; rfl) (by decide) (by unfold maxLen; simp) (by simp) (by simp; omega) (w11.heap.size + 1) (by simp) ?_
                  intro g cap w'' hown'' hgrow hat hlt''
                  have O12 := Lib.hid (O16.out.push T11.out hlw11 hal11 hol11.out hown'' hgrow hat)
                  have hbel := grown_old hown11 hwl11 hgrow
                  have GO12 : Hid (Go1 c w w'' j11) := G15.out.old hbel hgl hbl h0l
                  have oc := (O16.out.grown hgrow).1
                  have of := (O16.out.grown hgrow).2
                  clear hown'' hgrow hat hlt'' hbel))
      all_goals
        have hlo12 : w.heap.size ≤ a3 := O12.out.1
        have GP12 := Lib.hid (GO12.out.set (p := ⟨a3, 3, none⟩) hlo12 hgl hbl h0l (.slice (some ⟨g, 0, none⟩) 1 cap))
        generalize hw12 : World.setCell w'' _ _ = u12
        have OP12 : Hid (Opn w.heap.size u12 a3 4 (c.T k).text (.slice (some ⟨g, 0, none⟩) 1 cap) ([] ++ [.pointer (some ⟨v11, 0, none⟩)]) ([] ++ [t11])) := by rw [← hw12]; exact O12
        have G12 : Hid (Go1 c w u12 j11) := by rw [← hw12]; exact GP12
        clear hi hz0 hz1' hz2 oc of oS hdl hown11 oS11 oT11 GO12 GP12 O12 hw12
        go_wp2_with fail
        go_ret
        exact post_ok (show D c.E .decl (c.R k) (.ok (nd 4 (c.T k).text ([] ++ [t11]), c.R j11)) from D.mk1 D11.out fun m h0 => by simp only [body, nameK, if_true, R_tail, R_hd, bnd, ret, List.nil_append, List.cons_append, Q1.out, Q5.out, h0]) (by omega) rfl G12.out.1 G12.out.2 OP12.out.isT
  · refine (sname_no c k _ G0.out.1 hq).mono ?_; rintro e w1 ⟨rfl, hB⟩
    have HO := Lib.hid (G0.out.2.below hB)
    have Q1 := Lib.hid hq
    clear hB hq
    unfold sflt
    go_wp2_with fail
    exact bodyPost_panic rfl (post_err (show D c.E .decl (c.R k) (.error (c.T k).pos) from D.mk0 fun m => by simp only [body, nameK, if_false, bad, R_hd, Q1.out]) rfl HO.out)
set_option maxRecDepth 100000 in
set_option maxHeartbeats 1000000 in
theorem ifElse_any (c : Cx) (k : Nat) (ihb : ∀ j, k < j → Ok c .bracketed 195 #[c.p] j) (ihs : ∀ j, k < j → Ok c .statement 89 #[c.p] j) : Ok c .ifElse 153 #[c.p] k := by
  intro w h
  have hbl := h.lt
  have hfew := h.ok.few
  have G0 : Hid (Go1 c w w k) := ⟨h, Off.refl _ _⟩
  have IHB := Lib.hid ihb
  have IHS := Lib.hid ihs
  clear h ihb ihs
  have hgl : c.g < w.heap.size := G0.out.1.ltg
  have h0l : c.w0.heap.size ≤ w.heap.size := G0.out.1.base.size
  go_enter Tryz.func153, Tryz.ntmps153
  go_wp2_with fail
  cases hq : isF c.E [105, 102] (c.R k)
  · refine (need_no c k ⟨#[105, 102]⟩ _ G0.out.1 hq).mono ?_; rintro e w1 ⟨rfl, hB⟩
    have HO := Lib.hid (G0.out.2.below hB)
    have Q1 := Lib.hid hq
    clear hB hq
    unfold sflt
    go_wp2_with fail
    exact bodyPost_panic rfl (post_err (show D c.E .ifElse (c.R k) (.error (c.T k).pos) from D.mk0 fun m => by simp only [body, need, Bool.false_eq_true, if_false, bad, R_hd, Q1.out]) rfl HO.out)
  · refine (need_yes c k ⟨#[105, 102]⟩ (by decide) _ G0.out.1 hq).mono ?_; rintro e w1 ⟨rfl, hG⟩
    have G2 : Hid (Go1 c w w1 (k + 1)) := ⟨hG.1, G0.out.2.trans hG.2⟩
    have Q1 := Lib.hid hq
    clear hG hq
    go_wp2_with fail
    refine (IHB.out (k + 1) (by omega) _ G2.out.1).mono ?_; rintro e w3 ⟨r, hD, hr⟩
    rcases r with p | ⟨t3, R1⟩
    · obtain ⟨rfl, hO⟩ := hr
      have HO := Lib.hid (G2.out.2.trans hO)
      have D3 := Lib.hid hD
      clear hD hO
      unfold sflt
      go_wp2_with fail
      exact bodyPost_panic rfl (post_err (show D c.E .ifElse (c.R k) (.error p) from D.mk1 D3.out fun m h0 => by simp only [body, need, if_true, R_tail, bnd, Q1.out, h0]) rfl HO.out)
    · obtain ⟨j3, vv, rfl, hj3, rfl, hG, hT⟩ := hr
      obtain ⟨v3, rfl⟩ := hT.ptr
      have G4 : Hid (Go1 c w w3 j3) := ⟨hG.1, G2.out.2.trans hG.2⟩
      have T3 := Lib.hid (hT.lower G2.out.2.size)
      have D3 := Lib.hid hD
      clear hD hG hT
      go_wp2_with fail
      refine (IHS.out j3 (by omega) _ G4.out.1).mono ?_; rintro e w5 ⟨r, hD, hr⟩
      rcases r with p | ⟨t5, R1⟩
      · obtain ⟨rfl, hO⟩ := hr
        have HO := Lib.hid (G4.out.2.trans hO)
        have D5 := Lib.hid hD
        clear hD hO
        unfold sflt
        go_wp2_with fail
        exact bodyPost_panic rfl (post_err (show D c.E .ifElse (c.R k) (.error p) from D.mk2 D3.out D5.out fun m h0 h1 => by simp only [body, need, if_true, R_tail, bnd, Q1.out, h0, h1]) rfl HO.out)
      · obtain ⟨j5, vv, rfl, hj5, rfl, hG, hT⟩ := hr
        obtain ⟨v5, rfl⟩ := hT.ptr
        have G6 : Hid (Go1 c w w5 j5) := ⟨hG.1, G4.out.2.trans hG.2⟩
        have T7 := Lib.hid (T3.out.off hG.2 hbl)
        have T5 := Lib.hid (hT.lower G4.out.2.size)
        have D5 := Lib.hid hD
        clear hD hG hT
        go_wp2_with fail
        refine (newNode_any _ _ _ _ _ _).mono ?_; rintro e w8 hm
        obtain ⟨a8, rfl, hO, hB⟩ := opn_kids (k := 7) (x := []) (vs := [(.pointer (some ⟨v3, 0, none⟩)), (.pointer (some ⟨v5, 0, none⟩))]) (kids := [t3, t5]) (by simp) (by simp) (IsTs.cons T7.out (IsTs.cons T5.out (IsTs.nil _ _))) G6.out.2.size hm
        have G9 : Hid (Go1 c w w8 j5) := ⟨G6.out.1.below hB, G6.out.2.below hB⟩
        have O8 := Lib.hid hO
        obtain ⟨ov8, hov8⟩ : ∃ v, v = Value.slice (some ⟨w5.heap.size, 0, none⟩) 2 2 := ⟨_, rfl⟩
        clear hO hB hm
        go_wp2_with fail
        cases hq : isF c.E [101, 108, 115, 101] (c.R j5)
        · refine (skip_no c j5 ⟨#[101, 108, 115, 101]⟩ _ G9.out.1 hq).mono ?_; rintro e w10 ⟨rfl, hB⟩
          have G11 : Hid (Go1 c w w10 j5) := ⟨G9.out.1.below hB, G9.out.2.below hB⟩
          have O12 := Lib.hid (O8.out.stay hB)
          have Q10 := Lib.hid hq
          clear hB hq
          go_wp2_with fail
          go_ret
          exact post_ok (show D c.E .ifElse (c.R k) (.ok (nd 7 [] [t3, t5], c.R j5)) from D.mk2 D3.out D5.out fun m h0 h1 => by simp only [body, need, if_true, R_tail, bnd, Bool.false_eq_true, if_false, ret, List.nil_append, List.cons_append, Q1.out, Q10.out, h0, h1]) (by omega) rfl G11.out.1 G11.out.2 O12.out.isT
        · refine (skip_yes c j5 ⟨#[101, 108, 115, 101]⟩ (by decide) _ G9.out.1 hq).mono ?_; rintro e w10 ⟨rfl, hG⟩
          have G13 : Hid (Go1 c w w10 (j5 + 1)) := ⟨hG.1, G9.out.2.trans hG.2⟩
          have O14 := Lib.hid (O8.out.off hG.2 hbl)
          have Q10 := Lib.hid hq
          clear hG hq
          go_wp2_with fail
          have hBd : Below w10.heap.size w10 w10.drew := (Below.refl _ _).drew
          have G18 : Hid (Go1 c w w10.drew (j5 + 1)) := ⟨G13.out.1.below hBd, G13.out.2.below hBd⟩
          have O19 := Lib.hid (O14.out.stay hBd)
          have oS := O19.out.c3
          have hal16 : a8 < w10.drew.heap.size := O19.out.lt
          have hol16 := Lib.hid (fun i hi => (O19.out.2.2.1.lt i hi).2)
          have hlw16 : w.heap.size ≤ w10.drew.heap.size := G18.out.2.size
          obtain ⟨i0, hi, hz0, hz1', hz2⟩ := info_parts info_ptr
          clear hBd
          go_region_law
            (first | (go_simp
                      go_at_call 89
                      refine (IHS.out (j5 + 1) (by omega) _ G18.out.1).mono ?_
                      rintro e w16 ⟨r, hD, hr⟩
                      rcases r with p | ⟨t16, R1⟩
                      · obtain ⟨rfl, hO⟩ := hr
                        have HO := Lib.hid (G18.out.2.trans hO)
                        have D16 := Lib.hid hD
                        clear hD hO
                        unfold sflt
                        exact bodyPost_panic rfl (post_err (show D c.E .ifElse (c.R k) (.error p) from D.mk3 D3.out D5.out D16.out fun m h0 h1 h2 => by simp only [body, need, if_true, R_tail, bnd, Q1.out, Q10.out, h0, h1, h2]) rfl HO.out)
                      obtain ⟨j16, vv, rfl, hj16, rfl, hG, hT⟩ := hr
                      obtain ⟨v16, rfl⟩ := hT.ptr
                      have G20 : Hid (Go1 c w w16 j16) := ⟨hG.1, G18.out.2.trans hG.2⟩
                      have O21 := Lib.hid (O19.out.off hG.2 hbl)
                      have T16 := Lib.hid hT
                      have D16 := Lib.hid hD
                      have hown16 := O21.out.2.2.1
                      have hwl16 : w.heap.size ≤ w16.heap.size := G20.out.2.size
                      have oS16 := O21.out.c3
                      have oT16 := cell_alloc oS16 (.cells #[.pointer (some ⟨v16, 0, none⟩)] 59)
                      have hdl := hG.2.size
                      clear hD hG hT)
                   | (refine step_append_lies _ rfl _ _ 87 rfl w.heap.size 59 i0 _ 1 8 Tryz.underlying87 hi hz0 hz1' hz2 rfl (by decide) _ _ _ rfl (hown16.alloc _) ⟨w16.heap.size, 0, none⟩ 1 1 [.pointer (some ⟨v16, 0, none⟩)] rfl rfl (news_one _ _) (fun u hu => by simp at hu; subst hu; rfl) (by decide) (by unfold maxLen; simp) (by simp) (by simp; omega) (w16.heap.size + 1) (by simp) ?_
                      intro g cap w'' hown'' hgrow hat hlt''
                      have O17 := Lib.hid (O21.out.push T16.out hlw16 hal16 hol16.out hown'' hgrow hat)
                      have hbel := grown_old hown16 hwl16 hgrow
                      have GO17 : Hid (Go1 c w w'' j16) := G20.out.old hbel hgl hbl h0l
                      have oc := (O21.out.grown hgrow).1
                      have of := (O21.out.grown hgrow).2
                      clear hown'' hgrow hat hlt'' hbel))
          all_goals
            have hlo17 : w.heap.size ≤ a8 := O17.out.1
            have GP17 := Lib.hid (GO17.out.set (p := ⟨a8, 3, none⟩) hlo17 hgl hbl h0l (.slice (some ⟨g, 0, none⟩) 3 cap))
            generalize hw17 : World.setCell w'' _ _ = u17
            have OP17 : Hid (Opn w.heap.size u17 a8 7 [] (.slice (some ⟨g, 0, none⟩) 3 cap) ([(.pointer (some ⟨v3, 0, none⟩)), (.pointer (some ⟨v5, 0, none⟩))] ++ [.pointer (some ⟨v16, 0, none⟩)]) ([t3, t5] ++ [t16])) := by rw [← hw17]; exact O17
            have G17 : Hid (Go1 c w u17 j16) := by rw [← hw17]; exact GP17
            clear hi hz0 hz1' hz2 oc of oS hdl hown16 oS16 oT16 GO17 GP17 O17 hw17
            go_wp2_with fail
            go_ret
            exact post_ok (show D c.E .ifElse (c.R k) (.ok (nd 7 [] ([t3, t5] ++ [t16]), c.R j16)) from D.mk3 D3.out D5.out D16.out fun m h0 h1 h2 => by simp only [body, need, if_true, R_tail, bnd, ret, List.nil_append, List.cons_append, Q1.out, Q10.out, h0, h1, h2]) (by omega) rfl G17.out.1 G17.out.2 OP17.out.isT
set_option maxRecDepth 100000 in
set_option maxHeartbeats 1000000 in
theorem giveBack_any (c : Cx) (k : Nat) (ihe : ∀ j, k < j → Ok c .expr 161 #[c.p] j) : Ok c .giveBack 158 #[c.p] k := by
  intro w h
  have hbl := h.lt
  have hfew := h.ok.few
  have G0 : Hid (Go1 c w w k) := ⟨h, Off.refl _ _⟩
  have IHE := Lib.hid ihe
  clear h ihe
  have hgl : c.g < w.heap.size := G0.out.1.ltg
  have h0l : c.w0.heap.size ≤ w.heap.size := G0.out.1.base.size
  go_enter Tryz.func158, Tryz.ntmps158
  go_wp2_with fail
  cases hq : isF c.E [114, 101, 116, 117, 114, 110] (c.R k)
  · refine (need_no c k ⟨#[114, 101, 116, 117, 114, 110]⟩ _ G0.out.1 hq).mono ?_; rintro e w1 ⟨rfl, hB⟩
    have HO := Lib.hid (G0.out.2.below hB)
    have Q1 := Lib.hid hq
    clear hB hq
    unfold sflt
    go_wp2_with fail
    exact bodyPost_panic rfl (post_err (show D c.E .giveBack (c.R k) (.error (c.T k).pos) from D.mk0 fun m => by simp only [body, need, Bool.false_eq_true, if_false, bad, R_hd, Q1.out]) rfl HO.out)
  · refine (need_yes c k ⟨#[114, 101, 116, 117, 114, 110]⟩ (by decide) _ G0.out.1 hq).mono ?_; rintro e w1 ⟨rfl, hG⟩
    have G2 : Hid (Go1 c w w1 (k + 1)) := ⟨hG.1, G0.out.2.trans hG.2⟩
    have Q1 := Lib.hid hq
    clear hG hq
    go_wp2_with fail
    refine (newNode_any _ _ _ _ _ _).mono ?_; rintro e w3 hm
    obtain ⟨a3, rfl, hO, hB⟩ := opn_none (k := 13) (x := []) G2.out.2.size hm
    have G4 : Hid (Go1 c w w3 (k + 1)) := ⟨G2.out.1.below hB, G2.out.2.below hB⟩
    have O3 := Lib.hid hO
    clear hO hB hm
    go_wp2_with fail
    cases hq : isF c.E [59] (c.R (k + 1))
    · refine (is_at c (k + 1) ⟨#[59]⟩ _ G4.out.1 hq).mono ?_; rintro e w5 ⟨rfl, hB⟩
      have G6 : Hid (Go1 c w w5 (k + 1)) := ⟨G4.out.1.below hB, G4.out.2.below hB⟩
      have O7 := Lib.hid (O3.out.stay hB)
      have Q5 := Lib.hid hq
      clear hB hq
      go_wp2_with fail
      have hBd : Below w5.heap.size w5 w5.drew := (Below.refl _ _).drew
      have G11 : Hid (Go1 c w w5.drew (k + 1)) := ⟨G6.out.1.below hBd, G6.out.2.below hBd⟩
      have O12 := Lib.hid (O7.out.stay hBd)
      have oS := O12.out.c3
      have hal9 : a3 < w5.drew.heap.size := O12.out.lt
      have hol9 := Lib.hid (fun i hi => (O12.out.2.2.1.lt i hi).2)
      have hlw9 : w.heap.size ≤ w5.drew.heap.size := G11.out.2.size
      obtain ⟨i0, hi, hz0, hz1', hz2⟩ := info_parts info_ptr
      clear hBd
      go_region_law
        (first | (go_simp
                  go_at_call 161
                  refine (IHE.out (k + 1) (by omega) _ G11.out.1).mono ?_
                  rintro e w9 ⟨r, hD, hr⟩
                  rcases r with p | ⟨t9, R1⟩
                  · obtain ⟨rfl, hO⟩ := hr
                    have HO := Lib.hid (G11.out.2.trans hO)
                    have D9 := Lib.hid hD
                    clear hD hO
                    unfold sflt
                    exact bodyPost_panic rfl (post_err (show D c.E .giveBack (c.R k) (.error p) from D.mk1 D9.out fun m h0 => by simp only [body, need, if_true, R_tail, Bool.false_eq_true, if_false, bnd, Q1.out, Q5.out, h0]) rfl HO.out)
                  obtain ⟨j9, vv, rfl, hj9, rfl, hG, hT⟩ := hr
                  obtain ⟨v9, rfl⟩ := hT.ptr
                  have G13 : Hid (Go1 c w w9 j9) := ⟨hG.1, G11.out.2.trans hG.2⟩
                  have O14 := Lib.hid (O12.out.off hG.2 hbl)
                  have T9 := Lib.hid hT
                  have D9 := Lib.hid hD
                  have hown9 := O14.out.2.2.1
                  have hwl9 : w.heap.size ≤ w9.heap.size := G13.out.2.size
                  have oS9 := O14.out.c3
                  have oT9 := cell_alloc oS9 (.cells #[.pointer (some ⟨v9, 0, none⟩)] 59)
                  have hdl := hG.2.size
                  clear hD hG hT)
               | (refine step_append_lies _ rfl _ _ 87 rfl w.heap.size 59 i0 _ 1 8 Tryz.underlying87 hi hz0 hz1' hz2 rfl (by decide) _ _ _ rfl (hown9.alloc _) ⟨w9.heap.size, 0, none⟩ 1 1 [.pointer (some ⟨v9, 0, none⟩)] rfl rfl (news_one _ _) (fun u hu => by simp at hu; subst hu; rfl) (by decide) (by unfold maxLen; simp) (by simp) (by simp; omega) (w9.heap.size + 1) (by simp) ?_
                  intro g cap w'' hown'' hgrow hat hlt''
                  have O10 := Lib.hid (O14.out.push T9.out hlw9 hal9 hol9.out hown'' hgrow hat)
                  have hbel := grown_old hown9 hwl9 hgrow
                  have GO10 : Hid (Go1 c w w'' j9) := G13.out.old hbel hgl hbl h0l
                  have oc := (O14.out.grown hgrow).1
                  have of := (O14.out.grown hgrow).2
                  clear hown'' hgrow hat hlt'' hbel))
      all_goals
        have hlo10 : w.heap.size ≤ a3 := O10.out.1
        have GP10 := Lib.hid (GO10.out.set (p := ⟨a3, 3, none⟩) hlo10 hgl hbl h0l (.slice (some ⟨g, 0, none⟩) 1 cap))
        generalize hw10 : World.setCell w'' _ _ = u10
        have OP10 : Hid (Opn w.heap.size u10 a3 13 [] (.slice (some ⟨g, 0, none⟩) 1 cap) ([] ++ [.pointer (some ⟨v9, 0, none⟩)]) ([] ++ [t9])) := by rw [← hw10]; exact O10
        have G10 : Hid (Go1 c w u10 j9) := by rw [← hw10]; exact GP10
        clear hi hz0 hz1' hz2 oc of oS hdl hown9 oS9 oT9 GO10 GP10 O10 hw10
        go_wp2_with fail
        cases hq : isF c.E [59] (c.R j9)
        · refine (ended_no c j9 _ _ G10.out.1 hq).mono ?_; rintro e w15 ⟨rfl, hB⟩
          have HO := Lib.hid (G10.out.2.below hB)
          have Q15 := Lib.hid hq
          clear hB hq
          unfold sflt
          go_wp2_with fail
          exact bodyPost_panic rfl (post_err (show D c.E .giveBack (c.R k) (.error (c.T j9).pos) from D.mk1 D9.out fun m h0 => by simp only [body, need, if_true, R_tail, Bool.false_eq_true, if_false, bnd, bad, R_hd, Q1.out, Q5.out, Q15.out, h0]) rfl HO.out)
        · refine (ended_yes c j9 _ _ G10.out.1 hq).mono ?_; rintro e w15 ⟨rfl, hG⟩
          have G16 : Hid (Go1 c w w15 (j9 + 1)) := ⟨hG.1, G10.out.2.trans hG.2⟩
          have O17 := Lib.hid (OP10.out.off hG.2 hbl)
          have Q15 := Lib.hid hq
          clear hG hq
          go_wp2_with fail
          go_ret
          exact post_ok (show D c.E .giveBack (c.R k) (.ok (nd 13 [] ([] ++ [t9]), c.R (j9 + 1))) from D.mk1 D9.out fun m h0 => by simp only [body, need, if_true, R_tail, Bool.false_eq_true, if_false, bnd, ret, List.nil_append, List.cons_append, Q1.out, Q5.out, Q15.out, h0]) (by omega) rfl G16.out.1 G16.out.2 O17.out.isT
    · refine (is_at c (k + 1) ⟨#[59]⟩ _ G4.out.1 hq).mono ?_; rintro e w5 ⟨rfl, hB⟩
      have G18 : Hid (Go1 c w w5 (k + 1)) := ⟨G4.out.1.below hB, G4.out.2.below hB⟩
      have O19 := Lib.hid (O3.out.stay hB)
      have Q5 := Lib.hid hq
      clear hB hq
      go_wp2_with fail
      refine (ended_yes c (k + 1) _ _ G18.out.1 Q5.out).mono ?_; rintro e w20 ⟨rfl, hG⟩
      have G21 : Hid (Go1 c w w20 ((k + 1) + 1)) := ⟨hG.1, G18.out.2.trans hG.2⟩
      have O22 := Lib.hid (O19.out.off hG.2 hbl)
      clear hG
      go_wp2_with fail
      go_ret
      exact post_ok (show D c.E .giveBack (c.R k) (.ok (nd 13 [] [], c.R ((k + 1) + 1))) from D.mk0 fun m => by simp only [body, need, if_true, R_tail, ret, List.nil_append, List.cons_append, Q1.out, Q5.out]) (by omega) rfl G21.out.1 G21.out.2 O22.out.isT
end Go.Proofs.YtnkfodelgpidkaaGreatDoor
