/- Primaries, signs ahead, signs between: by the reader of trees. -/
import Derived.Test.YtnkfodelgpidkaaGreatDoorG5
namespace Go.Proofs.YtnkfodelgpidkaaGreatDoor
open Go.RowKit
set_option linter.unusedVariables false

set_option maxRecDepth 100000 in
set_option maxHeartbeats 1000000 in
theorem pkey_text (c : Cx) (k : Nat) (w : World) (h : In c w k) (hq : (c.T k).kind = 4) :
    Calls Tryz.prog 265 #[.pointer (some ⟨c.b, 0, none⟩)] w fun e w' => e = .returned (.string (bs (c.T k).text)) ∧ Go1 c w w' (k + 1) := by
  have hfew := h.ok.few
  have hbl := h.lt
  have T := Lib.hid (stoken_agg c k w h)
  have HI := Lib.hid h
  have hlt : k < c.ts.length := kind_in h.le (by rw [hq]; decide)
  have m1 : ((c.T k).kind == 4) = true := by rw [hq]; rfl
  clear hq
  clear h
  go_enter Tryz.func265, Tryz.ntmps265
  go_wp2_with fail
  refine T.out.mono ?_; rintro e w1 ⟨rfl, hB⟩
  have hBA := hB.alloc hB.size (.cells #[.int .i64 (c.T k).kind, .int .i64 (c.T k).pos, .string (bs (c.T k).text), .int .u64 (c.T k).bits] 42)
  have I1 := Lib.hid (HI.out.below hBA)
  have O1 := Lib.hid ((Off.refl c.b w).below hBA)
  have HB := Lib.hid hBA
  have ac1 := I1.out.c1
  have af1 := I1.out.fz 1
  clear hB hBA
  go_wp2_with fail
  go_ret
  exact ⟨rfl, I1.out.next (j := k + 1) (by omega), O1.out.set 1 _⟩
set_option maxRecDepth 100000 in
set_option maxHeartbeats 1000000 in
theorem pkey_num (c : Cx) (k : Nat) (w : World) (h : In c w k) (hq : (c.T k).kind = 3) :
    Calls Tryz.prog 265 #[.pointer (some ⟨c.b, 0, none⟩)] w fun e w' => e = .returned (.string (bs (Bt.textI (c.T k).bits).data.toList)) ∧ Go1 c w w' (k + 1) := by
  have hfew := h.ok.few
  have hbl := h.lt
  have T := Lib.hid (stoken_agg c k w h)
  have HI := Lib.hid h
  have hlt : k < c.ts.length := kind_in h.le (by rw [hq]; decide)
  have m1 : ((c.T k).kind == 4) = false := by rw [hq]; rfl
  have m2 : ((c.T k).kind == 3) = true := by rw [hq]; rfl
  have hb := T_bits h.ok h.le
  have BT := Lib.hid (fun w1 (h1 : In c w1 (k + 1)) => Bt.text_any (c.T k).bits hb.1 hb.2 w1 h1.tab)
  rw [show Bt.textI (c.T k).bits = bs (Bt.textI (c.T k).bits).data.toList from bs_eq rfl] at BT
  have e0 : (bs (Bt.textI (c.T k).bits).data.toList).data.toList = (Bt.textI (c.T k).bits).data.toList := rfl
  clear hq hb
  clear h
  go_enter Tryz.func265, Tryz.ntmps265
  go_wp2_with fail
  refine T.out.mono ?_; rintro e w1 ⟨rfl, hB⟩
  have hBA := hB.alloc hB.size (.cells #[.int .i64 (c.T k).kind, .int .i64 (c.T k).pos, .string (bs (c.T k).text), .int .u64 (c.T k).bits] 42)
  have I1 := Lib.hid (HI.out.below hBA)
  have O1 := Lib.hid ((Off.refl c.b w).below hBA)
  have HB := Lib.hid hBA
  have ac1 := I1.out.c1
  have af1 := I1.out.fz 1
  clear hB hBA
  have b4 := B4.new w1 (.int .i64 (c.T k).kind) (.int .i64 (c.T k).pos) (.string (bs (c.T k).text)) (.int .u64 (c.T k).bits)
  go_wp2_with fail
  refine (BT.out _ (I1.out.next (j := k + 1) (by omega))).mono ?_; rintro e w2 ⟨rfl, hB2⟩
  go_wp2_with fail
  go_ret
  exact ⟨rfl, (I1.out.next (j := k + 1) (by omega)).below hB2, (O1.out.set 1 _).below hB2⟩
set_option maxRecDepth 100000 in
set_option maxHeartbeats 1000000 in
theorem pkey_key (c : Cx) (k : Nat) (w : World) (h : In c w k) (h4 : ¬ (c.T k).kind = 4) (h3 : ¬ (c.T k).kind = 3) (hq : (c.T k).kind = 1 ∨ (c.T k).kind = 2) :
    Calls Tryz.prog 265 #[.pointer (some ⟨c.b, 0, none⟩)] w fun e w' => e = .returned (.string (bs (c.T k).text)) ∧ Go1 c w w' (k + 1) := by
  have hfew := h.ok.few
  have hbl := h.lt
  have T := Lib.hid (stoken_agg c k w h)
  have HI := Lib.hid h
  have m1 : ((c.T k).kind == 4) = false := by rw [beq_eq_false_iff_ne]; exact h4
  have m2 : ((c.T k).kind == 3) = false := by rw [beq_eq_false_iff_ne]; exact h3
  have KY := Lib.hid (fun w1 (h1 : In c w1 k) => skey_yes c k w1 h1 hq)
  clear hq h4 h3
  clear h
  go_enter Tryz.func265, Tryz.ntmps265
  go_wp2_with fail
  refine T.out.mono ?_; rintro e w1 ⟨rfl, hB⟩
  have hBA := hB.alloc hB.size (.cells #[.int .i64 (c.T k).kind, .int .i64 (c.T k).pos, .string (bs (c.T k).text), .int .u64 (c.T k).bits] 42)
  have I1 := Lib.hid (HI.out.below hBA)
  have O1 := Lib.hid ((Off.refl c.b w).below hBA)
  have HB := Lib.hid hBA
  have ac1 := I1.out.c1
  have af1 := I1.out.fz 1
  clear hB hBA
  go_wp2_with fail
  refine (KY.out _ I1.out).mono ?_; rintro e w2 ⟨rfl, hG⟩
  go_wp2_with fail
  go_ret
  exact ⟨rfl, hG.1, O1.out.trans hG.2⟩
set_option maxRecDepth 100000 in
set_option maxHeartbeats 1000000 in
theorem pkey_no (c : Cx) (k : Nat) (w : World) (h : In c w k) (h4 : ¬ (c.T k).kind = 4) (h3 : ¬ (c.T k).kind = 3) (hq : ¬ ((c.T k).kind = 1 ∨ (c.T k).kind = 2)) :
    Calls Tryz.prog 265 #[.pointer (some ⟨c.b, 0, none⟩)] w fun e w' => e = sflt (c.T k).pos ∧ Below w.heap.size w w' := by
  have hfew := h.ok.few
  have hbl := h.lt
  have T := Lib.hid (stoken_agg c k w h)
  have HI := Lib.hid h
  have m1 : ((c.T k).kind == 4) = false := by rw [beq_eq_false_iff_ne]; exact h4
  have m2 : ((c.T k).kind == 3) = false := by rw [beq_eq_false_iff_ne]; exact h3
  have KY := Lib.hid (fun w1 (h1 : In c w1 k) => skey_no c k w1 h1 hq)
  unfold sflt at KY ⊢
  clear hq h4 h3
  clear h
  go_enter Tryz.func265, Tryz.ntmps265
  go_wp2_with fail
  refine T.out.mono ?_; rintro e w1 ⟨rfl, hB⟩
  have hBA := hB.alloc hB.size (.cells #[.int .i64 (c.T k).kind, .int .i64 (c.T k).pos, .string (bs (c.T k).text), .int .u64 (c.T k).bits] 42)
  have I1 := Lib.hid (HI.out.below hBA)
  have O1 := Lib.hid ((Off.refl c.b w).below hBA)
  have HB := Lib.hid hBA
  have ac1 := I1.out.c1
  have af1 := I1.out.fz 1
  clear hB hBA
  go_wp2_with fail
  refine (KY.out _ I1.out).mono ?_; rintro e w2 ⟨rfl, hB2⟩
  go_wp2_with fail
  exact bodyPost_panic rfl ⟨rfl, below_trans HB.out hB2 HB.out.size⟩
set_option maxRecDepth 100000 in
set_option maxHeartbeats 1000000 in
theorem prop_any (c : Cx) (k : Nat) (iha : ∀ j, k < j → Ok c .assign 199 #[c.p] j) : Ok c .prop 263 #[c.p] k := by
  intro w h
  have hbl := h.lt
  have hfew := h.ok.few
  have G0 : Hid (Go1 c w w k) := ⟨h, Off.refl _ _⟩
  have IHA := Lib.hid iha
  clear h iha
  go_enter Tryz.func263, Tryz.ntmps263
  go_wp2_with fail
  by_cases h4 : (c.T k).kind = 4
  · refine (pkey_text c k _ G0.out.1 h4).mono ?_; rintro e w1 ⟨rfl, hG⟩
    have G2 : Hid (Go1 c w w1 (k + 1)) := ⟨hG.1, G0.out.2.trans hG.2⟩
    have Q1a := Lib.hid h4
    clear hG h4
    go_wp2_with fail
    cases hq : isF c.E [58] (c.R (k + 1))
    · refine (need_no c (k + 1) ⟨#[58]⟩ _ G2.out.1 hq).mono ?_; rintro e w3 ⟨rfl, hB⟩
      have HO := Lib.hid (G2.out.2.below hB)
      have Q3 := Lib.hid hq
      clear hB hq
      unfold sflt
      go_wp2_with fail
      exact bodyPost_panic rfl (post_err (show D c.E .prop (c.R k) (.error (c.T (k + 1)).pos) from D.mk0 fun m => by simp only [body, propK, R_hd, if_true, R_tail, need, Bool.false_eq_true, if_false, bad, Q1a.out, Q3.out]) rfl HO.out)
    · refine (need_yes c (k + 1) ⟨#[58]⟩ (by decide) _ G2.out.1 hq).mono ?_; rintro e w3 ⟨rfl, hG⟩
      have G4 : Hid (Go1 c w w3 ((k + 1) + 1)) := ⟨hG.1, G2.out.2.trans hG.2⟩
      have Q3 := Lib.hid hq
      clear hG hq
      go_wp2_with fail
      refine (IHA.out ((k + 1) + 1) (by omega) _ G4.out.1).mono ?_; rintro e w5 ⟨r, hD, hr⟩
      rcases r with p | ⟨t5, R1⟩
      · obtain ⟨rfl, hO⟩ := hr
        have HO := Lib.hid (G4.out.2.trans hO)
        have D5 := Lib.hid hD
        clear hD hO
        unfold sflt
        go_wp2_with fail
        exact bodyPost_panic rfl (post_err (show D c.E .prop (c.R k) (.error p) from D.mk1 D5.out fun m h0 => by simp only [body, propK, R_hd, if_true, R_tail, need, bnd, Q1a.out, Q3.out, h0]) rfl HO.out)
      · obtain ⟨j5, vv, rfl, hj5, rfl, hG, hT⟩ := hr
        obtain ⟨v5, rfl⟩ := hT.ptr
        have G6 : Hid (Go1 c w w5 j5) := ⟨hG.1, G4.out.2.trans hG.2⟩
        have T5 := Lib.hid (hT.lower G4.out.2.size)
        have D5 := Lib.hid hD
        clear hD hG hT
        go_wp2_with fail
        refine (newNode_any _ _ _ _ _ _).mono ?_; rintro e w7 hm
        obtain ⟨a7, rfl, hT, hB⟩ := node_kids (k := 30) (x := (c.T k).text) (vs := [(.pointer (some ⟨v5, 0, none⟩))]) (kids := [t5]) (IsTs.cons T5.out (IsTs.nil _ _)) G6.out.2.size hm
        have G8 : Hid (Go1 c w w7 j5) := ⟨G6.out.1.below hB, G6.out.2.below hB⟩
        have T9 := Lib.hid (T5.out.stay hB)
        have T7 := Lib.hid hT
        clear hT hB hm
        go_wp2_with fail
        go_ret
        exact post_ok (show D c.E .prop (c.R k) (.ok ((nd 30 (c.T k).text [t5]), c.R j5)) from D.mk1 D5.out fun m h0 => by simp only [body, propK, R_hd, if_true, R_tail, need, bnd, ret, Q1a.out, Q3.out, h0]) (by omega) rfl G8.out.1 G8.out.2 T7.out
  · by_cases h3 : (c.T k).kind = 3
    · refine (pkey_num c k _ G0.out.1 h3).mono ?_; rintro e w1 ⟨rfl, hG⟩
      have G10 : Hid (Go1 c w w1 (k + 1)) := ⟨hG.1, G0.out.2.trans hG.2⟩
      have Q1b := Lib.hid h3
      clear hG h3
      go_wp2_with fail
      cases hq : isF c.E [58] (c.R (k + 1))
      · refine (need_no c (k + 1) ⟨#[58]⟩ _ G10.out.1 hq).mono ?_; rintro e w11 ⟨rfl, hB⟩
        have HO := Lib.hid (G10.out.2.below hB)
        have Q11 := Lib.hid hq
        clear hB hq
        unfold sflt
        go_wp2_with fail
        exact bodyPost_panic rfl (post_err (show D c.E .prop (c.R k) (.error (c.T (k + 1)).pos) from D.mk0 fun m => by simp only [body, propK, R_hd, Int.reduceEq, if_false, if_true, R_tail, need, Bool.false_eq_true, bad, Q1b.out, Q11.out]) rfl HO.out)
      · refine (need_yes c (k + 1) ⟨#[58]⟩ (by decide) _ G10.out.1 hq).mono ?_; rintro e w11 ⟨rfl, hG⟩
        have G12 : Hid (Go1 c w w11 ((k + 1) + 1)) := ⟨hG.1, G10.out.2.trans hG.2⟩
        have Q11 := Lib.hid hq
        clear hG hq
        go_wp2_with fail
        refine (IHA.out ((k + 1) + 1) (by omega) _ G12.out.1).mono ?_; rintro e w13 ⟨r, hD, hr⟩
        rcases r with p | ⟨t13, R1⟩
        · obtain ⟨rfl, hO⟩ := hr
          have HO := Lib.hid (G12.out.2.trans hO)
          have D13 := Lib.hid hD
          clear hD hO
          unfold sflt
          go_wp2_with fail
          exact bodyPost_panic rfl (post_err (show D c.E .prop (c.R k) (.error p) from D.mk1 D13.out fun m h0 => by simp only [body, propK, R_hd, Int.reduceEq, if_false, if_true, R_tail, need, bnd, Q1b.out, Q11.out, h0]) rfl HO.out)
        · obtain ⟨j13, vv, rfl, hj13, rfl, hG, hT⟩ := hr
          obtain ⟨v13, rfl⟩ := hT.ptr
          have G14 : Hid (Go1 c w w13 j13) := ⟨hG.1, G12.out.2.trans hG.2⟩
          have T13 := Lib.hid (hT.lower G12.out.2.size)
          have D13 := Lib.hid hD
          clear hD hG hT
          go_wp2_with fail
          refine (newNode_any _ _ _ _ _ _).mono ?_; rintro e w15 hm
          obtain ⟨a15, rfl, hT, hB⟩ := node_kids (k := 30) (x := (Bt.textI (c.T k).bits).data.toList) (vs := [(.pointer (some ⟨v13, 0, none⟩))]) (kids := [t13]) (IsTs.cons T13.out (IsTs.nil _ _)) G14.out.2.size hm
          have G16 : Hid (Go1 c w w15 j13) := ⟨G14.out.1.below hB, G14.out.2.below hB⟩
          have T17 := Lib.hid (T13.out.stay hB)
          have T15 := Lib.hid hT
          clear hT hB hm
          go_wp2_with fail
          go_ret
          exact post_ok (show D c.E .prop (c.R k) (.ok ((nd 30 (Bt.textI (c.T k).bits).data.toList [t13]), c.R j13)) from D.mk1 D13.out fun m h0 => by simp only [body, propK, R_hd, Int.reduceEq, if_false, if_true, R_tail, need, bnd, ret, Q1b.out, Q11.out, h0]) (by omega) rfl G16.out.1 G16.out.2 T15.out
    · by_cases h12 : (c.T k).kind = 1 ∨ (c.T k).kind = 2
      · refine (pkey_key c k _ G0.out.1 h4 h3 h12).mono ?_; rintro e w1 ⟨rfl, hG⟩
        have G18 : Hid (Go1 c w w1 (k + 1)) := ⟨hG.1, G0.out.2.trans hG.2⟩
        have Q1a := Lib.hid h4
        have Q1b := Lib.hid h3
        have Q1c := Lib.hid h12
        clear hG h4 h3 h12
        go_wp2_with fail
        cases hq : isF c.E [58] (c.R (k + 1))
        · refine (need_no c (k + 1) ⟨#[58]⟩ _ G18.out.1 hq).mono ?_; rintro e w19 ⟨rfl, hB⟩
          have HO := Lib.hid (G18.out.2.below hB)
          have Q19 := Lib.hid hq
          clear hB hq
          unfold sflt
          go_wp2_with fail
          exact bodyPost_panic rfl (post_err (show D c.E .prop (c.R k) (.error (c.T (k + 1)).pos) from D.mk0 fun m => by simp only [body, propK, keyK, R_hd, if_false, if_true, R_tail, need, Bool.false_eq_true, bad, Q1a.out, Q1b.out, Q1c.out, Q19.out]) rfl HO.out)
        · refine (need_yes c (k + 1) ⟨#[58]⟩ (by decide) _ G18.out.1 hq).mono ?_; rintro e w19 ⟨rfl, hG⟩
          have G20 : Hid (Go1 c w w19 ((k + 1) + 1)) := ⟨hG.1, G18.out.2.trans hG.2⟩
          have Q19 := Lib.hid hq
          clear hG hq
          go_wp2_with fail
          refine (IHA.out ((k + 1) + 1) (by omega) _ G20.out.1).mono ?_; rintro e w21 ⟨r, hD, hr⟩
          rcases r with p | ⟨t21, R1⟩
          · obtain ⟨rfl, hO⟩ := hr
            have HO := Lib.hid (G20.out.2.trans hO)
            have D21 := Lib.hid hD
            clear hD hO
            unfold sflt
            go_wp2_with fail
            exact bodyPost_panic rfl (post_err (show D c.E .prop (c.R k) (.error p) from D.mk1 D21.out fun m h0 => by simp only [body, propK, keyK, R_hd, if_false, if_true, R_tail, need, bnd, Q1a.out, Q1b.out, Q1c.out, Q19.out, h0]) rfl HO.out)
          · obtain ⟨j21, vv, rfl, hj21, rfl, hG, hT⟩ := hr
            obtain ⟨v21, rfl⟩ := hT.ptr
            have G22 : Hid (Go1 c w w21 j21) := ⟨hG.1, G20.out.2.trans hG.2⟩
            have T21 := Lib.hid (hT.lower G20.out.2.size)
            have D21 := Lib.hid hD
            clear hD hG hT
            go_wp2_with fail
            refine (newNode_any _ _ _ _ _ _).mono ?_; rintro e w23 hm
            obtain ⟨a23, rfl, hT, hB⟩ := node_kids (k := 30) (x := (c.T k).text) (vs := [(.pointer (some ⟨v21, 0, none⟩))]) (kids := [t21]) (IsTs.cons T21.out (IsTs.nil _ _)) G22.out.2.size hm
            have G24 : Hid (Go1 c w w23 j21) := ⟨G22.out.1.below hB, G22.out.2.below hB⟩
            have T25 := Lib.hid (T21.out.stay hB)
            have T23 := Lib.hid hT
            clear hT hB hm
            go_wp2_with fail
            go_ret
            exact post_ok (show D c.E .prop (c.R k) (.ok ((nd 30 (c.T k).text [t21]), c.R j21)) from D.mk1 D21.out fun m h0 => by simp only [body, propK, keyK, R_hd, if_false, if_true, R_tail, need, bnd, ret, Q1a.out, Q1b.out, Q1c.out, Q19.out, h0]) (by omega) rfl G24.out.1 G24.out.2 T23.out
      · refine (pkey_no c k _ G0.out.1 h4 h3 h12).mono ?_; rintro e w1 ⟨rfl, hB⟩
        have HO := Lib.hid (G0.out.2.below hB)
        have Q1a := Lib.hid h4
        have Q1b := Lib.hid h3
        have Q1c := Lib.hid h12
        clear hB h4 h3 h12
        unfold sflt
        go_wp2_with fail
        exact bodyPost_panic rfl (post_err (show D c.E .prop (c.R k) (.error (c.T k).pos) from D.mk0 fun m => by simp only [body, propK, keyK, R_hd, if_false, bad, Q1a.out, Q1b.out, Q1c.out]) rfl HO.out)
set_option maxRecDepth 100000 in
set_option maxHeartbeats 1000000 in
theorem primary_any (c : Cx) (k : Nat) (ihf : Ok c .fixedPrimary 261 #[c.p] k) : Ok c .primary 257 #[c.p] k := by
  intro w h
  have hbl := h.lt
  have hfew := h.ok.few
  have G0 : Hid (Go1 c w w k) := ⟨h, Off.refl _ _⟩
  have IHF := Lib.hid ihf
  clear h ihf
  go_enter Tryz.func257, Tryz.ntmps257
  go_wp2_with fail
  by_cases q1_0 : (c.T k).kind = 1
  · have m1_0 : ((c.T k).kind == 1) = true := by rw [q1_0]; rfl
    have Q1_0 := Lib.hid q1_0
    have hlt : k < c.ts.length := kind_in G0.out.1.le (by rw [q1_0]; decide)
    clear q1_0
    refine (stoken_agg c k _ G0.out.1).mono ?_; rintro e w2 ⟨rfl, hB⟩
    have hB2 := hB.alloc hB.size (.cells #[.int .i64 (c.T k).kind, .int .i64 (c.T k).pos, .string (bs (c.T k).text), .int .u64 (c.T k).bits] 42)
    have G3 : Hid (Go1 c w (w2.alloc (.cells #[.int .i64 (c.T k).kind, .int .i64 (c.T k).pos, .string (bs (c.T k).text), .int .u64 (c.T k).bits] 42)) k) := ⟨G0.out.1.below hB2, G0.out.2.below hB2⟩
    have B2 : Hid (B4 (w2.alloc (.cells #[.int .i64 (c.T k).kind, .int .i64 (c.T k).pos, .string (bs (c.T k).text), .int .u64 (c.T k).bits] 42)) w2.heap.size (.int .i64 (c.T k).kind) (.int .i64 (c.T k).pos) (.string (bs (c.T k).text)) (.int .u64 (c.T k).bits)) := B4.new w2 _ _ _ _
    have lb2 : c.b < w2.heap.size := Nat.lt_of_lt_of_le G0.out.1.lt hB.size
    clear hB hB2
    go_wp2_with fail
    generalize w2.alloc (.cells #[.int .i64 (c.T k).kind, .int .i64 (c.T k).pos, .string (bs (c.T k).text), .int .u64 (c.T k).bits] 42) = u2 at *
    refine (leaf_any c k 27 _ G3.out.1 hlt).mono ?_; rintro e w4 ⟨v4, rfl, hG, hT⟩
    have G5 : Hid (Go1 c w w4 (k + 1)) := ⟨hG.1, G3.out.2.trans hG.2⟩
    have T4 := Lib.hid (hT.lower G3.out.2.size)
    clear hG hT
    go_wp2_with fail
    go_ret
    exact post_ok (show D c.E .primary (c.R k) (.ok ((.node 27 (c.T k).text (c.T k).bits []), c.R (k + 1))) from D.mk0 fun m => by simp only [body, R_hd, if_true, R_tail, ret, Q1_0.out]) (by omega) rfl G5.out.1 G5.out.2 T4.out
  · skip
    by_cases q1_1 : (c.T k).kind = 3
    · have m1_0 : ((c.T k).kind == 1) = false := by rw [q1_1]; rfl
      have m1_1 : ((c.T k).kind == 3) = true := by rw [q1_1]; rfl
      have Q1_1 := Lib.hid q1_1
      have hlt : k < c.ts.length := kind_in G0.out.1.le (by rw [q1_1]; decide)
      clear q1_0 q1_1
      refine (stoken_agg c k _ G0.out.1).mono ?_; rintro e w6 ⟨rfl, hB⟩
      have hB2 := hB.alloc hB.size (.cells #[.int .i64 (c.T k).kind, .int .i64 (c.T k).pos, .string (bs (c.T k).text), .int .u64 (c.T k).bits] 42)
      have G7 : Hid (Go1 c w (w6.alloc (.cells #[.int .i64 (c.T k).kind, .int .i64 (c.T k).pos, .string (bs (c.T k).text), .int .u64 (c.T k).bits] 42)) k) := ⟨G0.out.1.below hB2, G0.out.2.below hB2⟩
      have B6 : Hid (B4 (w6.alloc (.cells #[.int .i64 (c.T k).kind, .int .i64 (c.T k).pos, .string (bs (c.T k).text), .int .u64 (c.T k).bits] 42)) w6.heap.size (.int .i64 (c.T k).kind) (.int .i64 (c.T k).pos) (.string (bs (c.T k).text)) (.int .u64 (c.T k).bits)) := B4.new w6 _ _ _ _
      have lb6 : c.b < w6.heap.size := Nat.lt_of_lt_of_le G0.out.1.lt hB.size
      clear hB hB2
      go_wp2_with fail
      generalize w6.alloc (.cells #[.int .i64 (c.T k).kind, .int .i64 (c.T k).pos, .string (bs (c.T k).text), .int .u64 (c.T k).bits] 42) = u6 at *
      refine (leaf_any c k 21 _ G7.out.1 hlt).mono ?_; rintro e w8 ⟨v8, rfl, hG, hT⟩
      have G9 : Hid (Go1 c w w8 (k + 1)) := ⟨hG.1, G7.out.2.trans hG.2⟩
      have T8 := Lib.hid (hT.lower G7.out.2.size)
      clear hG hT
      go_wp2_with fail
      go_ret
      exact post_ok (show D c.E .primary (c.R k) (.ok ((.node 21 (c.T k).text (c.T k).bits []), c.R (k + 1))) from D.mk0 fun m => by simp only [body, R_hd, if_true, Int.reduceEq, if_false, R_tail, ret, Q1_1.out]) (by omega) rfl G9.out.1 G9.out.2 T8.out
    · skip
      by_cases q1_2 : (c.T k).kind = 4
      · have m1_0 : ((c.T k).kind == 1) = false := by rw [q1_2]; rfl
        have m1_1 : ((c.T k).kind == 3) = false := by rw [q1_2]; rfl
        have m1_2 : ((c.T k).kind == 4) = true := by rw [q1_2]; rfl
        have Q1_2 := Lib.hid q1_2
        have hlt : k < c.ts.length := kind_in G0.out.1.le (by rw [q1_2]; decide)
        clear q1_0 q1_1 q1_2
        refine (stoken_agg c k _ G0.out.1).mono ?_; rintro e w10 ⟨rfl, hB⟩
        have hB2 := hB.alloc hB.size (.cells #[.int .i64 (c.T k).kind, .int .i64 (c.T k).pos, .string (bs (c.T k).text), .int .u64 (c.T k).bits] 42)
        have G11 : Hid (Go1 c w (w10.alloc (.cells #[.int .i64 (c.T k).kind, .int .i64 (c.T k).pos, .string (bs (c.T k).text), .int .u64 (c.T k).bits] 42)) k) := ⟨G0.out.1.below hB2, G0.out.2.below hB2⟩
        have B10 : Hid (B4 (w10.alloc (.cells #[.int .i64 (c.T k).kind, .int .i64 (c.T k).pos, .string (bs (c.T k).text), .int .u64 (c.T k).bits] 42)) w10.heap.size (.int .i64 (c.T k).kind) (.int .i64 (c.T k).pos) (.string (bs (c.T k).text)) (.int .u64 (c.T k).bits)) := B4.new w10 _ _ _ _
        have lb10 : c.b < w10.heap.size := Nat.lt_of_lt_of_le G0.out.1.lt hB.size
        clear hB hB2
        go_wp2_with fail
        generalize w10.alloc (.cells #[.int .i64 (c.T k).kind, .int .i64 (c.T k).pos, .string (bs (c.T k).text), .int .u64 (c.T k).bits] 42) = u10 at *
        refine (leaf_any c k 22 _ G11.out.1 hlt).mono ?_; rintro e w12 ⟨v12, rfl, hG, hT⟩
        have G13 : Hid (Go1 c w w12 (k + 1)) := ⟨hG.1, G11.out.2.trans hG.2⟩
        have T12 := Lib.hid (hT.lower G11.out.2.size)
        clear hG hT
        go_wp2_with fail
        go_ret
        exact post_ok (show D c.E .primary (c.R k) (.ok ((.node 22 (c.T k).text (c.T k).bits []), c.R (k + 1))) from D.mk0 fun m => by simp only [body, R_hd, if_true, Int.reduceEq, if_false, R_tail, ret, Q1_2.out]) (by omega) rfl G13.out.1 G13.out.2 T12.out
      · have m1_0 : ((c.T k).kind == 1) = false := by rw [beq_eq_false_iff_ne]; exact q1_0
        have Q1_d0 := Lib.hid q1_0
        have m1_1 : ((c.T k).kind == 3) = false := by rw [beq_eq_false_iff_ne]; exact q1_1
        have Q1_d1 := Lib.hid q1_1
        have m1_2 : ((c.T k).kind == 4) = false := by rw [beq_eq_false_iff_ne]; exact q1_2
        have Q1_d2 := Lib.hid q1_2
        clear q1_0 q1_1 q1_2
        refine (stoken_agg c k _ G0.out.1).mono ?_; rintro e w14 ⟨rfl, hB⟩
        have hB2 := hB.alloc hB.size (.cells #[.int .i64 (c.T k).kind, .int .i64 (c.T k).pos, .string (bs (c.T k).text), .int .u64 (c.T k).bits] 42)
        have G15 : Hid (Go1 c w (w14.alloc (.cells #[.int .i64 (c.T k).kind, .int .i64 (c.T k).pos, .string (bs (c.T k).text), .int .u64 (c.T k).bits] 42)) k) := ⟨G0.out.1.below hB2, G0.out.2.below hB2⟩
        have B14 : Hid (B4 (w14.alloc (.cells #[.int .i64 (c.T k).kind, .int .i64 (c.T k).pos, .string (bs (c.T k).text), .int .u64 (c.T k).bits] 42)) w14.heap.size (.int .i64 (c.T k).kind) (.int .i64 (c.T k).pos) (.string (bs (c.T k).text)) (.int .u64 (c.T k).bits)) := B4.new w14 _ _ _ _
        have lb14 : c.b < w14.heap.size := Nat.lt_of_lt_of_le G0.out.1.lt hB.size
        clear hB hB2
        go_wp2_with fail
        generalize w14.alloc (.cells #[.int .i64 (c.T k).kind, .int .i64 (c.T k).pos, .string (bs (c.T k).text), .int .u64 (c.T k).bits] 42) = u14 at *
        refine (IHF.out _ G15.out.1).mono ?_; rintro e w16 ⟨r, hD, hr⟩
        rcases r with p | ⟨t16, R1⟩
        · obtain ⟨rfl, hO⟩ := hr
          have HO := Lib.hid (G15.out.2.trans hO)
          have D16 := Lib.hid hD
          clear hD hO
          unfold sflt
          go_wp2_with fail
          exact bodyPost_panic rfl (post_err (show D c.E .primary (c.R k) (.error p) from D.mk1 D16.out fun m h0 => by simp only [body, R_hd, if_false, Q1_d0.out, Q1_d1.out, Q1_d2.out, h0]) rfl HO.out)
        · obtain ⟨j16, v16, rfl, hj16, rfl, hG, hT⟩ := hr
          have G17 : Hid (Go1 c w w16 j16) := ⟨hG.1, G15.out.2.trans hG.2⟩
          have B18 := Lib.hid (B14.out.off hG.2 (by omega))
          have T16 := Lib.hid (hT.lower G15.out.2.size)
          have D16 := Lib.hid hD
          clear hD hG hT
          go_wp2_with fail
          go_ret
          exact post_ok (show D c.E .primary (c.R k) (.ok (t16, c.R j16)) from D.mk1 D16.out fun m h0 => by simp only [body, R_hd, if_false, Q1_d0.out, Q1_d1.out, Q1_d2.out, h0]) (by omega) rfl G17.out.1 G17.out.2 T16.out
set_option maxRecDepth 100000 in
set_option maxHeartbeats 1000000 in
theorem fixedPrimary_any (c : Cx) (k : Nat) (ihb : Ok c .bracketed 195 #[c.p] k) (ihl : ∀ j, k < j → OkL c (.list [93] .assign) 144 #[c.p, .string ⟨#[93]⟩, .func (.func 199) #[c.p] #[]] j) (iho : ∀ j, k < j → OkL c (.list [125] .prop) 144 #[c.p, .string ⟨#[125]⟩, .func (.func 263) #[c.p] #[]] j) (ihg : ∀ j, k < j → ∀ x, Ok c (.function 31 x) 87 #[c.p, .int .i64 31, .string (bs x)] j) : Ok c .fixedPrimary 261 #[c.p] k := by
  intro w h
  have hbl := h.lt
  have hfew := h.ok.few
  have G0 : Hid (Go1 c w w k) := ⟨h, Off.refl _ _⟩
  have IHB := Lib.hid ihb
  have IHL := Lib.hid ihl
  have IHO := Lib.hid iho
  have IHG := Lib.hid ihg
  clear h ihg ihb ihl iho
  go_enter Tryz.func261, Tryz.ntmps261
  go_wp2_with fail
  refine (fixed_any c k _ G0.out.1).mono ?_; rintro e w1 ⟨rfl, hB⟩
  have G2 : Hid (Go1 c w w1 k) := ⟨G0.out.1.below hB, G0.out.2.below hB⟩
  clear hB
  by_cases x1_0 : fx (c.T k) = [116, 104, 105, 115]
  · have n1_0 : ((bs (fx (c.T k))).toList == [116, 104, 105, 115]) = true := gl_true (by rw [bs_list, x1_0])
    have Q1_0_0 : Hid (isF c.E [116, 104, 105, 115] (c.R k) = true) := by show _ = _; rw [isF_T, x1_0]; rfl
    have hlt : k < c.ts.length := fx_in G2.out.1.le (by rw [x1_0]; decide)
    clear x1_0
    go_wp2_with fail
    refine (const_any c k 26 _ G2.out.1 (isF_in G2.out.1.le (by decide) Q1_0_0.out)).mono ?_; rintro e w3 ⟨v3, rfl, hG, hT⟩
    have G4 : Hid (Go1 c w w3 (k + 1)) := ⟨hG.1, G2.out.2.trans hG.2⟩
    have T3 := Lib.hid (hT.lower G2.out.2.size)
    clear hG hT
    go_wp2_with fail
    go_ret
    exact post_ok (show D c.E .fixedPrimary (c.R k) (.ok ((nd 26 [] []), c.R (k + 1))) from D.mk0 fun m => by simp only [body, if_true, R_tail, ret, Q1_0_0.out]) (by omega) rfl G4.out.1 G4.out.2 T3.out
  · skip
    by_cases x1_1 : fx (c.T k) = [110, 117, 108, 108]
    · have n1_0 : ((bs (fx (c.T k))).toList == [116, 104, 105, 115]) = false := gl_false (by rw [bs_list, x1_1]; decide)
      have Q1_1_0 : Hid (isF c.E [116, 104, 105, 115] (c.R k) = false) := by show _ = _; rw [isF_T, x1_1]; rfl
      have n1_1 : ((bs (fx (c.T k))).toList == [110, 117, 108, 108]) = true := gl_true (by rw [bs_list, x1_1])
      have Q1_1_1 : Hid (isF c.E [110, 117, 108, 108] (c.R k) = true) := by show _ = _; rw [isF_T, x1_1]; rfl
      have hlt : k < c.ts.length := fx_in G2.out.1.le (by rw [x1_1]; decide)
      clear x1_0 x1_1
      go_wp2_with fail
      refine (const_any c k 25 _ G2.out.1 (isF_in G2.out.1.le (by decide) Q1_1_1.out)).mono ?_; rintro e w5 ⟨v5, rfl, hG, hT⟩
      have G6 : Hid (Go1 c w w5 (k + 1)) := ⟨hG.1, G2.out.2.trans hG.2⟩
      have T5 := Lib.hid (hT.lower G2.out.2.size)
      clear hG hT
      go_wp2_with fail
      go_ret
      exact post_ok (show D c.E .fixedPrimary (c.R k) (.ok ((nd 25 [] []), c.R (k + 1))) from D.mk0 fun m => by simp only [body, Bool.false_eq_true, if_false, if_true, R_tail, ret, Q1_1_0.out, Q1_1_1.out]) (by omega) rfl G6.out.1 G6.out.2 T5.out
    · skip
      by_cases x1_2 : fx (c.T k) = [116, 114, 117, 101]
      · have n1_0 : ((bs (fx (c.T k))).toList == [116, 104, 105, 115]) = false := gl_false (by rw [bs_list, x1_2]; decide)
        have Q1_2_0 : Hid (isF c.E [116, 104, 105, 115] (c.R k) = false) := by show _ = _; rw [isF_T, x1_2]; rfl
        have n1_1 : ((bs (fx (c.T k))).toList == [110, 117, 108, 108]) = false := gl_false (by rw [bs_list, x1_2]; decide)
        have Q1_2_1 : Hid (isF c.E [110, 117, 108, 108] (c.R k) = false) := by show _ = _; rw [isF_T, x1_2]; rfl
        have n1_2 : ((bs (fx (c.T k))).toList == [116, 114, 117, 101]) = true := gl_true (by rw [bs_list, x1_2])
        have Q1_2_2 : Hid (isF c.E [116, 114, 117, 101] (c.R k) = true) := by show _ = _; rw [isF_T, x1_2]; rfl
        have hlt : k < c.ts.length := fx_in G2.out.1.le (by rw [x1_2]; decide)
        clear x1_0 x1_1 x1_2
        go_wp2_with fail
        refine (const_any c k 23 _ G2.out.1 (isF_in G2.out.1.le (by decide) Q1_2_2.out)).mono ?_; rintro e w7 ⟨v7, rfl, hG, hT⟩
        have G8 : Hid (Go1 c w w7 (k + 1)) := ⟨hG.1, G2.out.2.trans hG.2⟩
        have T7 := Lib.hid (hT.lower G2.out.2.size)
        clear hG hT
        go_wp2_with fail
        go_ret
        exact post_ok (show D c.E .fixedPrimary (c.R k) (.ok ((nd 23 [] []), c.R (k + 1))) from D.mk0 fun m => by simp only [body, Bool.false_eq_true, if_false, if_true, R_tail, ret, Q1_2_0.out, Q1_2_1.out, Q1_2_2.out]) (by omega) rfl G8.out.1 G8.out.2 T7.out
      · skip
        by_cases x1_3 : fx (c.T k) = [102, 97, 108, 115, 101]
        · have n1_0 : ((bs (fx (c.T k))).toList == [116, 104, 105, 115]) = false := gl_false (by rw [bs_list, x1_3]; decide)
          have Q1_3_0 : Hid (isF c.E [116, 104, 105, 115] (c.R k) = false) := by show _ = _; rw [isF_T, x1_3]; rfl
          have n1_1 : ((bs (fx (c.T k))).toList == [110, 117, 108, 108]) = false := gl_false (by rw [bs_list, x1_3]; decide)
          have Q1_3_1 : Hid (isF c.E [110, 117, 108, 108] (c.R k) = false) := by show _ = _; rw [isF_T, x1_3]; rfl
          have n1_2 : ((bs (fx (c.T k))).toList == [116, 114, 117, 101]) = false := gl_false (by rw [bs_list, x1_3]; decide)
          have Q1_3_2 : Hid (isF c.E [116, 114, 117, 101] (c.R k) = false) := by show _ = _; rw [isF_T, x1_3]; rfl
          have n1_3 : ((bs (fx (c.T k))).toList == [102, 97, 108, 115, 101]) = true := gl_true (by rw [bs_list, x1_3])
          have Q1_3_3 : Hid (isF c.E [102, 97, 108, 115, 101] (c.R k) = true) := by show _ = _; rw [isF_T, x1_3]; rfl
          have hlt : k < c.ts.length := fx_in G2.out.1.le (by rw [x1_3]; decide)
          clear x1_0 x1_1 x1_2 x1_3
          go_wp2_with fail
          refine (const_any c k 24 _ G2.out.1 (isF_in G2.out.1.le (by decide) Q1_3_3.out)).mono ?_; rintro e w9 ⟨v9, rfl, hG, hT⟩
          have G10 : Hid (Go1 c w w9 (k + 1)) := ⟨hG.1, G2.out.2.trans hG.2⟩
          have T9 := Lib.hid (hT.lower G2.out.2.size)
          clear hG hT
          go_wp2_with fail
          go_ret
          exact post_ok (show D c.E .fixedPrimary (c.R k) (.ok ((nd 24 [] []), c.R (k + 1))) from D.mk0 fun m => by simp only [body, Bool.false_eq_true, if_false, if_true, R_tail, ret, Q1_3_0.out, Q1_3_1.out, Q1_3_2.out, Q1_3_3.out]) (by omega) rfl G10.out.1 G10.out.2 T9.out
        · skip
          by_cases x1_4 : fx (c.T k) = [40]
          · have n1_0 : ((bs (fx (c.T k))).toList == [116, 104, 105, 115]) = false := gl_false (by rw [bs_list, x1_4]; decide)
            have Q1_4_0 : Hid (isF c.E [116, 104, 105, 115] (c.R k) = false) := by show _ = _; rw [isF_T, x1_4]; rfl
            have n1_1 : ((bs (fx (c.T k))).toList == [110, 117, 108, 108]) = false := gl_false (by rw [bs_list, x1_4]; decide)
            have Q1_4_1 : Hid (isF c.E [110, 117, 108, 108] (c.R k) = false) := by show _ = _; rw [isF_T, x1_4]; rfl
            have n1_2 : ((bs (fx (c.T k))).toList == [116, 114, 117, 101]) = false := gl_false (by rw [bs_list, x1_4]; decide)
            have Q1_4_2 : Hid (isF c.E [116, 114, 117, 101] (c.R k) = false) := by show _ = _; rw [isF_T, x1_4]; rfl
            have n1_3 : ((bs (fx (c.T k))).toList == [102, 97, 108, 115, 101]) = false := gl_false (by rw [bs_list, x1_4]; decide)
            have Q1_4_3 : Hid (isF c.E [102, 97, 108, 115, 101] (c.R k) = false) := by show _ = _; rw [isF_T, x1_4]; rfl
            have n1_4 : ((bs (fx (c.T k))).toList == [40]) = true := gl_true (by rw [bs_list, x1_4])
            have Q1_4_4 : Hid (isF c.E [40] (c.R k) = true) := by show _ = _; rw [isF_T, x1_4]; rfl
            have hlt : k < c.ts.length := fx_in G2.out.1.le (by rw [x1_4]; decide)
            clear x1_0 x1_1 x1_2 x1_3 x1_4
            go_wp2_with fail
            refine (IHB.out _ G2.out.1).mono ?_; rintro e w11 ⟨r, hD, hr⟩
            rcases r with p | ⟨t11, R1⟩
            · obtain ⟨rfl, hO⟩ := hr
              have HO := Lib.hid (G2.out.2.trans hO)
              have D11 := Lib.hid hD
              clear hD hO
              unfold sflt
              go_wp2_with fail
              exact bodyPost_panic rfl (post_err (show D c.E .fixedPrimary (c.R k) (.error p) from D.mk1 D11.out fun m h0 => by simp only [body, Bool.false_eq_true, if_false, if_true, Q1_4_0.out, Q1_4_1.out, Q1_4_2.out, Q1_4_3.out, Q1_4_4.out, h0]) rfl HO.out)
            · obtain ⟨j11, v11, rfl, hj11, rfl, hG, hT⟩ := hr
              have G12 : Hid (Go1 c w w11 j11) := ⟨hG.1, G2.out.2.trans hG.2⟩
              have T11 := Lib.hid (hT.lower G2.out.2.size)
              have D11 := Lib.hid hD
              clear hD hG hT
              go_wp2_with fail
              go_ret
              exact post_ok (show D c.E .fixedPrimary (c.R k) (.ok (t11, c.R j11)) from D.mk1 D11.out fun m h0 => by simp only [body, Bool.false_eq_true, if_false, if_true, Q1_4_0.out, Q1_4_1.out, Q1_4_2.out, Q1_4_3.out, Q1_4_4.out, h0]) (by omega) rfl G12.out.1 G12.out.2 T11.out
          · skip
            by_cases x1_5 : fx (c.T k) = [91]
            · have n1_0 : ((bs (fx (c.T k))).toList == [116, 104, 105, 115]) = false := gl_false (by rw [bs_list, x1_5]; decide)
              have Q1_5_0 : Hid (isF c.E [116, 104, 105, 115] (c.R k) = false) := by show _ = _; rw [isF_T, x1_5]; rfl
              have n1_1 : ((bs (fx (c.T k))).toList == [110, 117, 108, 108]) = false := gl_false (by rw [bs_list, x1_5]; decide)
              have Q1_5_1 : Hid (isF c.E [110, 117, 108, 108] (c.R k) = false) := by show _ = _; rw [isF_T, x1_5]; rfl
              have n1_2 : ((bs (fx (c.T k))).toList == [116, 114, 117, 101]) = false := gl_false (by rw [bs_list, x1_5]; decide)
              have Q1_5_2 : Hid (isF c.E [116, 114, 117, 101] (c.R k) = false) := by show _ = _; rw [isF_T, x1_5]; rfl
              have n1_3 : ((bs (fx (c.T k))).toList == [102, 97, 108, 115, 101]) = false := gl_false (by rw [bs_list, x1_5]; decide)
              have Q1_5_3 : Hid (isF c.E [102, 97, 108, 115, 101] (c.R k) = false) := by show _ = _; rw [isF_T, x1_5]; rfl
              have n1_4 : ((bs (fx (c.T k))).toList == [40]) = false := gl_false (by rw [bs_list, x1_5]; decide)
              have Q1_5_4 : Hid (isF c.E [40] (c.R k) = false) := by show _ = _; rw [isF_T, x1_5]; rfl
              have n1_5 : ((bs (fx (c.T k))).toList == [91]) = true := gl_true (by rw [bs_list, x1_5])
              have Q1_5_5 : Hid (isF c.E [91] (c.R k) = true) := by show _ = _; rw [isF_T, x1_5]; rfl
              have hlt : k < c.ts.length := fx_in G2.out.1.le (by rw [x1_5]; decide)
              clear x1_0 x1_1 x1_2 x1_3 x1_4 x1_5
              have ac1 := G2.out.1.c1
              have af1 := G2.out.1.fz 1
              go_wp2_with fail
              clear ac1 af1
              have hG : Go1 c w1 (w1.setCell ⟨c.b, 1, none⟩ (.int .i64 ((k : Int) + 1))) (k + 1) := ⟨G2.out.1.next (j := k + 1) (by omega), (Off.refl _ _).set 1 _⟩
              have G14 : Hid (Go1 c w (w1.setCell ⟨c.b, 1, none⟩ (.int .i64 ((k : Int) + 1))) (k + 1)) := ⟨hG.1, G2.out.2.trans hG.2⟩
              clear hG
              have hz13 : (w1.setCell ⟨c.b, 1, none⟩ (.int .i64 ((k : Int) + 1))).heap.size = w1.heap.size := by simp [World.setCell]
              generalize w1.setCell ⟨c.b, 1, none⟩ (.int .i64 ((k : Int) + 1)) = u13 at *
              refine (IHL.out (k + 1) (by omega) _ G14.out.1).mono ?_; rintro e w15 ⟨r, hD, hr⟩
              rcases r with p | ⟨t15, R1⟩
              · obtain ⟨rfl, hO⟩ := hr
                have HO := Lib.hid (G14.out.2.trans hO)
                have D15 := Lib.hid hD
                clear hD hO
                unfold sflt
                go_wp2_with fail
                exact bodyPost_panic rfl (post_err (show D c.E .fixedPrimary (c.R k) (.error p) from D.mk1 D15.out fun m h0 => by simp only [body, Bool.false_eq_true, if_false, if_true, R_tail, bnd, Q1_5_0.out, Q1_5_1.out, Q1_5_2.out, Q1_5_3.out, Q1_5_4.out, Q1_5_5.out, h0]) rfl HO.out)
              · obtain ⟨j15, v15, vs15, S15, rfl, hj15, rfl, hG, hW, hK, hS, hN⟩ := hr
                have G16 : Hid (Go1 c w w15 j15) := ⟨hG.1, G14.out.2.trans hG.2⟩
                have HW15 := Lib.hid (own_mono hW G14.out.2.size)
                have HK15 := Lib.hid hK
                have HN15 := Lib.hid hN
                have HS15 : Hid (∀ i, S15 i → F w.heap.size w15.heap.size i) := fun i hi => F.mono G14.out.2.size (Nat.le_refl _) i (hS i hi)
                obtain ⟨ao15, cp15, rfl⟩ := own_slice hW
                have D15 := Lib.hid hD
                clear hD hG hW hK hS hN
                go_wp2_with fail
                refine (newNode_any _ _ _ _ _ _).mono ?_; rintro e w17 hm
                obtain ⟨a17, rfl, hT, hB⟩ := node_row (k := 28) (x := []) HK15.out HS15.out G16.out.2.size HW15.out hm
                have G18 : Hid (Go1 c w w17 j15) := ⟨G16.out.1.below hB, G16.out.2.below hB⟩
                have T17 := Lib.hid hT
                clear hT hB hm
                go_wp2_with fail
                go_ret
                exact post_ok (show D c.E .fixedPrimary (c.R k) (.ok ((nd 28 [] t15.kids), c.R j15)) from D.mk1 D15.out fun m h0 => by simp only [body, Bool.false_eq_true, if_false, if_true, R_tail, bnd, ret, Q1_5_0.out, Q1_5_1.out, Q1_5_2.out, Q1_5_3.out, Q1_5_4.out, Q1_5_5.out, h0]) (by omega) rfl G18.out.1 G18.out.2 T17.out
            · skip
              by_cases x1_6 : fx (c.T k) = [123]
              · have n1_0 : ((bs (fx (c.T k))).toList == [116, 104, 105, 115]) = false := gl_false (by rw [bs_list, x1_6]; decide)
                have Q1_6_0 : Hid (isF c.E [116, 104, 105, 115] (c.R k) = false) := by show _ = _; rw [isF_T, x1_6]; rfl
                have n1_1 : ((bs (fx (c.T k))).toList == [110, 117, 108, 108]) = false := gl_false (by rw [bs_list, x1_6]; decide)
                have Q1_6_1 : Hid (isF c.E [110, 117, 108, 108] (c.R k) = false) := by show _ = _; rw [isF_T, x1_6]; rfl
                have n1_2 : ((bs (fx (c.T k))).toList == [116, 114, 117, 101]) = false := gl_false (by rw [bs_list, x1_6]; decide)
                have Q1_6_2 : Hid (isF c.E [116, 114, 117, 101] (c.R k) = false) := by show _ = _; rw [isF_T, x1_6]; rfl
                have n1_3 : ((bs (fx (c.T k))).toList == [102, 97, 108, 115, 101]) = false := gl_false (by rw [bs_list, x1_6]; decide)
                have Q1_6_3 : Hid (isF c.E [102, 97, 108, 115, 101] (c.R k) = false) := by show _ = _; rw [isF_T, x1_6]; rfl
                have n1_4 : ((bs (fx (c.T k))).toList == [40]) = false := gl_false (by rw [bs_list, x1_6]; decide)
                have Q1_6_4 : Hid (isF c.E [40] (c.R k) = false) := by show _ = _; rw [isF_T, x1_6]; rfl
                have n1_5 : ((bs (fx (c.T k))).toList == [91]) = false := gl_false (by rw [bs_list, x1_6]; decide)
                have Q1_6_5 : Hid (isF c.E [91] (c.R k) = false) := by show _ = _; rw [isF_T, x1_6]; rfl
                have n1_6 : ((bs (fx (c.T k))).toList == [123]) = true := gl_true (by rw [bs_list, x1_6])
                have Q1_6_6 : Hid (isF c.E [123] (c.R k) = true) := by show _ = _; rw [isF_T, x1_6]; rfl
                have hlt : k < c.ts.length := fx_in G2.out.1.le (by rw [x1_6]; decide)
                clear x1_0 x1_1 x1_2 x1_3 x1_4 x1_5 x1_6
                have ac1 := G2.out.1.c1
                have af1 := G2.out.1.fz 1
                go_wp2_with fail
                clear ac1 af1
                have hG : Go1 c w1 (w1.setCell ⟨c.b, 1, none⟩ (.int .i64 ((k : Int) + 1))) (k + 1) := ⟨G2.out.1.next (j := k + 1) (by omega), (Off.refl _ _).set 1 _⟩
                have G20 : Hid (Go1 c w (w1.setCell ⟨c.b, 1, none⟩ (.int .i64 ((k : Int) + 1))) (k + 1)) := ⟨hG.1, G2.out.2.trans hG.2⟩
                clear hG
                have hz19 : (w1.setCell ⟨c.b, 1, none⟩ (.int .i64 ((k : Int) + 1))).heap.size = w1.heap.size := by simp [World.setCell]
                generalize w1.setCell ⟨c.b, 1, none⟩ (.int .i64 ((k : Int) + 1)) = u19 at *
                refine (IHO.out (k + 1) (by omega) _ G20.out.1).mono ?_; rintro e w21 ⟨r, hD, hr⟩
                rcases r with p | ⟨t21, R1⟩
                · obtain ⟨rfl, hO⟩ := hr
                  have HO := Lib.hid (G20.out.2.trans hO)
                  have D21 := Lib.hid hD
                  clear hD hO
                  unfold sflt
                  go_wp2_with fail
                  exact bodyPost_panic rfl (post_err (show D c.E .fixedPrimary (c.R k) (.error p) from D.mk1 D21.out fun m h0 => by simp only [body, Bool.false_eq_true, if_false, if_true, R_tail, bnd, Q1_6_0.out, Q1_6_1.out, Q1_6_2.out, Q1_6_3.out, Q1_6_4.out, Q1_6_5.out, Q1_6_6.out, h0]) rfl HO.out)
                · obtain ⟨j21, v21, vs21, S21, rfl, hj21, rfl, hG, hW, hK, hS, hN⟩ := hr
                  have G22 : Hid (Go1 c w w21 j21) := ⟨hG.1, G20.out.2.trans hG.2⟩
                  have HW21 := Lib.hid (own_mono hW G20.out.2.size)
                  have HK21 := Lib.hid hK
                  have HN21 := Lib.hid hN
                  have HS21 : Hid (∀ i, S21 i → F w.heap.size w21.heap.size i) := fun i hi => F.mono G20.out.2.size (Nat.le_refl _) i (hS i hi)
                  obtain ⟨ao21, cp21, rfl⟩ := own_slice hW
                  have D21 := Lib.hid hD
                  clear hD hG hW hK hS hN
                  go_wp2_with fail
                  refine (newNode_any _ _ _ _ _ _).mono ?_; rintro e w23 hm
                  obtain ⟨a23, rfl, hT, hB⟩ := node_row (k := 29) (x := []) HK21.out HS21.out G22.out.2.size HW21.out hm
                  have G24 : Hid (Go1 c w w23 j21) := ⟨G22.out.1.below hB, G22.out.2.below hB⟩
                  have T23 := Lib.hid hT
                  clear hT hB hm
                  go_wp2_with fail
                  go_ret
                  exact post_ok (show D c.E .fixedPrimary (c.R k) (.ok ((nd 29 [] t21.kids), c.R j21)) from D.mk1 D21.out fun m h0 => by simp only [body, Bool.false_eq_true, if_false, if_true, R_tail, bnd, ret, Q1_6_0.out, Q1_6_1.out, Q1_6_2.out, Q1_6_3.out, Q1_6_4.out, Q1_6_5.out, Q1_6_6.out, h0]) (by omega) rfl G24.out.1 G24.out.2 T23.out
              · skip
                by_cases x1_7 : fx (c.T k) = [102, 117, 110, 99, 116, 105, 111, 110]
                · have n1_0 : ((bs (fx (c.T k))).toList == [116, 104, 105, 115]) = false := gl_false (by rw [bs_list, x1_7]; decide)
                  have Q1_7_0 : Hid (isF c.E [116, 104, 105, 115] (c.R k) = false) := by show _ = _; rw [isF_T, x1_7]; rfl
                  have n1_1 : ((bs (fx (c.T k))).toList == [110, 117, 108, 108]) = false := gl_false (by rw [bs_list, x1_7]; decide)
                  have Q1_7_1 : Hid (isF c.E [110, 117, 108, 108] (c.R k) = false) := by show _ = _; rw [isF_T, x1_7]; rfl
                  have n1_2 : ((bs (fx (c.T k))).toList == [116, 114, 117, 101]) = false := gl_false (by rw [bs_list, x1_7]; decide)
                  have Q1_7_2 : Hid (isF c.E [116, 114, 117, 101] (c.R k) = false) := by show _ = _; rw [isF_T, x1_7]; rfl
                  have n1_3 : ((bs (fx (c.T k))).toList == [102, 97, 108, 115, 101]) = false := gl_false (by rw [bs_list, x1_7]; decide)
                  have Q1_7_3 : Hid (isF c.E [102, 97, 108, 115, 101] (c.R k) = false) := by show _ = _; rw [isF_T, x1_7]; rfl
                  have n1_4 : ((bs (fx (c.T k))).toList == [40]) = false := gl_false (by rw [bs_list, x1_7]; decide)
                  have Q1_7_4 : Hid (isF c.E [40] (c.R k) = false) := by show _ = _; rw [isF_T, x1_7]; rfl
                  have n1_5 : ((bs (fx (c.T k))).toList == [91]) = false := gl_false (by rw [bs_list, x1_7]; decide)
                  have Q1_7_5 : Hid (isF c.E [91] (c.R k) = false) := by show _ = _; rw [isF_T, x1_7]; rfl
                  have n1_6 : ((bs (fx (c.T k))).toList == [123]) = false := gl_false (by rw [bs_list, x1_7]; decide)
                  have Q1_7_6 : Hid (isF c.E [123] (c.R k) = false) := by show _ = _; rw [isF_T, x1_7]; rfl
                  have n1_7 : ((bs (fx (c.T k))).toList == [102, 117, 110, 99, 116, 105, 111, 110]) = true := gl_true (by rw [bs_list, x1_7])
                  have Q1_7_7 : Hid (isF c.E [102, 117, 110, 99, 116, 105, 111, 110] (c.R k) = true) := by show _ = _; rw [isF_T, x1_7]; rfl
                  have hlt : k < c.ts.length := fx_in G2.out.1.le (by rw [x1_7]; decide)
                  clear x1_0 x1_1 x1_2 x1_3 x1_4 x1_5 x1_6 x1_7
                  have ac1 := G2.out.1.c1
                  have af1 := G2.out.1.fz 1
                  go_wp2_with fail
                  clear ac1 af1
                  have hG : Go1 c w1 (w1.setCell ⟨c.b, 1, none⟩ (.int .i64 ((k : Int) + 1))) (k + 1) := ⟨G2.out.1.next (j := k + 1) (by omega), (Off.refl _ _).set 1 _⟩
                  have G26 : Hid (Go1 c w (w1.setCell ⟨c.b, 1, none⟩ (.int .i64 ((k : Int) + 1))) (k + 1)) := ⟨hG.1, G2.out.2.trans hG.2⟩
                  clear hG
                  have hz25 : (w1.setCell ⟨c.b, 1, none⟩ (.int .i64 ((k : Int) + 1))).heap.size = w1.heap.size := by simp [World.setCell]
                  generalize w1.setCell ⟨c.b, 1, none⟩ (.int .i64 ((k : Int) + 1)) = u25 at *
                  cases hq : isF c.E [40] (c.R (k + 1))
                  · by_cases hk : (c.T (k + 1)).kind = 1
                    · refine (optName_some c (k + 1) _ G26.out.1 hq hk).mono ?_; rintro e w27 ⟨rfl, hG⟩
                      have G28 : Hid (Go1 c w w27 ((k + 1) + 1)) := ⟨hG.1, G26.out.2.trans hG.2⟩
                      have Q27 := Lib.hid hq
                      have Q27b := Lib.hid hk
                      clear hG hq hk
                      go_wp2_with fail
                      refine (IHG.out ((k + 1) + 1) (by omega) (c.T (k + 1)).text _ G28.out.1).mono ?_; rintro e w29 ⟨r, hD, hr⟩
                      rcases r with p | ⟨t29, R1⟩
                      · obtain ⟨rfl, hO⟩ := hr
                        have HO := Lib.hid (G28.out.2.trans hO)
                        have D29 := Lib.hid hD
                        clear hD hO
                        unfold sflt
                        go_wp2_with fail
                        exact bodyPost_panic rfl (post_err (show D c.E .fixedPrimary (c.R k) (.error p) from D.mk1 D29.out fun m h0 => by simp only [body, Bool.false_eq_true, if_false, if_true, R_tail, nameK, R_hd, Q1_7_0.out, Q1_7_1.out, Q1_7_2.out, Q1_7_3.out, Q1_7_4.out, Q1_7_5.out, Q1_7_6.out, Q1_7_7.out, Q27.out, Q27b.out, h0]) rfl HO.out)
                      · obtain ⟨j29, v29, rfl, hj29, rfl, hG, hT⟩ := hr
                        have G30 : Hid (Go1 c w w29 j29) := ⟨hG.1, G28.out.2.trans hG.2⟩
                        have T29 := Lib.hid (hT.lower G28.out.2.size)
                        have D29 := Lib.hid hD
                        clear hD hG hT
                        go_wp2_with fail
                        go_ret
                        exact post_ok (show D c.E .fixedPrimary (c.R k) (.ok (t29, c.R j29)) from D.mk1 D29.out fun m h0 => by simp only [body, Bool.false_eq_true, if_false, if_true, R_tail, nameK, R_hd, Q1_7_0.out, Q1_7_1.out, Q1_7_2.out, Q1_7_3.out, Q1_7_4.out, Q1_7_5.out, Q1_7_6.out, Q1_7_7.out, Q27.out, Q27b.out, h0]) (by omega) rfl G30.out.1 G30.out.2 T29.out
                    · refine (optName_no c (k + 1) _ G26.out.1 hq hk).mono ?_; rintro e w27 ⟨rfl, hB⟩
                      have HO := Lib.hid (G26.out.2.below hB)
                      have Q27 := Lib.hid hq
                      have Q27b := Lib.hid hk
                      clear hB hq hk
                      unfold sflt
                      go_wp2_with fail
                      exact bodyPost_panic rfl (post_err (show D c.E .fixedPrimary (c.R k) (.error (c.T (k + 1)).pos) from D.mk0 fun m => by simp only [body, Bool.false_eq_true, if_false, if_true, R_tail, nameK, bad, R_hd, Q1_7_0.out, Q1_7_1.out, Q1_7_2.out, Q1_7_3.out, Q1_7_4.out, Q1_7_5.out, Q1_7_6.out, Q1_7_7.out, Q27.out, Q27b.out]) rfl HO.out)
                  · refine (optName_none c (k + 1) _ G26.out.1 hq).mono ?_; rintro e w27 ⟨rfl, hB⟩
                    have G31 : Hid (Go1 c w w27 (k + 1)) := ⟨G26.out.1.below hB, G26.out.2.below hB⟩
                    have Q27 := Lib.hid hq
                    clear hB hq
                    go_wp2_with fail
                    refine (IHG.out (k + 1) (by omega) [] _ G31.out.1).mono ?_; rintro e w32 ⟨r, hD, hr⟩
                    rcases r with p | ⟨t32, R1⟩
                    · obtain ⟨rfl, hO⟩ := hr
                      have HO := Lib.hid (G31.out.2.trans hO)
                      have D32 := Lib.hid hD
                      clear hD hO
                      unfold sflt
                      go_wp2_with fail
                      exact bodyPost_panic rfl (post_err (show D c.E .fixedPrimary (c.R k) (.error p) from D.mk1 D32.out fun m h0 => by simp only [body, Bool.false_eq_true, if_false, if_true, R_tail, Q1_7_0.out, Q1_7_1.out, Q1_7_2.out, Q1_7_3.out, Q1_7_4.out, Q1_7_5.out, Q1_7_6.out, Q1_7_7.out, Q27.out, h0]) rfl HO.out)
                    · obtain ⟨j32, v32, rfl, hj32, rfl, hG, hT⟩ := hr
                      have G33 : Hid (Go1 c w w32 j32) := ⟨hG.1, G31.out.2.trans hG.2⟩
                      have T32 := Lib.hid (hT.lower G31.out.2.size)
                      have D32 := Lib.hid hD
                      clear hD hG hT
                      go_wp2_with fail
                      go_ret
                      exact post_ok (show D c.E .fixedPrimary (c.R k) (.ok (t32, c.R j32)) from D.mk1 D32.out fun m h0 => by simp only [body, Bool.false_eq_true, if_false, if_true, R_tail, Q1_7_0.out, Q1_7_1.out, Q1_7_2.out, Q1_7_3.out, Q1_7_4.out, Q1_7_5.out, Q1_7_6.out, Q1_7_7.out, Q27.out, h0]) (by omega) rfl G33.out.1 G33.out.2 T32.out
                · have n1_0 : ((bs (fx (c.T k))).toList == [116, 104, 105, 115]) = false := gl_false (by rw [bs_list]; exact x1_0)
                  have Q1_d_0 : Hid (isF c.E [116, 104, 105, 115] (c.R k) = false) := by show _ = _; rw [isF_T, beq_eq_false_iff_ne]; exact x1_0
                  have n1_1 : ((bs (fx (c.T k))).toList == [110, 117, 108, 108]) = false := gl_false (by rw [bs_list]; exact x1_1)
                  have Q1_d_1 : Hid (isF c.E [110, 117, 108, 108] (c.R k) = false) := by show _ = _; rw [isF_T, beq_eq_false_iff_ne]; exact x1_1
                  have n1_2 : ((bs (fx (c.T k))).toList == [116, 114, 117, 101]) = false := gl_false (by rw [bs_list]; exact x1_2)
                  have Q1_d_2 : Hid (isF c.E [116, 114, 117, 101] (c.R k) = false) := by show _ = _; rw [isF_T, beq_eq_false_iff_ne]; exact x1_2
                  have n1_3 : ((bs (fx (c.T k))).toList == [102, 97, 108, 115, 101]) = false := gl_false (by rw [bs_list]; exact x1_3)
                  have Q1_d_3 : Hid (isF c.E [102, 97, 108, 115, 101] (c.R k) = false) := by show _ = _; rw [isF_T, beq_eq_false_iff_ne]; exact x1_3
                  have n1_4 : ((bs (fx (c.T k))).toList == [40]) = false := gl_false (by rw [bs_list]; exact x1_4)
                  have Q1_d_4 : Hid (isF c.E [40] (c.R k) = false) := by show _ = _; rw [isF_T, beq_eq_false_iff_ne]; exact x1_4
                  have n1_5 : ((bs (fx (c.T k))).toList == [91]) = false := gl_false (by rw [bs_list]; exact x1_5)
                  have Q1_d_5 : Hid (isF c.E [91] (c.R k) = false) := by show _ = _; rw [isF_T, beq_eq_false_iff_ne]; exact x1_5
                  have n1_6 : ((bs (fx (c.T k))).toList == [123]) = false := gl_false (by rw [bs_list]; exact x1_6)
                  have Q1_d_6 : Hid (isF c.E [123] (c.R k) = false) := by show _ = _; rw [isF_T, beq_eq_false_iff_ne]; exact x1_6
                  have n1_7 : ((bs (fx (c.T k))).toList == [102, 117, 110, 99, 116, 105, 111, 110]) = false := gl_false (by rw [bs_list]; exact x1_7)
                  have Q1_d_7 : Hid (isF c.E [102, 117, 110, 99, 116, 105, 111, 110] (c.R k) = false) := by show _ = _; rw [isF_T, beq_eq_false_iff_ne]; exact x1_7
                  clear x1_0 x1_1 x1_2 x1_3 x1_4 x1_5 x1_6 x1_7
                  go_wp2_with fail
                  refine (sgiveUp_any c k _ G2.out.1).mono ?_; rintro e w34 ⟨rfl, hB⟩
                  have HO := Lib.hid (G2.out.2.below hB)
                  clear hB
                  unfold sflt
                  go_wp2_with fail
                  exact bodyPost_panic rfl (post_err (show D c.E .fixedPrimary (c.R k) (.error (c.T k).pos) from D.mk0 fun m => by simp only [body, Bool.false_eq_true, if_false, bad, R_hd, Q1_d_0.out, Q1_d_1.out, Q1_d_2.out, Q1_d_3.out, Q1_d_4.out, Q1_d_5.out, Q1_d_6.out, Q1_d_7.out]) rfl HO.out)
end Go.Proofs.YtnkfodelgpidkaaGreatDoor
