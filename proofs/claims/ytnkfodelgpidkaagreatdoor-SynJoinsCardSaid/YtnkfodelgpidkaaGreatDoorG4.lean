/- Expressions, by the reader of trees: what binds tightest. -/
import Derived.Test.YtnkfodelgpidkaaGreatDoorG3
namespace Go.Proofs.YtnkfodelgpidkaaGreatDoor
open Go.RowKit
set_option linter.unusedVariables false

set_option maxRecDepth 100000 in
set_option maxHeartbeats 1000000 in
theorem part_any (c : Cx) (k : Nat) (ihe : ∀ j, k < j → Ok c .expr 161 #[c.p] j) : OkX c .part 254 k := by
  intro w lo v0 t0 hlo hbl hT0 h
  have hfew := h.ok.few
  have G0 : Hid (Go1 c w w k) := ⟨h, Off.refl _ _⟩
  have T0 := Lib.hid hT0
  have IHE := Lib.hid ihe
  clear h hT0 ihe
  go_enter Tryz.func254, Tryz.ntmps254
  go_wp2_with fail
  cases hq : isF c.E [46] (c.R k)
  · refine (skip_no c k ⟨#[46]⟩ _ G0.out.1 hq).mono ?_; rintro e w1 ⟨rfl, hB⟩
    have G2 : Hid (Go1 c w w1 k) := ⟨G0.out.1.below hB, G0.out.2.below hB⟩
    have T3 := Lib.hid (T0.out.stay hB)
    have Q1 := Lib.hid hq
    clear hB hq
    go_wp2_with fail
    cases hq : isF c.E [91] (c.R k)
    · refine (need_no c k ⟨#[91]⟩ _ G2.out.1 hq).mono ?_; rintro e w4 ⟨rfl, hB⟩
      have HO := Lib.hid (G2.out.2.below hB)
      have Q4 := Lib.hid hq
      clear hB hq
      unfold sflt
      go_wp2_with fail
      exact bodyPost_panic rfl (postF_err (show D c.E (.part t0) (c.R k) (.error (c.T k).pos) from D.mk0 fun m => by simp only [body, Bool.false_eq_true, if_false, need, bad, R_hd, Q1.out, Q4.out]) rfl HO.out)
    · refine (need_yes c k ⟨#[91]⟩ (by decide) _ G2.out.1 hq).mono ?_; rintro e w4 ⟨rfl, hG⟩
      have G5 : Hid (Go1 c w w4 (k + 1)) := ⟨hG.1, G2.out.2.trans hG.2⟩
      have T6 := Lib.hid (T3.out.off hG.2 hbl)
      have Q4 := Lib.hid hq
      clear hG hq
      go_wp2_with fail
      refine (IHE.out (k + 1) (by omega) _ G5.out.1).mono ?_; rintro e w7 ⟨r, hD, hr⟩
      rcases r with p | ⟨t7, R1⟩
      · obtain ⟨rfl, hO⟩ := hr
        have HO := Lib.hid (G5.out.2.trans hO)
        have D7 := Lib.hid hD
        clear hD hO
        unfold sflt
        go_wp2_with fail
        exact bodyPost_panic rfl (postF_err (show D c.E (.part t0) (c.R k) (.error p) from D.mk1 D7.out fun m h0 => by simp only [body, Bool.false_eq_true, if_false, need, if_true, R_tail, bnd, Q1.out, Q4.out, h0]) rfl HO.out)
      · obtain ⟨j7, vv, rfl, hj7, rfl, hG, hT⟩ := hr
        obtain ⟨v7, rfl⟩ := hT.ptr
        have G8 : Hid (Go1 c w w7 j7) := ⟨hG.1, G5.out.2.trans hG.2⟩
        have T9 := Lib.hid (T6.out.off hG.2 hbl)
        have T7 := Lib.hid (hT.lower (Nat.le_trans hlo G5.out.2.size))
        have D7 := Lib.hid hD
        clear hD hG hT
        go_wp2_with fail
        cases hq : isF c.E [93] (c.R j7)
        · refine (need_no c j7 ⟨#[93]⟩ _ G8.out.1 hq).mono ?_; rintro e w10 ⟨rfl, hB⟩
          have HO := Lib.hid (G8.out.2.below hB)
          have Q10 := Lib.hid hq
          clear hB hq
          unfold sflt
          go_wp2_with fail
          exact bodyPost_panic rfl (postF_err (show D c.E (.part t0) (c.R k) (.error (c.T j7).pos) from D.mk1 D7.out fun m h0 => by simp only [body, Bool.false_eq_true, if_false, need, if_true, R_tail, bnd, bad, R_hd, Q1.out, Q4.out, Q10.out, h0]) rfl HO.out)
        · refine (need_yes c j7 ⟨#[93]⟩ (by decide) _ G8.out.1 hq).mono ?_; rintro e w10 ⟨rfl, hG⟩
          have G11 : Hid (Go1 c w w10 (j7 + 1)) := ⟨hG.1, G8.out.2.trans hG.2⟩
          have T12 := Lib.hid (T9.out.off hG.2 hbl)
          have T13 := Lib.hid (T7.out.off hG.2 hbl)
          have Q10 := Lib.hid hq
          clear hG hq
          go_wp2_with fail
          refine (newNode_any _ _ _ _ _ _).mono ?_; rintro e w14 hm
          obtain ⟨a14, rfl, hT, hB⟩ := node_kids (k := 33) (x := []) (vs := [(.pointer (some ⟨v0, 0, none⟩)), (.pointer (some ⟨v7, 0, none⟩))]) (kids := [t0, t7]) (IsTs.cons T12.out (IsTs.cons T13.out (IsTs.nil _ _))) (Nat.le_trans hlo G11.out.2.size) hm
          have G15 : Hid (Go1 c w w14 (j7 + 1)) := ⟨G11.out.1.below hB, G11.out.2.below hB⟩
          have T16 := Lib.hid (T12.out.stay hB)
          have T17 := Lib.hid (T13.out.stay hB)
          have T14 := Lib.hid hT
          clear hT hB hm
          go_wp2_with fail
          go_ret
          exact postF_ok (show D c.E (.part t0) (c.R k) (.ok ((nd 33 [] [t0, t7]), c.R (j7 + 1))) from D.mk1 D7.out fun m h0 => by simp only [body, Bool.false_eq_true, if_false, need, if_true, R_tail, bnd, ret, Q1.out, Q4.out, Q10.out, h0]) (by omega) rfl G15.out.1 G15.out.2 T14.out
  · refine (skip_yes c k ⟨#[46]⟩ (by decide) _ G0.out.1 hq).mono ?_; rintro e w1 ⟨rfl, hG⟩
    have G18 : Hid (Go1 c w w1 (k + 1)) := ⟨hG.1, G0.out.2.trans hG.2⟩
    have T19 := Lib.hid (T0.out.off hG.2 hbl)
    have Q1 := Lib.hid hq
    clear hG hq
    go_wp2_with fail
    by_cases hq : (c.T (k + 1)).kind = 1 ∨ (c.T (k + 1)).kind = 2
    · refine (skey_yes c (k + 1) _ G18.out.1 hq).mono ?_; rintro e w20 ⟨rfl, hG⟩
      have G21 : Hid (Go1 c w w20 ((k + 1) + 1)) := ⟨hG.1, G18.out.2.trans hG.2⟩
      have T22 := Lib.hid (T19.out.off hG.2 hbl)
      have Q20 := Lib.hid hq
      clear hG hq
      go_wp2_with fail
      refine (newNode_any _ _ _ _ _ _).mono ?_; rintro e w23 hm
      obtain ⟨a23, rfl, hT, hB⟩ := node_kids (k := 32) (x := (c.T (k + 1)).text) (vs := [(.pointer (some ⟨v0, 0, none⟩))]) (kids := [t0]) (IsTs.cons T22.out (IsTs.nil _ _)) (Nat.le_trans hlo G21.out.2.size) hm
      have G24 : Hid (Go1 c w w23 ((k + 1) + 1)) := ⟨G21.out.1.below hB, G21.out.2.below hB⟩
      have T25 := Lib.hid (T22.out.stay hB)
      have T23 := Lib.hid hT
      clear hT hB hm
      go_wp2_with fail
      go_ret
      exact postF_ok (show D c.E (.part t0) (c.R k) (.ok ((nd 32 (c.T (k + 1)).text [t0]), c.R ((k + 1) + 1))) from D.mk0 fun m => by simp only [body, if_true, R_tail, keyK, R_hd, ret, Q1.out, Q20.out]) (by omega) rfl G24.out.1 G24.out.2 T23.out
    · refine (skey_no c (k + 1) _ G18.out.1 hq).mono ?_; rintro e w20 ⟨rfl, hB⟩
      have HO := Lib.hid (G18.out.2.below hB)
      have Q20 := Lib.hid hq
      clear hB hq
      unfold sflt
      go_wp2_with fail
      exact bodyPost_panic rfl (postF_err (show D c.E (.part t0) (c.R k) (.error (c.T (k + 1)).pos) from D.mk0 fun m => by simp only [body, if_true, R_tail, keyK, if_false, bad, R_hd, Q1.out, Q20.out]) rfl HO.out)
set_option maxRecDepth 100000 in
set_option maxHeartbeats 1000000 in
theorem primaryOrNew_any (c : Cx) (k : Nat) (ihn : Ok c .newObject 256 #[c.p] k) (ihp : Ok c .primary 257 #[c.p] k) : Ok c .primaryOrNew 253 #[c.p] k := by
  intro w h
  have hbl := h.lt
  have hfew := h.ok.few
  have G0 : Hid (Go1 c w w k) := ⟨h, Off.refl _ _⟩
  have IHN := Lib.hid ihn
  have IHP := Lib.hid ihp
  clear h ihn ihp
  go_enter Tryz.func253, Tryz.ntmps253
  go_wp2_with fail
  cases hq : isF c.E [110, 101, 119] (c.R k)
  · refine (is_at c k ⟨#[110, 101, 119]⟩ _ G0.out.1 hq).mono ?_; rintro e w1 ⟨rfl, hB⟩
    have G2 : Hid (Go1 c w w1 k) := ⟨G0.out.1.below hB, G0.out.2.below hB⟩
    have Q1 := Lib.hid hq
    clear hB hq
    go_wp2_with fail
    refine (IHP.out _ G2.out.1).mono ?_; rintro e w3 ⟨r, hD, hr⟩
    rcases r with p | ⟨t3, R1⟩
    · obtain ⟨rfl, hO⟩ := hr
      have HO := Lib.hid (G2.out.2.trans hO)
      have D3 := Lib.hid hD
      clear hD hO
      unfold sflt
      go_wp2_with fail
      exact bodyPost_panic rfl (post_err (show D c.E .primaryOrNew (c.R k) (.error p) from D.mk1 D3.out fun m h0 => by simp only [body, Bool.false_eq_true, if_false, Q1.out, h0]) rfl HO.out)
    · obtain ⟨j3, v3, rfl, hj3, rfl, hG, hT⟩ := hr
      have G4 : Hid (Go1 c w w3 j3) := ⟨hG.1, G2.out.2.trans hG.2⟩
      have T3 := Lib.hid (hT.lower G2.out.2.size)
      have D3 := Lib.hid hD
      clear hD hG hT
      go_wp2_with fail
      go_ret
      exact post_ok (show D c.E .primaryOrNew (c.R k) (.ok (t3, c.R j3)) from D.mk1 D3.out fun m h0 => by simp only [body, Bool.false_eq_true, if_false, Q1.out, h0]) (by omega) rfl G4.out.1 G4.out.2 T3.out
  · refine (is_at c k ⟨#[110, 101, 119]⟩ _ G0.out.1 hq).mono ?_; rintro e w1 ⟨rfl, hB⟩
    have G5 : Hid (Go1 c w w1 k) := ⟨G0.out.1.below hB, G0.out.2.below hB⟩
    have Q1 := Lib.hid hq
    clear hB hq
    go_wp2_with fail
    refine (IHN.out _ G5.out.1).mono ?_; rintro e w6 ⟨r, hD, hr⟩
    rcases r with p | ⟨t6, R1⟩
    · obtain ⟨rfl, hO⟩ := hr
      have HO := Lib.hid (G5.out.2.trans hO)
      have D6 := Lib.hid hD
      clear hD hO
      unfold sflt
      go_wp2_with fail
      exact bodyPost_panic rfl (post_err (show D c.E .primaryOrNew (c.R k) (.error p) from D.mk1 D6.out fun m h0 => by simp only [body, if_true, Q1.out, h0]) rfl HO.out)
    · obtain ⟨j6, v6, rfl, hj6, rfl, hG, hT⟩ := hr
      have G7 : Hid (Go1 c w w6 j6) := ⟨hG.1, G5.out.2.trans hG.2⟩
      have T6 := Lib.hid (hT.lower G5.out.2.size)
      have D6 := Lib.hid hD
      clear hD hG hT
      go_wp2_with fail
      go_ret
      exact post_ok (show D c.E .primaryOrNew (c.R k) (.ok (t6, c.R j6)) from D.mk1 D6.out fun m h0 => by simp only [body, if_true, Q1.out, h0]) (by omega) rfl G7.out.1 G7.out.2 T6.out
set_option maxRecDepth 100000 in
set_option maxHeartbeats 1000000 in
theorem member_any (c : Cx) (k : Nat) (ihq : Ok c .primaryOrNew 253 #[c.p] k) (ihx : ∀ j, k < j → OkX c .part 254 j) (ihy : ∀ j, k < j → OkXL c .called 255 j) : Ok c .member 251 #[c.p] k := by
  intro w h
  have hbl := h.lt
  have hfew := h.ok.few
  have G0 : Hid (Go1 c w w k) := ⟨h, Off.refl _ _⟩
  have IHQ := Lib.hid ihq
  have IHX := Lib.hid ihx
  have IHY := Lib.hid ihy
  clear h ihy ihx ihq
  go_enter Tryz.func251, Tryz.ntmps251
  go_wp2_with fail
  refine (IHQ.out _ G0.out.1).mono ?_; rintro e w1 ⟨r, hD, hr⟩
  rcases r with p | ⟨t1, R1⟩
  · obtain ⟨rfl, hO⟩ := hr
    have HO := Lib.hid (G0.out.2.trans hO)
    have D1 := Lib.hid hD
    clear hD hO
    unfold sflt
    go_wp2_with fail
    exact bodyPost_panic rfl (post_err (show D c.E .member (c.R k) (.error p) from D.mk1 D1.out fun m h0 => by simp only [body, bnd, h0]) rfl HO.out)
  · obtain ⟨j1, vv, rfl, hj1, rfl, hG, hT⟩ := hr
    obtain ⟨v1, rfl⟩ := hT.ptr
    have G2 : Hid (Go1 c w w1 j1) := ⟨hG.1, G0.out.2.trans hG.2⟩
    have T1 := Lib.hid (hT.lower G0.out.2.size)
    have D1 := Lib.hid hD
    clear hD hG hT
    go_wp2_with fail
    have DC : Hid (∀ r, D c.E (.memMore t1) (c.R j1) r → D c.E .member (c.R k) r) := fun r h => D.mk2 D1.out h fun m h0 h1 => by simp only [body, bnd, h0, h1]
    go_loopg [3] (c.ts.length - j1) (fun g xx wr => ∃ (kj a : Nat) (t : Tr), xx = .pointer (some ⟨a, 0, none⟩) ∧ g = c.ts.length - kj ∧ k < kj ∧ Hid (Go1 c w wr kj) ∧ Hid (IsT wr (F w.heap.size wr.heap.size) (.pointer (some ⟨a, 0, none⟩)) t) ∧ Hid (∀ r, D c.E (.memMore t) (c.R kj) r → D c.E .member (c.R k) r))
    case atStart => exact ⟨j1, _, _, rfl, rfl, by omega, G2.out, T1.out, DC.out⟩
    case round =>
      obtain ⟨kj, aL, tL, rfl, rfl, hkj, GL, TL, DL⟩ := hrel
      go_wp2_with fail
      refine (fixed_any c kj _ GL.out.1).mono ?_; rintro e w3 ⟨rfl, hB⟩
      have G4 : Hid (Go1 c w w3 kj) := ⟨GL.out.1.below hB, GL.out.2.below hB⟩
      have T5 := Lib.hid (TL.out.stay hB)
      clear hB
      by_cases x3_0 : fx (c.T kj) = [46]
      · have n3_0 : ((bs (fx (c.T kj))).toList == [46]) = true := gl_true (by rw [bs_list, x3_0])
        have Q3_0_0 : Hid (isF c.E [46] (c.R kj) = true) := by show _ = _; rw [isF_T, x3_0]; rfl
        have hlt : kj < c.ts.length := fx_in G4.out.1.le (by rw [x3_0]; decide)
        clear x3_0
        go_wp2_with fail
        refine (IHX.out kj (by omega) _ w.heap.size _ _ G4.out.2.size hbl T5.out G4.out.1).mono ?_; rintro e w6 ⟨r, hD, hr⟩
        rcases r with p | ⟨t6, R1⟩
        · obtain ⟨rfl, hO⟩ := hr
          have HO := Lib.hid (G4.out.2.trans hO)
          have D6 := Lib.hid hD
          clear hD hO
          unfold sflt
          go_wp2_with fail
          exact bodyPost_panic rfl (post_err (show D c.E .member (c.R k) (.error p) from DL.out _ (D.mk1 D6.out fun m h0 => by simp only [body, if_true, bnd, Q3_0_0.out, h0])) rfl HO.out)
        · obtain ⟨j6, vv, rfl, hj6, rfl, hG, hT⟩ := hr
          obtain ⟨v6, rfl⟩ := hT.ptr
          have G7 : Hid (Go1 c w w6 j6) := ⟨hG.1, G4.out.2.trans hG.2⟩
          have T8 := Lib.hid (T5.out.off hG.2 hbl)
          have T6 := Lib.hid hT
          have D6 := Lib.hid hD
          clear hD hG hT
          go_wp2_with fail
          have hle := G7.out.1.le
          go_roundg (c.ts.length - j6)
          case measure => omega
          case rel => exact ⟨j6, _, _, rfl, rfl, by omega, G7.out, T6.out, fun r h => DL.out r (D.mk2 D6.out h fun m h0 h1 => by simp only [body, if_true, bnd, Q3_0_0.out, h0, h1])⟩
      · skip
        by_cases x3_1 : fx (c.T kj) = [91]
        · have n3_0 : ((bs (fx (c.T kj))).toList == [46]) = false := gl_false (by rw [bs_list, x3_1]; decide)
          have Q3_1_0 : Hid (isF c.E [46] (c.R kj) = false) := by show _ = _; rw [isF_T, x3_1]; rfl
          have n3_1 : ((bs (fx (c.T kj))).toList == [91]) = true := gl_true (by rw [bs_list, x3_1])
          have Q3_1_1 : Hid (isF c.E [91] (c.R kj) = true) := by show _ = _; rw [isF_T, x3_1]; rfl
          have hlt : kj < c.ts.length := fx_in G4.out.1.le (by rw [x3_1]; decide)
          clear x3_0 x3_1
          go_wp2_with fail
          refine (IHX.out kj (by omega) _ w.heap.size _ _ G4.out.2.size hbl T5.out G4.out.1).mono ?_; rintro e w9 ⟨r, hD, hr⟩
          rcases r with p | ⟨t9, R1⟩
          · obtain ⟨rfl, hO⟩ := hr
            have HO := Lib.hid (G4.out.2.trans hO)
            have D9 := Lib.hid hD
            clear hD hO
            unfold sflt
            go_wp2_with fail
            exact bodyPost_panic rfl (post_err (show D c.E .member (c.R k) (.error p) from DL.out _ (D.mk1 D9.out fun m h0 => by simp only [body, Bool.false_eq_true, if_false, if_true, bnd, Q3_1_0.out, Q3_1_1.out, h0])) rfl HO.out)
          · obtain ⟨j9, vv, rfl, hj9, rfl, hG, hT⟩ := hr
            obtain ⟨v9, rfl⟩ := hT.ptr
            have G10 : Hid (Go1 c w w9 j9) := ⟨hG.1, G4.out.2.trans hG.2⟩
            have T11 := Lib.hid (T5.out.off hG.2 hbl)
            have T9 := Lib.hid hT
            have D9 := Lib.hid hD
            clear hD hG hT
            go_wp2_with fail
            have hle := G10.out.1.le
            go_roundg (c.ts.length - j9)
            case measure => omega
            case rel => exact ⟨j9, _, _, rfl, rfl, by omega, G10.out, T9.out, fun r h => DL.out r (D.mk2 D9.out h fun m h0 h1 => by simp only [body, Bool.false_eq_true, if_false, if_true, bnd, Q3_1_0.out, Q3_1_1.out, h0, h1])⟩
        · skip
          by_cases x3_2 : fx (c.T kj) = [40]
          · have n3_0 : ((bs (fx (c.T kj))).toList == [46]) = false := gl_false (by rw [bs_list, x3_2]; decide)
            have Q3_2_0 : Hid (isF c.E [46] (c.R kj) = false) := by show _ = _; rw [isF_T, x3_2]; rfl
            have n3_1 : ((bs (fx (c.T kj))).toList == [91]) = false := gl_false (by rw [bs_list, x3_2]; decide)
            have Q3_2_1 : Hid (isF c.E [91] (c.R kj) = false) := by show _ = _; rw [isF_T, x3_2]; rfl
            have n3_2 : ((bs (fx (c.T kj))).toList == [40]) = true := gl_true (by rw [bs_list, x3_2])
            have Q3_2_2 : Hid (isF c.E [40] (c.R kj) = true) := by show _ = _; rw [isF_T, x3_2]; rfl
            have hlt : kj < c.ts.length := fx_in G4.out.1.le (by rw [x3_2]; decide)
            clear x3_0 x3_1 x3_2
            go_wp2_with fail
            refine (IHY.out kj (by omega) _ w.heap.size _ _ G4.out.2.size hbl T5.out G4.out.1).mono ?_; rintro e w12 ⟨r, hD, hr⟩
            rcases r with p | ⟨t12, R1⟩
            · obtain ⟨rfl, hO⟩ := hr
              have HO := Lib.hid (G4.out.2.trans hO)
              have D12 := Lib.hid hD
              clear hD hO
              unfold sflt
              go_wp2_with fail
              exact bodyPost_panic rfl (post_err (show D c.E .member (c.R k) (.error p) from DL.out _ (D.mk1 D12.out fun m h0 => by simp only [body, Bool.false_eq_true, if_false, if_true, bnd, Q3_2_0.out, Q3_2_1.out, Q3_2_2.out, h0])) rfl HO.out)
            · obtain ⟨j12, v12, vs12, S12, rfl, hj12, rfl, hG, hW, hK, hS, hN⟩ := hr
              have G13 : Hid (Go1 c w w12 j12) := ⟨hG.1, G4.out.2.trans hG.2⟩
              have T14 := Lib.hid (T5.out.off hG.2 hbl)
              have HW12 := Lib.hid hW
              have HK12 := Lib.hid hK
              have HN12 := Lib.hid hN
              have HS12 := Lib.hid hS
              obtain ⟨ao12, cp12, rfl⟩ := own_slice hW
              have D12 := Lib.hid hD
              clear hD hG hW hK hS hN
              go_wp2_with fail
              refine (newNode_any _ _ _ _ _ _).mono ?_; rintro e w15 hm
              obtain ⟨a15, rfl, hT, hB⟩ := node_row (k := 34) (x := []) HK12.out HS12.out G13.out.2.size HW12.out hm
              have G16 : Hid (Go1 c w w15 j12) := ⟨G13.out.1.below hB, G13.out.2.below hB⟩
              have T17 := Lib.hid (T14.out.stay hB)
              have T15 := Lib.hid hT
              clear hT hB hm
              go_wp2_with fail
              have hle := G16.out.1.le
              go_roundg (c.ts.length - j12)
              case measure => omega
              case rel => exact ⟨j12, _, _, rfl, rfl, by omega, G16.out, T15.out, fun r h => DL.out r (D.mk2 D12.out h fun m h0 h1 => by simp only [body, Bool.false_eq_true, if_false, if_true, bnd, Q3_2_0.out, Q3_2_1.out, Q3_2_2.out, h0, h1])⟩
          · have n3_0 : ((bs (fx (c.T kj))).toList == [46]) = false := gl_false (by rw [bs_list]; exact x3_0)
            have Q3_d_0 : Hid (isF c.E [46] (c.R kj) = false) := by show _ = _; rw [isF_T, beq_eq_false_iff_ne]; exact x3_0
            have n3_1 : ((bs (fx (c.T kj))).toList == [91]) = false := gl_false (by rw [bs_list]; exact x3_1)
            have Q3_d_1 : Hid (isF c.E [91] (c.R kj) = false) := by show _ = _; rw [isF_T, beq_eq_false_iff_ne]; exact x3_1
            have n3_2 : ((bs (fx (c.T kj))).toList == [40]) = false := gl_false (by rw [bs_list]; exact x3_2)
            have Q3_d_2 : Hid (isF c.E [40] (c.R kj) = false) := by show _ = _; rw [isF_T, beq_eq_false_iff_ne]; exact x3_2
            clear x3_0 x3_1 x3_2
            go_wp2_with fail
            go_ret
            exact post_ok (show D c.E .member (c.R k) (.ok (tL, c.R kj)) from DL.out _ (D.mk0 fun m => by simp only [body, Bool.false_eq_true, if_false, ret, Q3_d_0.out, Q3_d_1.out, Q3_d_2.out])) (by omega) rfl G4.out.1 G4.out.2 T5.out
set_option maxRecDepth 100000 in
set_option maxHeartbeats 1000000 in
theorem maker_any (c : Cx) (k : Nat) (ihn : Ok c .newObject 256 #[c.p] k) (ihp : Ok c .primary 257 #[c.p] k) (ihx : ∀ j, k < j → OkX c .part 254 j) : Ok c .maker 259 #[c.p] k := by
  intro w h
  have hbl := h.lt
  have hfew := h.ok.few
  have G0 : Hid (Go1 c w w k) := ⟨h, Off.refl _ _⟩
  have IHN := Lib.hid ihn
  have IHP := Lib.hid ihp
  have IHX := Lib.hid ihx
  clear h ihx ihn ihp
  go_enter Tryz.func259, Tryz.ntmps259
  go_wp2_with fail
  cases hq : isF c.E [110, 101, 119] (c.R k)
  · refine (is_at c k ⟨#[110, 101, 119]⟩ _ G0.out.1 hq).mono ?_; rintro e w1 ⟨rfl, hB⟩
    have G2 : Hid (Go1 c w w1 k) := ⟨G0.out.1.below hB, G0.out.2.below hB⟩
    have Q1 := Lib.hid hq
    clear hB hq
    go_wp2_with fail
    refine (IHP.out _ G2.out.1).mono ?_; rintro e w3 ⟨r, hD, hr⟩
    rcases r with p | ⟨t3, R1⟩
    · obtain ⟨rfl, hO⟩ := hr
      have HO := Lib.hid (G2.out.2.trans hO)
      have D3 := Lib.hid hD
      clear hD hO
      unfold sflt
      go_wp2_with fail
      exact bodyPost_panic rfl (post_err (show D c.E .maker (c.R k) (.error p) from D.mk1 D3.out fun m h0 => by simp only [body, Bool.false_eq_true, if_false, bnd, Q1.out, h0]) rfl HO.out)
    · obtain ⟨j3, vv, rfl, hj3, rfl, hG, hT⟩ := hr
      obtain ⟨v3, rfl⟩ := hT.ptr
      have G4 : Hid (Go1 c w w3 j3) := ⟨hG.1, G2.out.2.trans hG.2⟩
      have T3 := Lib.hid (hT.lower G2.out.2.size)
      have D3 := Lib.hid hD
      clear hD hG hT
      go_wp2_with fail
      have DC : Hid (∀ r, D c.E (.makMore t3) (c.R j3) r → D c.E .maker (c.R k) r) := fun r h => D.mk2 D3.out h fun m h0 h1 => by simp only [body, Bool.false_eq_true, if_false, bnd, Q1.out, h0, h1]
      go_loopg [3] (c.ts.length - j3) (fun g xx wr => ∃ (kj a : Nat) (t : Tr), xx = .pointer (some ⟨a, 0, none⟩) ∧ g = c.ts.length - kj ∧ k < kj ∧ Hid (Go1 c w wr kj) ∧ Hid (IsT wr (F w.heap.size wr.heap.size) (.pointer (some ⟨a, 0, none⟩)) t) ∧ Hid (∀ r, D c.E (.makMore t) (c.R kj) r → D c.E .maker (c.R k) r))
      case atStart => exact ⟨j3, _, _, rfl, rfl, by omega, G4.out, T3.out, DC.out⟩
      case round =>
        obtain ⟨kj, aL, tL, rfl, rfl, hkj, GL, TL, DL⟩ := hrel
        go_wp2_with fail
        cases hq : isF c.E [46] (c.R kj)
        · refine (is_at c kj ⟨#[46]⟩ _ GL.out.1 hq).mono ?_; rintro e w5 ⟨rfl, hB⟩
          have G6 : Hid (Go1 c w w5 kj) := ⟨GL.out.1.below hB, GL.out.2.below hB⟩
          have T7 := Lib.hid (TL.out.stay hB)
          have Q5 := Lib.hid hq
          clear hB hq
          go_wp2_with fail
          cases hq : isF c.E [91] (c.R kj)
          · refine (is_at c kj ⟨#[91]⟩ _ G6.out.1 hq).mono ?_; rintro e w8 ⟨rfl, hB⟩
            have G9 : Hid (Go1 c w w8 kj) := ⟨G6.out.1.below hB, G6.out.2.below hB⟩
            have T10 := Lib.hid (T7.out.stay hB)
            have Q8 := Lib.hid hq
            clear hB hq
            go_wp2_with fail
            go_ret
            exact post_ok (show D c.E .maker (c.R k) (.ok (tL, c.R kj)) from DL.out _ (D.mk0 fun m => by simp only [body, Bool.false_eq_true, if_false, ret, Q5.out, Q8.out])) (by omega) rfl G9.out.1 G9.out.2 T10.out
          · refine (is_at c kj ⟨#[91]⟩ _ G6.out.1 hq).mono ?_; rintro e w8 ⟨rfl, hB⟩
            have G11 : Hid (Go1 c w w8 kj) := ⟨G6.out.1.below hB, G6.out.2.below hB⟩
            have T12 := Lib.hid (T7.out.stay hB)
            have Q8 := Lib.hid hq
            clear hB hq
            go_wp2_with fail
            refine (IHX.out kj (by omega) _ w.heap.size _ _ G11.out.2.size hbl T12.out G11.out.1).mono ?_; rintro e w13 ⟨r, hD, hr⟩
            rcases r with p | ⟨t13, R1⟩
            · obtain ⟨rfl, hO⟩ := hr
              have HO := Lib.hid (G11.out.2.trans hO)
              have D13 := Lib.hid hD
              clear hD hO
              unfold sflt
              go_wp2_with fail
              exact bodyPost_panic rfl (post_err (show D c.E .maker (c.R k) (.error p) from DL.out _ (D.mk1 D13.out fun m h0 => by simp only [body, Bool.false_eq_true, if_false, if_true, bnd, Q5.out, Q8.out, h0])) rfl HO.out)
            · obtain ⟨j13, vv, rfl, hj13, rfl, hG, hT⟩ := hr
              obtain ⟨v13, rfl⟩ := hT.ptr
              have G14 : Hid (Go1 c w w13 j13) := ⟨hG.1, G11.out.2.trans hG.2⟩
              have T15 := Lib.hid (T12.out.off hG.2 hbl)
              have T13 := Lib.hid hT
              have D13 := Lib.hid hD
              clear hD hG hT
              go_wp2_with fail
              have hle := G14.out.1.le
              go_roundg (c.ts.length - j13)
              case measure => omega
              case rel => exact ⟨j13, _, _, rfl, rfl, by omega, G14.out, T13.out, fun r h => DL.out r (D.mk2 D13.out h fun m h0 h1 => by simp only [body, Bool.false_eq_true, if_false, if_true, bnd, Q5.out, Q8.out, h0, h1])⟩
        · refine (is_at c kj ⟨#[46]⟩ _ GL.out.1 hq).mono ?_; rintro e w5 ⟨rfl, hB⟩
          have G16 : Hid (Go1 c w w5 kj) := ⟨GL.out.1.below hB, GL.out.2.below hB⟩
          have T17 := Lib.hid (TL.out.stay hB)
          have Q5 := Lib.hid hq
          clear hB hq
          go_wp2_with fail
          refine (IHX.out kj (by omega) _ w.heap.size _ _ G16.out.2.size hbl T17.out G16.out.1).mono ?_; rintro e w18 ⟨r, hD, hr⟩
          rcases r with p | ⟨t18, R1⟩
          · obtain ⟨rfl, hO⟩ := hr
            have HO := Lib.hid (G16.out.2.trans hO)
            have D18 := Lib.hid hD
            clear hD hO
            unfold sflt
            go_wp2_with fail
            exact bodyPost_panic rfl (post_err (show D c.E .maker (c.R k) (.error p) from DL.out _ (D.mk1 D18.out fun m h0 => by simp only [body, if_true, bnd, Q5.out, h0])) rfl HO.out)
          · obtain ⟨j18, vv, rfl, hj18, rfl, hG, hT⟩ := hr
            obtain ⟨v18, rfl⟩ := hT.ptr
            have G19 : Hid (Go1 c w w18 j18) := ⟨hG.1, G16.out.2.trans hG.2⟩
            have T20 := Lib.hid (T17.out.off hG.2 hbl)
            have T18 := Lib.hid hT
            have D18 := Lib.hid hD
            clear hD hG hT
            go_wp2_with fail
            have hle := G19.out.1.le
            go_roundg (c.ts.length - j18)
            case measure => omega
            case rel => exact ⟨j18, _, _, rfl, rfl, by omega, G19.out, T18.out, fun r h => DL.out r (D.mk2 D18.out h fun m h0 h1 => by simp only [body, if_true, bnd, Q5.out, h0, h1])⟩
  · refine (is_at c k ⟨#[110, 101, 119]⟩ _ G0.out.1 hq).mono ?_; rintro e w1 ⟨rfl, hB⟩
    have G21 : Hid (Go1 c w w1 k) := ⟨G0.out.1.below hB, G0.out.2.below hB⟩
    have Q1 := Lib.hid hq
    clear hB hq
    go_wp2_with fail
    refine (IHN.out _ G21.out.1).mono ?_; rintro e w22 ⟨r, hD, hr⟩
    rcases r with p | ⟨t22, R1⟩
    · obtain ⟨rfl, hO⟩ := hr
      have HO := Lib.hid (G21.out.2.trans hO)
      have D22 := Lib.hid hD
      clear hD hO
      unfold sflt
      go_wp2_with fail
      exact bodyPost_panic rfl (post_err (show D c.E .maker (c.R k) (.error p) from D.mk1 D22.out fun m h0 => by simp only [body, if_true, Q1.out, h0]) rfl HO.out)
    · obtain ⟨j22, v22, rfl, hj22, rfl, hG, hT⟩ := hr
      have G23 : Hid (Go1 c w w22 j22) := ⟨hG.1, G21.out.2.trans hG.2⟩
      have T22 := Lib.hid (hT.lower G21.out.2.size)
      have D22 := Lib.hid hD
      clear hD hG hT
      go_wp2_with fail
      go_ret
      exact post_ok (show D c.E .maker (c.R k) (.ok (t22, c.R j22)) from D.mk1 D22.out fun m h0 => by simp only [body, if_true, Q1.out, h0]) (by omega) rfl G23.out.1 G23.out.2 T22.out
set_option maxRecDepth 100000 in
set_option maxHeartbeats 1000000 in
theorem newObject_any (c : Cx) (k : Nat) (ihm : ∀ j, k < j → Ok c .maker 259 #[c.p] j) (ihy : ∀ j, k < j → OkXL c .called 255 j) : Ok c .newObject 256 #[c.p] k := by
  intro w h
  have hbl := h.lt
  have hfew := h.ok.few
  have G0 : Hid (Go1 c w w k) := ⟨h, Off.refl _ _⟩
  have IHM := Lib.hid ihm
  have IHY := Lib.hid ihy
  clear h ihy ihm
  go_enter Tryz.func256, Tryz.ntmps256
  go_wp2_with fail
  cases hq : isF c.E [110, 101, 119] (c.R k)
  · refine (need_no c k ⟨#[110, 101, 119]⟩ _ G0.out.1 hq).mono ?_; rintro e w1 ⟨rfl, hB⟩
    have HO := Lib.hid (G0.out.2.below hB)
    have Q1 := Lib.hid hq
    clear hB hq
    unfold sflt
    go_wp2_with fail
    exact bodyPost_panic rfl (post_err (show D c.E .newObject (c.R k) (.error (c.T k).pos) from D.mk0 fun m => by simp only [body, need, Bool.false_eq_true, if_false, bad, R_hd, Q1.out]) rfl HO.out)
  · refine (need_yes c k ⟨#[110, 101, 119]⟩ (by decide) _ G0.out.1 hq).mono ?_; rintro e w1 ⟨rfl, hG⟩
    have G2 : Hid (Go1 c w w1 (k + 1)) := ⟨hG.1, G0.out.2.trans hG.2⟩
    have Q1 := Lib.hid hq
    clear hG hq
    go_wp2_with fail
    refine (IHM.out (k + 1) (by omega) _ G2.out.1).mono ?_; rintro e w3 ⟨r, hD, hr⟩
    rcases r with p | ⟨t3, R1⟩
    · obtain ⟨rfl, hO⟩ := hr
      have HO := Lib.hid (G2.out.2.trans hO)
      have D3 := Lib.hid hD
      clear hD hO
      unfold sflt
      go_wp2_with fail
      exact bodyPost_panic rfl (post_err (show D c.E .newObject (c.R k) (.error p) from D.mk1 D3.out fun m h0 => by simp only [body, need, if_true, R_tail, bnd, Q1.out, h0]) rfl HO.out)
    · obtain ⟨j3, vv, rfl, hj3, rfl, hG, hT⟩ := hr
      obtain ⟨v3, rfl⟩ := hT.ptr
      have G4 : Hid (Go1 c w w3 j3) := ⟨hG.1, G2.out.2.trans hG.2⟩
      have T3 := Lib.hid (hT.lower G2.out.2.size)
      have D3 := Lib.hid hD
      clear hD hG hT
      go_wp2_with fail
      cases hq : isF c.E [40] (c.R j3)
      · refine (is_at c j3 ⟨#[40]⟩ _ G4.out.1 hq).mono ?_; rintro e w5 ⟨rfl, hB⟩
        have G6 : Hid (Go1 c w w5 j3) := ⟨G4.out.1.below hB, G4.out.2.below hB⟩
        have T7 := Lib.hid (T3.out.stay hB)
        have Q5 := Lib.hid hq
        clear hB hq
        go_wp2_with fail
        refine (newNode_any _ _ _ _ _ _).mono ?_; rintro e w8 hm
        obtain ⟨a8, rfl, hT, hB⟩ := node_kids (k := 35) (x := []) (vs := [(.pointer (some ⟨v3, 0, none⟩))]) (kids := [t3]) (IsTs.cons T7.out (IsTs.nil _ _)) G6.out.2.size hm
        have G9 : Hid (Go1 c w w8 j3) := ⟨G6.out.1.below hB, G6.out.2.below hB⟩
        have T10 := Lib.hid (T7.out.stay hB)
        have T8 := Lib.hid hT
        clear hT hB hm
        go_wp2_with fail
        go_ret
        exact post_ok (show D c.E .newObject (c.R k) (.ok ((nd 35 [] [t3]), c.R j3)) from D.mk1 D3.out fun m h0 => by simp only [body, need, if_true, R_tail, bnd, Bool.false_eq_true, if_false, ret, Q1.out, Q5.out, h0]) (by omega) rfl G9.out.1 G9.out.2 T8.out
      · refine (is_at c j3 ⟨#[40]⟩ _ G4.out.1 hq).mono ?_; rintro e w5 ⟨rfl, hB⟩
        have G11 : Hid (Go1 c w w5 j3) := ⟨G4.out.1.below hB, G4.out.2.below hB⟩
        have T12 := Lib.hid (T3.out.stay hB)
        have Q5 := Lib.hid hq
        clear hB hq
        go_wp2_with fail
        refine (IHY.out j3 (by omega) _ w.heap.size _ _ G11.out.2.size hbl T12.out G11.out.1).mono ?_; rintro e w13 ⟨r, hD, hr⟩
        rcases r with p | ⟨t13, R1⟩
        · obtain ⟨rfl, hO⟩ := hr
          have HO := Lib.hid (G11.out.2.trans hO)
          have D13 := Lib.hid hD
          clear hD hO
          unfold sflt
          go_wp2_with fail
          exact bodyPost_panic rfl (post_err (show D c.E .newObject (c.R k) (.error p) from D.mk2 D3.out D13.out fun m h0 h1 => by simp only [body, need, if_true, R_tail, bnd, Q1.out, Q5.out, h0, h1]) rfl HO.out)
        · obtain ⟨j13, v13, vs13, S13, rfl, hj13, rfl, hG, hW, hK, hS, hN⟩ := hr
          have G14 : Hid (Go1 c w w13 j13) := ⟨hG.1, G11.out.2.trans hG.2⟩
          have T15 := Lib.hid (T12.out.off hG.2 hbl)
          have HW13 := Lib.hid hW
          have HK13 := Lib.hid hK
          have HN13 := Lib.hid hN
          have HS13 := Lib.hid hS
          obtain ⟨ao13, cp13, rfl⟩ := own_slice hW
          have D13 := Lib.hid hD
          clear hD hG hW hK hS hN
          go_wp2_with fail
          refine (newNode_any _ _ _ _ _ _).mono ?_; rintro e w16 hm
          obtain ⟨a16, rfl, hT, hB⟩ := node_row (k := 35) (x := []) HK13.out HS13.out G14.out.2.size HW13.out hm
          have G17 : Hid (Go1 c w w16 j13) := ⟨G14.out.1.below hB, G14.out.2.below hB⟩
          have T18 := Lib.hid (T15.out.stay hB)
          have T16 := Lib.hid hT
          clear hT hB hm
          go_wp2_with fail
          go_ret
          exact post_ok (show D c.E .newObject (c.R k) (.ok ((nd 35 [] t13.kids), c.R j13)) from D.mk2 D3.out D13.out fun m h0 h1 => by simp only [body, need, if_true, R_tail, bnd, ret, Q1.out, Q5.out, h0, h1]) (by omega) rfl G17.out.1 G17.out.2 T16.out
end Go.Proofs.YtnkfodelgpidkaaGreatDoor
