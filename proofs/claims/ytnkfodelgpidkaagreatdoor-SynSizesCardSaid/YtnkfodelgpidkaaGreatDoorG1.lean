/- Statements and their parts, by the reader of trees: the straight ones. -/
import Derived.Test.YtnkfodelgpidkaaGreatDoorNd
namespace Go.Proofs.YtnkfodelgpidkaaGreatDoor
open Go.RowKit
set_option linter.unusedVariables false

/-- A method, at a place, in whatever world. -/
def Ok (c : Cx) (nt : NT) (f : Nat) (args : Array Value) (k : Nat) : Prop := ∀ w, In c w k → Calls Tryz.prog f args w (Post c nt k w)
def OkL (c : Cx) (nt : NT) (f : Nat) (args : Array Value) (k : Nat) : Prop := ∀ w, In c w k → Calls Tryz.prog f args w (PostL c nt k w)
/-- A method that is handed a tree. -/
def OkX (c : Cx) (ntf : Tr → NT) (f : Nat) (k : Nat) : Prop := ∀ (w : World) (lo v : Nat) (t : Tr), lo ≤ w.heap.size → c.b < lo → IsT w (F lo w.heap.size) (.pointer (some ⟨v, 0, none⟩)) t → In c w k → Calls Tryz.prog f #[.pointer (some ⟨c.b, 0, none⟩), .pointer (some ⟨v, 0, none⟩)] w (PostF lo c (ntf t) k w)
def OkXL (c : Cx) (ntf : Tr → NT) (f : Nat) (k : Nat) : Prop := ∀ (w : World) (lo v : Nat) (t : Tr), lo ≤ w.heap.size → c.b < lo → IsT w (F lo w.heap.size) (.pointer (some ⟨v, 0, none⟩)) t → In c w k → Calls Tryz.prog f #[.pointer (some ⟨c.b, 0, none⟩), .pointer (some ⟨v, 0, none⟩)] w (PostLF lo c (ntf t) k w)
theorem IsT.ptr {w : World} {S : Nat → Prop} {v : Value} {t : Tr} (h : IsT w S v t) : ∃ a, v = .pointer (some ⟨a, 0, none⟩) := by cases h; exact ⟨_, rfl⟩
abbrev Cx.p (c : Cx) : Value := .pointer (some ⟨c.b, 0, none⟩)

set_option maxRecDepth 100000 in
set_option maxHeartbeats 1000000 in
theorem bracketed_any (c : Cx) (k : Nat) (ihe : ∀ j, k < j → Ok c .expr 161 #[c.p] j) : Ok c .bracketed 195 #[c.p] k := by
  intro w h
  have hbl := h.lt
  have hfew := h.ok.few
  have G0 : Hid (Go1 c w w k) := ⟨h, Off.refl _ _⟩
  have IHE := Lib.hid ihe
  clear h ihe
  go_enter Tryz.func195, Tryz.ntmps195
  go_wp2_with fail
  cases hq : isF c.E [40] (c.R k)
  · refine (need_no c k ⟨#[40]⟩ _ G0.out.1 hq).mono ?_; rintro e w1 ⟨rfl, hB⟩
    have HO := Lib.hid (G0.out.2.below hB)
    have Q1 := Lib.hid hq
    clear hB hq
    unfold sflt
    go_wp2_with fail
    exact bodyPost_panic rfl (post_err (show D c.E .bracketed (c.R k) (.error (c.T k).pos) from D.mk0 fun m => by simp only [body, need, Bool.false_eq_true, if_false, bad, R_hd, Q1.out]) rfl HO.out)
  · refine (need_yes c k ⟨#[40]⟩ (by decide) _ G0.out.1 hq).mono ?_; rintro e w1 ⟨rfl, hG⟩
    have G2 : Hid (Go1 c w w1 (k + 1)) := ⟨hG.1, G0.out.2.trans hG.2⟩
    have Q1 := Lib.hid hq
    clear hG hq
    go_wp2_with fail
    refine (IHE.out (k + 1) (by omega) _ G2.out.1).mono ?_; rintro e w3 ⟨r, hD, hr⟩
    rcases r with p | ⟨t3, R1⟩
    · obtain ⟨rfl, hO⟩ := hr
      have HO := Lib.hid (G2.out.2.trans hO)
      have D3 := Lib.hid hD
      clear hD hO
      unfold sflt
      go_wp2_with fail
      exact bodyPost_panic rfl (post_err (show D c.E .bracketed (c.R k) (.error p) from D.mk1 D3.out fun m h0 => by simp only [body, need, if_true, R_tail, bnd, Q1.out, h0]) rfl HO.out)
    · obtain ⟨j3, vv, rfl, hj3, rfl, hG, hT⟩ := hr
      obtain ⟨v3, rfl⟩ := hT.ptr
      have G4 : Hid (Go1 c w w3 j3) := ⟨hG.1, G2.out.2.trans hG.2⟩
      have T3 := Lib.hid (hT.lower G2.out.2.size)
      have D3 := Lib.hid hD
      clear hD hG hT
      go_wp2_with fail
      cases hq : isF c.E [41] (c.R j3)
      · refine (need_no c j3 ⟨#[41]⟩ _ G4.out.1 hq).mono ?_; rintro e w5 ⟨rfl, hB⟩
        have HO := Lib.hid (G4.out.2.below hB)
        have Q5 := Lib.hid hq
        clear hB hq
        unfold sflt
        go_wp2_with fail
        exact bodyPost_panic rfl (post_err (show D c.E .bracketed (c.R k) (.error (c.T j3).pos) from D.mk1 D3.out fun m h0 => by simp only [body, need, if_true, R_tail, bnd, Bool.false_eq_true, if_false, bad, R_hd, Q1.out, Q5.out, h0]) rfl HO.out)
      · refine (need_yes c j3 ⟨#[41]⟩ (by decide) _ G4.out.1 hq).mono ?_; rintro e w5 ⟨rfl, hG⟩
        have G6 : Hid (Go1 c w w5 (j3 + 1)) := ⟨hG.1, G4.out.2.trans hG.2⟩
        have T7 := Lib.hid (T3.out.off hG.2 hbl)
        have Q5 := Lib.hid hq
        clear hG hq
        go_wp2_with fail
        go_ret
        exact post_ok (show D c.E .bracketed (c.R k) (.ok (t3, c.R (j3 + 1))) from D.mk1 D3.out fun m h0 => by simp only [body, need, if_true, R_tail, bnd, ret, Q1.out, Q5.out, h0]) (by omega) rfl G6.out.1 G6.out.2 T7.out
set_option maxRecDepth 100000 in
set_option maxHeartbeats 1000000 in
theorem whileDo_any (c : Cx) (k : Nat) (ihb : ∀ j, k < j → Ok c .bracketed 195 #[c.p] j) (ihs : ∀ j, k < j → Ok c .statement 89 #[c.p] j) : Ok c .whileDo 154 #[c.p] k := by
  intro w h
  have hbl := h.lt
  have hfew := h.ok.few
  have G0 : Hid (Go1 c w w k) := ⟨h, Off.refl _ _⟩
  have IHB := Lib.hid ihb
  have IHS := Lib.hid ihs
  clear h ihb ihs
  go_enter Tryz.func154, Tryz.ntmps154
  go_wp2_with fail
  cases hq : isF c.E [119, 104, 105, 108, 101] (c.R k)
  · refine (need_no c k ⟨#[119, 104, 105, 108, 101]⟩ _ G0.out.1 hq).mono ?_; rintro e w1 ⟨rfl, hB⟩
    have HO := Lib.hid (G0.out.2.below hB)
    have Q1 := Lib.hid hq
    clear hB hq
    unfold sflt
    go_wp2_with fail
    exact bodyPost_panic rfl (post_err (show D c.E .whileDo (c.R k) (.error (c.T k).pos) from D.mk0 fun m => by simp only [body, need, Bool.false_eq_true, if_false, bad, R_hd, Q1.out]) rfl HO.out)
  · refine (need_yes c k ⟨#[119, 104, 105, 108, 101]⟩ (by decide) _ G0.out.1 hq).mono ?_; rintro e w1 ⟨rfl, hG⟩
    have G2 : Hid (Go1 c w w1 (k + 1)) := ⟨hG.1, G0.out.2.trans hG.2⟩
    have Q1 := Lib.hid hq
    clear hG hq
    go_wp2_with fail
    refine (IHB.out (k + 1) (by omega) _ G2.out.1).mono ?_; rintro e w3 ⟨r, hD, hr⟩
    rcases r with p | ⟨t3, R1⟩
    · obtain ⟨rfl, hO⟩ := hr
      have HO := Lib.hid (G2.out.2.trans hO)
      have D3 := Lib.hid hD
      clear hD hO
      unfold sflt
      go_wp2_with fail
      exact bodyPost_panic rfl (post_err (show D c.E .whileDo (c.R k) (.error p) from D.mk1 D3.out fun m h0 => by simp only [body, need, if_true, R_tail, bnd, Q1.out, h0]) rfl HO.out)
    · obtain ⟨j3, vv, rfl, hj3, rfl, hG, hT⟩ := hr
      obtain ⟨v3, rfl⟩ := hT.ptr
      have G4 : Hid (Go1 c w w3 j3) := ⟨hG.1, G2.out.2.trans hG.2⟩
      have T3 := Lib.hid (hT.lower G2.out.2.size)
      have D3 := Lib.hid hD
      clear hD hG hT
      go_wp2_with fail
      refine (IHS.out j3 (by omega) _ G4.out.1).mono ?_; rintro e w5 ⟨r, hD, hr⟩
      rcases r with p | ⟨t5, R1⟩
      · obtain ⟨rfl, hO⟩ := hr
        have HO := Lib.hid (G4.out.2.trans hO)
        have D5 := Lib.hid hD
        clear hD hO
        unfold sflt
        go_wp2_with fail
        exact bodyPost_panic rfl (post_err (show D c.E .whileDo (c.R k) (.error p) from D.mk2 D3.out D5.out fun m h0 h1 => by simp only [body, need, if_true, R_tail, bnd, Q1.out, h0, h1]) rfl HO.out)
      · obtain ⟨j5, vv, rfl, hj5, rfl, hG, hT⟩ := hr
        obtain ⟨v5, rfl⟩ := hT.ptr
        have G6 : Hid (Go1 c w w5 j5) := ⟨hG.1, G4.out.2.trans hG.2⟩
        have T7 := Lib.hid (T3.out.off hG.2 hbl)
        have T5 := Lib.hid (hT.lower G4.out.2.size)
        have D5 := Lib.hid hD
        clear hD hG hT
        go_wp2_with fail
        refine (newNode_any _ _ _ _ _ _).mono ?_; rintro e w8 hm
        obtain ⟨a8, rfl, hT, hB⟩ := node_kids (k := 8) (x := []) (vs := [(.pointer (some ⟨v3, 0, none⟩)), (.pointer (some ⟨v5, 0, none⟩))]) (kids := [t3, t5]) (IsTs.cons T7.out (IsTs.cons T5.out (IsTs.nil _ _))) G6.out.2.size hm
        have G9 : Hid (Go1 c w w8 j5) := ⟨G6.out.1.below hB, G6.out.2.below hB⟩
        have T10 := Lib.hid (T7.out.stay hB)
        have T11 := Lib.hid (T5.out.stay hB)
        have T8 := Lib.hid hT
        clear hT hB hm
        go_wp2_with fail
        go_ret
        exact post_ok (show D c.E .whileDo (c.R k) (.ok ((nd 8 [] [t3, t5]), c.R j5)) from D.mk2 D3.out D5.out fun m h0 h1 => by simp only [body, need, if_true, R_tail, bnd, ret, Q1.out, h0, h1]) (by omega) rfl G9.out.1 G9.out.2 T8.out
set_option maxRecDepth 100000 in
set_option maxHeartbeats 1000000 in
theorem doWhile_any (c : Cx) (k : Nat) (ihb : ∀ j, k < j → Ok c .bracketed 195 #[c.p] j) (ihs : ∀ j, k < j → Ok c .statement 89 #[c.p] j) : Ok c .doWhile 155 #[c.p] k := by
  intro w h
  have hbl := h.lt
  have hfew := h.ok.few
  have G0 : Hid (Go1 c w w k) := ⟨h, Off.refl _ _⟩
  have IHB := Lib.hid ihb
  have IHS := Lib.hid ihs
  clear h ihb ihs
  go_enter Tryz.func155, Tryz.ntmps155
  go_wp2_with fail
  cases hq : isF c.E [100, 111] (c.R k)
  · refine (need_no c k ⟨#[100, 111]⟩ _ G0.out.1 hq).mono ?_; rintro e w1 ⟨rfl, hB⟩
    have HO := Lib.hid (G0.out.2.below hB)
    have Q1 := Lib.hid hq
    clear hB hq
    unfold sflt
    go_wp2_with fail
    exact bodyPost_panic rfl (post_err (show D c.E .doWhile (c.R k) (.error (c.T k).pos) from D.mk0 fun m => by simp only [body, need, Bool.false_eq_true, if_false, bad, R_hd, Q1.out]) rfl HO.out)
  · refine (need_yes c k ⟨#[100, 111]⟩ (by decide) _ G0.out.1 hq).mono ?_; rintro e w1 ⟨rfl, hG⟩
    have G2 : Hid (Go1 c w w1 (k + 1)) := ⟨hG.1, G0.out.2.trans hG.2⟩
    have Q1 := Lib.hid hq
    clear hG hq
    go_wp2_with fail
    refine (IHS.out (k + 1) (by omega) _ G2.out.1).mono ?_; rintro e w3 ⟨r, hD, hr⟩
    rcases r with p | ⟨t3, R1⟩
    · obtain ⟨rfl, hO⟩ := hr
      have HO := Lib.hid (G2.out.2.trans hO)
      have D3 := Lib.hid hD
      clear hD hO
      unfold sflt
      go_wp2_with fail
      exact bodyPost_panic rfl (post_err (show D c.E .doWhile (c.R k) (.error p) from D.mk1 D3.out fun m h0 => by simp only [body, need, if_true, R_tail, bnd, Q1.out, h0]) rfl HO.out)
    · obtain ⟨j3, vv, rfl, hj3, rfl, hG, hT⟩ := hr
      obtain ⟨v3, rfl⟩ := hT.ptr
      have G4 : Hid (Go1 c w w3 j3) := ⟨hG.1, G2.out.2.trans hG.2⟩
      have T3 := Lib.hid (hT.lower G2.out.2.size)
      have D3 := Lib.hid hD
      clear hD hG hT
      go_wp2_with fail
      cases hq : isF c.E [119, 104, 105, 108, 101] (c.R j3)
      · refine (need_no c j3 ⟨#[119, 104, 105, 108, 101]⟩ _ G4.out.1 hq).mono ?_; rintro e w5 ⟨rfl, hB⟩
        have HO := Lib.hid (G4.out.2.below hB)
        have Q5 := Lib.hid hq
        clear hB hq
        unfold sflt
        go_wp2_with fail
        exact bodyPost_panic rfl (post_err (show D c.E .doWhile (c.R k) (.error (c.T j3).pos) from D.mk1 D3.out fun m h0 => by simp only [body, need, if_true, R_tail, bnd, Bool.false_eq_true, if_false, bad, R_hd, Q1.out, Q5.out, h0]) rfl HO.out)
      · refine (need_yes c j3 ⟨#[119, 104, 105, 108, 101]⟩ (by decide) _ G4.out.1 hq).mono ?_; rintro e w5 ⟨rfl, hG⟩
        have G6 : Hid (Go1 c w w5 (j3 + 1)) := ⟨hG.1, G4.out.2.trans hG.2⟩
        have T7 := Lib.hid (T3.out.off hG.2 hbl)
        have Q5 := Lib.hid hq
        clear hG hq
        go_wp2_with fail
        refine (IHB.out (j3 + 1) (by omega) _ G6.out.1).mono ?_; rintro e w8 ⟨r, hD, hr⟩
        rcases r with p | ⟨t8, R1⟩
        · obtain ⟨rfl, hO⟩ := hr
          have HO := Lib.hid (G6.out.2.trans hO)
          have D8 := Lib.hid hD
          clear hD hO
          unfold sflt
          go_wp2_with fail
          exact bodyPost_panic rfl (post_err (show D c.E .doWhile (c.R k) (.error p) from D.mk2 D3.out D8.out fun m h0 h1 => by simp only [body, need, if_true, R_tail, bnd, Q1.out, Q5.out, h0, h1]) rfl HO.out)
        · obtain ⟨j8, vv, rfl, hj8, rfl, hG, hT⟩ := hr
          obtain ⟨v8, rfl⟩ := hT.ptr
          have G9 : Hid (Go1 c w w8 j8) := ⟨hG.1, G6.out.2.trans hG.2⟩
          have T10 := Lib.hid (T7.out.off hG.2 hbl)
          have T8 := Lib.hid (hT.lower G6.out.2.size)
          have D8 := Lib.hid hD
          clear hD hG hT
          go_wp2_with fail
          refine (newNode_any _ _ _ _ _ _).mono ?_; rintro e w11 hm
          obtain ⟨a11, rfl, hT, hB⟩ := node_kids (k := 9) (x := []) (vs := [(.pointer (some ⟨v3, 0, none⟩)), (.pointer (some ⟨v8, 0, none⟩))]) (kids := [t3, t8]) (IsTs.cons T10.out (IsTs.cons T8.out (IsTs.nil _ _))) G9.out.2.size hm
          have G12 : Hid (Go1 c w w11 j8) := ⟨G9.out.1.below hB, G9.out.2.below hB⟩
          have T13 := Lib.hid (T10.out.stay hB)
          have T14 := Lib.hid (T8.out.stay hB)
          have T11 := Lib.hid hT
          clear hT hB hm
          go_wp2_with fail
          cases hq : isF c.E [59] (c.R j8)
          · refine (ended_no c j8 _ _ G12.out.1 hq).mono ?_; rintro e w15 ⟨rfl, hB⟩
            have HO := Lib.hid (G12.out.2.below hB)
            have Q15 := Lib.hid hq
            clear hB hq
            unfold sflt
            go_wp2_with fail
            exact bodyPost_panic rfl (post_err (show D c.E .doWhile (c.R k) (.error (c.T j8).pos) from D.mk2 D3.out D8.out fun m h0 h1 => by simp only [body, need, if_true, R_tail, bnd, Bool.false_eq_true, if_false, bad, R_hd, Q1.out, Q5.out, Q15.out, h0, h1]) rfl HO.out)
          · refine (ended_yes c j8 _ _ G12.out.1 hq).mono ?_; rintro e w15 ⟨rfl, hG⟩
            have G16 : Hid (Go1 c w w15 (j8 + 1)) := ⟨hG.1, G12.out.2.trans hG.2⟩
            have T17 := Lib.hid (T13.out.off hG.2 hbl)
            have T18 := Lib.hid (T14.out.off hG.2 hbl)
            have T19 := Lib.hid (T11.out.off hG.2 hbl)
            have Q15 := Lib.hid hq
            clear hG hq
            go_wp2_with fail
            go_ret
            exact post_ok (show D c.E .doWhile (c.R k) (.ok ((nd 9 [] [t3, t8]), c.R (j8 + 1))) from D.mk2 D3.out D8.out fun m h0 h1 => by simp only [body, need, if_true, R_tail, bnd, ret, Q1.out, Q5.out, Q15.out, h0, h1]) (by omega) rfl G16.out.1 G16.out.2 T19.out
set_option maxRecDepth 100000 in
set_option maxHeartbeats 1000000 in
theorem throwIt_any (c : Cx) (k : Nat) (ihe : ∀ j, k < j → Ok c .expr 161 #[c.p] j) : Ok c .throwIt 159 #[c.p] k := by
  intro w h
  have hbl := h.lt
  have hfew := h.ok.few
  have G0 : Hid (Go1 c w w k) := ⟨h, Off.refl _ _⟩
  have IHE := Lib.hid ihe
  clear h ihe
  go_enter Tryz.func159, Tryz.ntmps159
  go_wp2_with fail
  cases hq : isF c.E [116, 104, 114, 111, 119] (c.R k)
  · refine (need_no c k ⟨#[116, 104, 114, 111, 119]⟩ _ G0.out.1 hq).mono ?_; rintro e w1 ⟨rfl, hB⟩
    have HO := Lib.hid (G0.out.2.below hB)
    have Q1 := Lib.hid hq
    clear hB hq
    unfold sflt
    go_wp2_with fail
    exact bodyPost_panic rfl (post_err (show D c.E .throwIt (c.R k) (.error (c.T k).pos) from D.mk0 fun m => by simp only [body, need, Bool.false_eq_true, if_false, bad, R_hd, Q1.out]) rfl HO.out)
  · refine (need_yes c k ⟨#[116, 104, 114, 111, 119]⟩ (by decide) _ G0.out.1 hq).mono ?_; rintro e w1 ⟨rfl, hG⟩
    have G2 : Hid (Go1 c w w1 (k + 1)) := ⟨hG.1, G0.out.2.trans hG.2⟩
    have Q1 := Lib.hid hq
    clear hG hq
    go_wp2_with fail
    refine (IHE.out (k + 1) (by omega) _ G2.out.1).mono ?_; rintro e w3 ⟨r, hD, hr⟩
    rcases r with p | ⟨t3, R1⟩
    · obtain ⟨rfl, hO⟩ := hr
      have HO := Lib.hid (G2.out.2.trans hO)
      have D3 := Lib.hid hD
      clear hD hO
      unfold sflt
      go_wp2_with fail
      exact bodyPost_panic rfl (post_err (show D c.E .throwIt (c.R k) (.error p) from D.mk1 D3.out fun m h0 => by simp only [body, need, if_true, R_tail, bnd, Q1.out, h0]) rfl HO.out)
    · obtain ⟨j3, vv, rfl, hj3, rfl, hG, hT⟩ := hr
      obtain ⟨v3, rfl⟩ := hT.ptr
      have G4 : Hid (Go1 c w w3 j3) := ⟨hG.1, G2.out.2.trans hG.2⟩
      have T3 := Lib.hid (hT.lower G2.out.2.size)
      have D3 := Lib.hid hD
      clear hD hG hT
      go_wp2_with fail
      refine (newNode_any _ _ _ _ _ _).mono ?_; rintro e w5 hm
      obtain ⟨a5, rfl, hT, hB⟩ := node_kids (k := 14) (x := []) (vs := [(.pointer (some ⟨v3, 0, none⟩))]) (kids := [t3]) (IsTs.cons T3.out (IsTs.nil _ _)) G4.out.2.size hm
      have G6 : Hid (Go1 c w w5 j3) := ⟨G4.out.1.below hB, G4.out.2.below hB⟩
      have T7 := Lib.hid (T3.out.stay hB)
      have T5 := Lib.hid hT
      clear hT hB hm
      go_wp2_with fail
      cases hq : isF c.E [59] (c.R j3)
      · refine (ended_no c j3 _ _ G6.out.1 hq).mono ?_; rintro e w8 ⟨rfl, hB⟩
        have HO := Lib.hid (G6.out.2.below hB)
        have Q8 := Lib.hid hq
        clear hB hq
        unfold sflt
        go_wp2_with fail
        exact bodyPost_panic rfl (post_err (show D c.E .throwIt (c.R k) (.error (c.T j3).pos) from D.mk1 D3.out fun m h0 => by simp only [body, need, if_true, R_tail, bnd, Bool.false_eq_true, if_false, bad, R_hd, Q1.out, Q8.out, h0]) rfl HO.out)
      · refine (ended_yes c j3 _ _ G6.out.1 hq).mono ?_; rintro e w8 ⟨rfl, hG⟩
        have G9 : Hid (Go1 c w w8 (j3 + 1)) := ⟨hG.1, G6.out.2.trans hG.2⟩
        have T10 := Lib.hid (T7.out.off hG.2 hbl)
        have T11 := Lib.hid (T5.out.off hG.2 hbl)
        have Q8 := Lib.hid hq
        clear hG hq
        go_wp2_with fail
        go_ret
        exact post_ok (show D c.E .throwIt (c.R k) (.ok ((nd 14 [] [t3]), c.R (j3 + 1))) from D.mk1 D3.out fun m h0 => by simp only [body, need, if_true, R_tail, bnd, ret, Q1.out, Q8.out, h0]) (by omega) rfl G9.out.1 G9.out.2 T11.out
end Go.Proofs.YtnkfodelgpidkaaGreatDoor
