/- Part of a proof: contracts of functions. -/
import Derived.Test.YtfcgpphodacdmaaGreatDoorY23
import Derived.Deep.RegionLaw
import Derived.Test.YtfcgpphodacdmaaGreatDoorY22
set_option maxRecDepth 100000
set_option maxHeartbeats 4000000
set_option linter.all false
namespace Go.Proofs.YtfcgpphodacdmaaGreatDoor
open Go.RowKit
theorem zeX (c : Cx) (k : Nat) (ihs : Ok c .statement 95 #[c.p] k) (ihg : ∀ j, k < j → ∀ x, Ok c (.function 18 x) 93 #[c.p, .int .i64 18, .string (bs x)] j) : Ok c .element 60 #[c.p] k := by
 intro w h;have hbl := h.lt;have hfew := h.ok.few;have G0 : Hid (Go1 c w w k) := ⟨h, Off.refl _ _⟩;have IHS := za ihs;have IHG := za ihg;clear h ihg ihs
 go_enter Tryz.func60, Tryz.ntmps60
 go_wp2_with fail;cases hq : isF c.E [102, 117, 110, 99, 116, 105, 111, 110] (c.R k)
 ·refine (xV c k ⟨#[102, 117, 110, 99, 116, 105, 111, 110]⟩ _ G0.out.1 hq).mono ?_; rintro e w1 ⟨rfl, hB⟩;have G2 : Hid (Go1 c w w1 k) := ⟨G0.out.1.below hB, G0.out.2.below hB⟩;have Q1 := za hq;clear hB hq;go_wp2_with fail;refine (IHS.out _ G2.out.1).mono ?_; rintro e w3 ⟨r, hD, hr⟩;rcases r with p | ⟨t3, R1⟩
  ·obtain ⟨rfl, hO⟩ := hr;have HO := za (G2.out.2.trans hO);have D3 := za hD;clear hD hO;unfold zu;go_wp2_with fail;exact zf rfl (zo (show D c.E .element (c.R k) (.error p) from D.mk1 D3.out fun m h0 => by simp only [zg, zc, if_false, Q1.out, h0]) rfl HO.out)
  ·obtain ⟨j3, v3, rfl, hj3, rfl, hG, hT⟩ := hr;have G4 : Hid (Go1 c w w3 j3) := ⟨hG.1, G2.out.2.trans hG.2⟩;have T3 := za (hT.lower G2.out.2.size);have D3 := za hD;clear hD hG hT;go_wp2_with fail;go_ret;exact zx (show D c.E .element (c.R k) (.ok (t3, c.R j3)) from D.mk1 D3.out fun m h0 => by simp only [zg, zc, if_false, Q1.out, h0]) (by omega) rfl G4.out.1 G4.out.2 T3.out
 ·refine (xB c k ⟨#[102, 117, 110, 99, 116, 105, 111, 110]⟩ (by decide) _ G0.out.1 hq).mono ?_; rintro e w1 ⟨rfl, hG⟩;have G5 : Hid (Go1 c w w1 (k + 1)) := ⟨hG.1, G0.out.2.trans hG.2⟩;have Q1 := za hq;clear hG hq;go_wp2_with fail;by_cases hq : (c.T (k + 1)).kind = 1
  ·refine (uv c (k + 1) _ G5.out.1 hq).mono ?_; rintro e w6 ⟨rfl, hG⟩;have G7 : Hid (Go1 c w w6 ((k + 1) + 1)) := ⟨hG.1, G5.out.2.trans hG.2⟩;have Q6 := za hq;clear hG hq;go_wp2_with fail;refine (IHG.out ((k + 1) + 1) (by omega) (c.T (k + 1)).text _ G7.out.1).mono ?_; rintro e w8 ⟨r, hD, hr⟩;rcases r with p | ⟨t8, R1⟩
   ·obtain ⟨rfl, hO⟩ := hr;have HO := za (G7.out.2.trans hO);have D8 := za hD;clear hD hO;unfold zu;go_wp2_with fail;exact zf rfl (zo (show D c.E .element (c.R k) (.error p) from D.mk1 D8.out fun m h0 => by simp only [zg, if_true, zq, nameK, zI, Q1.out, Q6.out, h0]) rfl HO.out)
   ·obtain ⟨j8, v8, rfl, hj8, rfl, hG, hT⟩ := hr;have G9 : Hid (Go1 c w w8 j8) := ⟨hG.1, G7.out.2.trans hG.2⟩;have T8 := za (hT.lower G7.out.2.size);have D8 := za hD;clear hD hG hT;go_wp2_with fail;go_ret;exact zx (show D c.E .element (c.R k) (.ok (t8, c.R j8)) from D.mk1 D8.out fun m h0 => by simp only [zg, if_true, zq, nameK, zI, Q1.out, Q6.out, h0]) (by omega) rfl G9.out.1 G9.out.2 T8.out
  ·refine (uY c (k + 1) _ G5.out.1 hq).mono ?_; rintro e w6 ⟨rfl, hB⟩;have HO := za (G5.out.2.below hB);have Q6 := za hq;clear hB hq;unfold zu;go_wp2_with fail;exact zf rfl (zo (show D c.E .element (c.R k) (.error (c.T (k + 1)).pos) from D.mk0 fun m => by simp only [zg, if_true, zq, nameK, if_false, bad, zI, Q1.out, Q6.out]) rfl HO.out)
theorem zcB (c : Cx) (k : Nat) (kind : Int) (hlt : k < c.ts.length)  : Ok c (.leave kind) 145 #[c.p, .int .i64 kind] k := by
 intro w h;have hbl := h.lt;have hfew := h.ok.few;have G0 : Hid (Go1 c w w k) := ⟨h, Off.refl _ _⟩;clear h;have ac1 := G0.out.1.c1;have af1 := G0.out.1.fz 1
 go_enter Tryz.func145, Tryz.ntmps145
 go_wp2_with fail;clear ac1 af1;have hG : Go1 c w (w.setCell ⟨c.b, 1, none⟩ (.int .i64 ((k : Int) + 1))) (k + 1) := ⟨G0.out.1.next (j := k + 1) (by omega), (Off.refl _ _).set 1 _⟩;have G2 : Hid (Go1 c w (w.setCell ⟨c.b, 1, none⟩ (.int .i64 ((k : Int) + 1))) (k + 1)) := ⟨hG.1, G0.out.2.trans hG.2⟩;clear hG;have hz1 : (w.setCell ⟨c.b, 1, none⟩ (.int .i64 ((k : Int) + 1))).heap.size = w.heap.size := by simp [World.setCell]
 generalize w.setCell ⟨c.b, 1, none⟩ (.int .i64 ((k : Int) + 1)) = u1 at *;refine (zy _ _ _ _ _ _).mono ?_; rintro e w3 hm;obtain ⟨a3, rfl, hT, hB⟩ := vF (k := kind) (x := []) G2.out.2.size hm;have G4 : Hid (Go1 c w w3 (k + 1)) := ⟨G2.out.1.below hB, G2.out.2.below hB⟩;have T3 := za hT;clear hT hB hm;go_wp2_with fail;cases hq : isF c.E [59] (c.R (k + 1))
 ·refine (qZ c (k + 1) _ _ G4.out.1 hq).mono ?_; rintro e w5 ⟨rfl, hB⟩;have HO := za (G4.out.2.below hB);have Q5 := za hq;clear hB hq;unfold zu;go_wp2_with fail;exact zf rfl (zo (show D c.E (.leave kind) (c.R k) (.error (c.T (k + 1)).pos) from D.mk0 fun m => by simp only [zg, zq, need, zc, if_false, bad, zI, Q5.out]) rfl HO.out)
 ·refine (xF c (k + 1) _ _ G4.out.1 hq).mono ?_; rintro e w5 ⟨rfl, hG⟩;have G6 : Hid (Go1 c w w5 ((k + 1) + 1)) := ⟨hG.1, G4.out.2.trans hG.2⟩;have T7 := za (T3.out.off hG.2 hbl);have Q5 := za hq;clear hG hq;go_wp2_with fail;go_ret;exact zx (show D c.E (.leave kind) (c.R k) (.ok ((nd kind [] []), c.R ((k + 1) + 1))) from D.mk0 fun m => by simp only [zg, zq, need, if_true, ret, Q5.out]) (by omega) rfl G6.out.1 G6.out.2 T7.out
theorem zcT (c : Cx) (k : Nat) (ihk : Ok c .block 138 #[c.p] k) (ihv : Ok c .vars 140 #[c.p] k) (ihi : Ok c .ifElse 141 #[c.p] k) (ihw : Ok c .whileDo 142 #[c.p] k) (ihd : Ok c .doWhile 143 #[c.p] k) (ihf : Ok c .forLoop 144 #[c.p] k) (ihr : Ok c .giveBack 146 #[c.p] k) (iht : Ok c .throwIt 147 #[c.p] k) (ihy : Ok c .tryIt 148 #[c.p] k) (ihe : Ok c .expr 149 #[c.p] k) : Ok c .statement 95 #[c.p] k := by
 intro w h;have hbl := h.lt;have hfew := h.ok.few;have G0 : Hid (Go1 c w w k) := ⟨h, Off.refl _ _⟩;have IHK := za ihk;have IHV := za ihv;have IHI := za ihi;have IHW := za ihw;have IHD := za ihd;have IHF := za ihf;have IHR := za ihr;have IHT := za iht;have IHY := za ihy;have IHE := za ihe;clear h ihk ihv ihi ihw ihd ihf ihr iht ihy ihe
 go_enter Tryz.func95, Tryz.ntmps95
 go_wp2_with fail;refine (qJ c k _ G0.out.1).mono ?_; rintro e w1 ⟨rfl, hB⟩;have G2 : Hid (Go1 c w w1 k) := ⟨G0.out.1.below hB, G0.out.2.below hB⟩;clear hB;by_cases x1_0 : fx (c.T k) = [123]
 ·have n1_0 : ((bs (fx (c.T k))).toList == [123]) = true := zQ (by rw [zj, x1_0]);have Q1_0_0 : Hid (isF c.E [123] (c.R k) = true) := by show _ = _; rw [zr, x1_0]; rfl
  have hlt : k < c.ts.length := yo G2.out.1.le (by rw [x1_0]; decide);clear x1_0;go_wp2_with fail;refine (IHK.out _ G2.out.1).mono ?_; rintro e w3 ⟨r, hD, hr⟩;rcases r with p | ⟨t3, R1⟩
  ·obtain ⟨rfl, hO⟩ := hr;have HO := za (G2.out.2.trans hO);have D3 := za hD;clear hD hO;unfold zu;go_wp2_with fail;exact zf rfl (zo (show D c.E .statement (c.R k) (.error p) from D.mk1 D3.out fun m h0 => by simp only [zg, if_true, Q1_0_0.out, h0]) rfl HO.out)
  ·obtain ⟨j3, v3, rfl, hj3, rfl, hG, hT⟩ := hr;have G4 : Hid (Go1 c w w3 j3) := ⟨hG.1, G2.out.2.trans hG.2⟩;have T3 := za (hT.lower G2.out.2.size);have D3 := za hD;clear hD hG hT;go_wp2_with fail;go_ret;exact zx (show D c.E .statement (c.R k) (.ok (t3, c.R j3)) from D.mk1 D3.out fun m h0 => by simp only [zg, if_true, Q1_0_0.out, h0]) (by omega) rfl G4.out.1 G4.out.2 T3.out
 ·skip
  by_cases x1_1 : fx (c.T k) = [118, 97, 114]
  ·have n1_0 : ((bs (fx (c.T k))).toList == [123]) = false := zh (by rw [zj, x1_1]; decide);have Q1_1_0 : Hid (isF c.E [123] (c.R k) = false) := by show _ = _; rw [zr, x1_1]; rfl
   have n1_1 : ((bs (fx (c.T k))).toList == [118, 97, 114]) = true := zQ (by rw [zj, x1_1]);have Q1_1_1 : Hid (isF c.E [118, 97, 114] (c.R k) = true) := by show _ = _; rw [zr, x1_1]; rfl
   have hlt : k < c.ts.length := yo G2.out.1.le (by rw [x1_1]; decide);clear x1_0 x1_1;go_wp2_with fail;refine (IHV.out _ G2.out.1).mono ?_; rintro e w5 ⟨r, hD, hr⟩;rcases r with p | ⟨t5, R1⟩
   ·obtain ⟨rfl, hO⟩ := hr;have HO := za (G2.out.2.trans hO);have D5 := za hD;clear hD hO;unfold zu;go_wp2_with fail;exact zf rfl (zo (show D c.E .statement (c.R k) (.error p) from D.mk1 D5.out fun m h0 => by simp only [zg, zc, if_false, if_true, bnd, Q1_1_0.out, Q1_1_1.out, h0]) rfl HO.out)
   ·obtain ⟨j5, vv, rfl, hj5, rfl, hG, hT⟩ := hr;obtain ⟨v5, rfl⟩ := hT.ptr;have G6 : Hid (Go1 c w w5 j5) := ⟨hG.1, G2.out.2.trans hG.2⟩;have T5 := za (hT.lower G2.out.2.size);have D5 := za hD;clear hD hG hT;go_wp2_with fail;cases hq : isF c.E [59] (c.R j5)
    ·refine (qZ c j5 _ _ G6.out.1 hq).mono ?_; rintro e w7 ⟨rfl, hB⟩;have HO := za (G6.out.2.below hB);have Q7 := za hq;clear hB hq;unfold zu;go_wp2_with fail;exact zf rfl (zo (show D c.E .statement (c.R k) (.error (c.T j5).pos) from D.mk1 D5.out fun m h0 => by simp only [zg, zc, if_false, if_true, bnd, need, bad, zI, Q1_1_0.out, Q1_1_1.out, Q7.out, h0]) rfl HO.out)
    ·refine (xF c j5 _ _ G6.out.1 hq).mono ?_; rintro e w7 ⟨rfl, hG⟩;have G8 : Hid (Go1 c w w7 (j5 + 1)) := ⟨hG.1, G6.out.2.trans hG.2⟩;have T9 := za (T5.out.off hG.2 hbl);have Q7 := za hq;clear hG hq;go_wp2_with fail;go_ret;exact zx (show D c.E .statement (c.R k) (.ok (t5, c.R (j5 + 1))) from D.mk1 D5.out fun m h0 => by simp only [zg, zc, if_false, if_true, bnd, need, zq, ret, Q1_1_0.out, Q1_1_1.out, Q7.out, h0]) (by omega) rfl G8.out.1 G8.out.2 T9.out
  ·skip
   by_cases x1_2 : fx (c.T k) = [59]
   ·have n1_0 : ((bs (fx (c.T k))).toList == [123]) = false := zh (by rw [zj, x1_2]; decide);have Q1_2_0 : Hid (isF c.E [123] (c.R k) = false) := by show _ = _; rw [zr, x1_2]; rfl
    have n1_1 : ((bs (fx (c.T k))).toList == [118, 97, 114]) = false := zh (by rw [zj, x1_2]; decide);have Q1_2_1 : Hid (isF c.E [118, 97, 114] (c.R k) = false) := by show _ = _; rw [zr, x1_2]; rfl
    have n1_2 : ((bs (fx (c.T k))).toList == [59]) = true := zQ (by rw [zj, x1_2]);have Q1_2_2 : Hid (isF c.E [59] (c.R k) = true) := by show _ = _; rw [zr, x1_2]; rfl
    have hlt : k < c.ts.length := yo G2.out.1.le (by rw [x1_2]; decide);clear x1_0 x1_1 x1_2;go_wp2_with fail;refine (zy _ _ _ _ _ _).mono ?_; rintro e w10 hm;obtain ⟨a10, rfl, hT, hB⟩ := vF (k := 5) (x := []) G2.out.2.size hm;have G11 : Hid (Go1 c w w10 k) := ⟨G2.out.1.below hB, G2.out.2.below hB⟩;have T10 := za hT;clear hT hB hm;go_wp2_with fail;refine (xF c k _ _ G11.out.1 Q1_2_2.out).mono ?_; rintro e w12 ⟨rfl, hG⟩;have G13 : Hid (Go1 c w w12 (k + 1)) := ⟨hG.1, G11.out.2.trans hG.2⟩;have T14 := za (T10.out.off hG.2 hbl);clear hG;go_wp2_with fail;go_ret;exact zx (show D c.E .statement (c.R k) (.ok ((nd 5 [] []), c.R (k + 1))) from D.mk0 fun m => by simp only [zg, zc, if_false, if_true, need, zq, ret, Q1_2_0.out, Q1_2_1.out, Q1_2_2.out]) (by omega) rfl G13.out.1 G13.out.2 T14.out
   ·skip
    by_cases x1_3 : fx (c.T k) = [105, 102]
    ·have n1_0 : ((bs (fx (c.T k))).toList == [123]) = false := zh (by rw [zj, x1_3]; decide);have Q1_3_0 : Hid (isF c.E [123] (c.R k) = false) := by show _ = _; rw [zr, x1_3]; rfl
     have n1_1 : ((bs (fx (c.T k))).toList == [118, 97, 114]) = false := zh (by rw [zj, x1_3]; decide);have Q1_3_1 : Hid (isF c.E [118, 97, 114] (c.R k) = false) := by show _ = _; rw [zr, x1_3]; rfl
     have n1_2 : ((bs (fx (c.T k))).toList == [59]) = false := zh (by rw [zj, x1_3]; decide);have Q1_3_2 : Hid (isF c.E [59] (c.R k) = false) := by show _ = _; rw [zr, x1_3]; rfl
     have n1_3 : ((bs (fx (c.T k))).toList == [105, 102]) = true := zQ (by rw [zj, x1_3]);have Q1_3_3 : Hid (isF c.E [105, 102] (c.R k) = true) := by show _ = _; rw [zr, x1_3]; rfl
     have hlt : k < c.ts.length := yo G2.out.1.le (by rw [x1_3]; decide);clear x1_0 x1_1 x1_2 x1_3;go_wp2_with fail;refine (IHI.out _ G2.out.1).mono ?_; rintro e w15 ⟨r, hD, hr⟩;rcases r with p | ⟨t15, R1⟩
     ·obtain ⟨rfl, hO⟩ := hr;have HO := za (G2.out.2.trans hO);have D15 := za hD;clear hD hO;unfold zu;go_wp2_with fail;exact zf rfl (zo (show D c.E .statement (c.R k) (.error p) from D.mk1 D15.out fun m h0 => by simp only [zg, zc, if_false, if_true, Q1_3_0.out, Q1_3_1.out, Q1_3_2.out, Q1_3_3.out, h0]) rfl HO.out)
     ·obtain ⟨j15, v15, rfl, hj15, rfl, hG, hT⟩ := hr;have G16 : Hid (Go1 c w w15 j15) := ⟨hG.1, G2.out.2.trans hG.2⟩;have T15 := za (hT.lower G2.out.2.size);have D15 := za hD;clear hD hG hT;go_wp2_with fail;go_ret;exact zx (show D c.E .statement (c.R k) (.ok (t15, c.R j15)) from D.mk1 D15.out fun m h0 => by simp only [zg, zc, if_false, if_true, Q1_3_0.out, Q1_3_1.out, Q1_3_2.out, Q1_3_3.out, h0]) (by omega) rfl G16.out.1 G16.out.2 T15.out
    ·skip
     by_cases x1_4 : fx (c.T k) = [119, 104, 105, 108, 101]
     ·have n1_0 : ((bs (fx (c.T k))).toList == [123]) = false := zh (by rw [zj, x1_4]; decide);have Q1_4_0 : Hid (isF c.E [123] (c.R k) = false) := by show _ = _; rw [zr, x1_4]; rfl
      have n1_1 : ((bs (fx (c.T k))).toList == [118, 97, 114]) = false := zh (by rw [zj, x1_4]; decide);have Q1_4_1 : Hid (isF c.E [118, 97, 114] (c.R k) = false) := by show _ = _; rw [zr, x1_4]; rfl
      have n1_2 : ((bs (fx (c.T k))).toList == [59]) = false := zh (by rw [zj, x1_4]; decide);have Q1_4_2 : Hid (isF c.E [59] (c.R k) = false) := by show _ = _; rw [zr, x1_4]; rfl
      have n1_3 : ((bs (fx (c.T k))).toList == [105, 102]) = false := zh (by rw [zj, x1_4]; decide);have Q1_4_3 : Hid (isF c.E [105, 102] (c.R k) = false) := by show _ = _; rw [zr, x1_4]; rfl
      have n1_4 : ((bs (fx (c.T k))).toList == [119, 104, 105, 108, 101]) = true := zQ (by rw [zj, x1_4]);have Q1_4_4 : Hid (isF c.E [119, 104, 105, 108, 101] (c.R k) = true) := by show _ = _; rw [zr, x1_4]; rfl
      have hlt : k < c.ts.length := yo G2.out.1.le (by rw [x1_4]; decide);clear x1_0 x1_1 x1_2 x1_3 x1_4;go_wp2_with fail;refine (IHW.out _ G2.out.1).mono ?_; rintro e w17 ⟨r, hD, hr⟩;rcases r with p | ⟨t17, R1⟩
      ·obtain ⟨rfl, hO⟩ := hr;have HO := za (G2.out.2.trans hO);have D17 := za hD;clear hD hO;unfold zu;go_wp2_with fail;exact zf rfl (zo (show D c.E .statement (c.R k) (.error p) from D.mk1 D17.out fun m h0 => by simp only [zg, zc, if_false, if_true, Q1_4_0.out, Q1_4_1.out, Q1_4_2.out, Q1_4_3.out, Q1_4_4.out, h0]) rfl HO.out)
      ·obtain ⟨j17, v17, rfl, hj17, rfl, hG, hT⟩ := hr;have G18 : Hid (Go1 c w w17 j17) := ⟨hG.1, G2.out.2.trans hG.2⟩;have T17 := za (hT.lower G2.out.2.size);have D17 := za hD;clear hD hG hT;go_wp2_with fail;go_ret;exact zx (show D c.E .statement (c.R k) (.ok (t17, c.R j17)) from D.mk1 D17.out fun m h0 => by simp only [zg, zc, if_false, if_true, Q1_4_0.out, Q1_4_1.out, Q1_4_2.out, Q1_4_3.out, Q1_4_4.out, h0]) (by omega) rfl G18.out.1 G18.out.2 T17.out
     ·skip
      by_cases x1_5 : fx (c.T k) = [100, 111]
      ·have n1_0 : ((bs (fx (c.T k))).toList == [123]) = false := zh (by rw [zj, x1_5]; decide);have Q1_5_0 : Hid (isF c.E [123] (c.R k) = false) := by show _ = _; rw [zr, x1_5]; rfl
       have n1_1 : ((bs (fx (c.T k))).toList == [118, 97, 114]) = false := zh (by rw [zj, x1_5]; decide);have Q1_5_1 : Hid (isF c.E [118, 97, 114] (c.R k) = false) := by show _ = _; rw [zr, x1_5]; rfl
       have n1_2 : ((bs (fx (c.T k))).toList == [59]) = false := zh (by rw [zj, x1_5]; decide);have Q1_5_2 : Hid (isF c.E [59] (c.R k) = false) := by show _ = _; rw [zr, x1_5]; rfl
       have n1_3 : ((bs (fx (c.T k))).toList == [105, 102]) = false := zh (by rw [zj, x1_5]; decide);have Q1_5_3 : Hid (isF c.E [105, 102] (c.R k) = false) := by show _ = _; rw [zr, x1_5]; rfl
       have n1_4 : ((bs (fx (c.T k))).toList == [119, 104, 105, 108, 101]) = false := zh (by rw [zj, x1_5]; decide);have Q1_5_4 : Hid (isF c.E [119, 104, 105, 108, 101] (c.R k) = false) := by show _ = _; rw [zr, x1_5]; rfl
       have n1_5 : ((bs (fx (c.T k))).toList == [100, 111]) = true := zQ (by rw [zj, x1_5]);have Q1_5_5 : Hid (isF c.E [100, 111] (c.R k) = true) := by show _ = _; rw [zr, x1_5]; rfl
       have hlt : k < c.ts.length := yo G2.out.1.le (by rw [x1_5]; decide);clear x1_0 x1_1 x1_2 x1_3 x1_4 x1_5;go_wp2_with fail;refine (IHD.out _ G2.out.1).mono ?_; rintro e w19 ⟨r, hD, hr⟩;rcases r with p | ⟨t19, R1⟩
       ·obtain ⟨rfl, hO⟩ := hr;have HO := za (G2.out.2.trans hO);have D19 := za hD;clear hD hO;unfold zu;go_wp2_with fail;exact zf rfl (zo (show D c.E .statement (c.R k) (.error p) from D.mk1 D19.out fun m h0 => by simp only [zg, zc, if_false, if_true, Q1_5_0.out, Q1_5_1.out, Q1_5_2.out, Q1_5_3.out, Q1_5_4.out, Q1_5_5.out, h0]) rfl HO.out)
       ·obtain ⟨j19, v19, rfl, hj19, rfl, hG, hT⟩ := hr;have G20 : Hid (Go1 c w w19 j19) := ⟨hG.1, G2.out.2.trans hG.2⟩;have T19 := za (hT.lower G2.out.2.size);have D19 := za hD;clear hD hG hT;go_wp2_with fail;go_ret;exact zx (show D c.E .statement (c.R k) (.ok (t19, c.R j19)) from D.mk1 D19.out fun m h0 => by simp only [zg, zc, if_false, if_true, Q1_5_0.out, Q1_5_1.out, Q1_5_2.out, Q1_5_3.out, Q1_5_4.out, Q1_5_5.out, h0]) (by omega) rfl G20.out.1 G20.out.2 T19.out
      ·skip
       by_cases x1_6 : fx (c.T k) = [102, 111, 114]
       ·have n1_0 : ((bs (fx (c.T k))).toList == [123]) = false := zh (by rw [zj, x1_6]; decide);have Q1_6_0 : Hid (isF c.E [123] (c.R k) = false) := by show _ = _; rw [zr, x1_6]; rfl
        have n1_1 : ((bs (fx (c.T k))).toList == [118, 97, 114]) = false := zh (by rw [zj, x1_6]; decide);have Q1_6_1 : Hid (isF c.E [118, 97, 114] (c.R k) = false) := by show _ = _; rw [zr, x1_6]; rfl
        have n1_2 : ((bs (fx (c.T k))).toList == [59]) = false := zh (by rw [zj, x1_6]; decide);have Q1_6_2 : Hid (isF c.E [59] (c.R k) = false) := by show _ = _; rw [zr, x1_6]; rfl
        have n1_3 : ((bs (fx (c.T k))).toList == [105, 102]) = false := zh (by rw [zj, x1_6]; decide);have Q1_6_3 : Hid (isF c.E [105, 102] (c.R k) = false) := by show _ = _; rw [zr, x1_6]; rfl
        have n1_4 : ((bs (fx (c.T k))).toList == [119, 104, 105, 108, 101]) = false := zh (by rw [zj, x1_6]; decide);have Q1_6_4 : Hid (isF c.E [119, 104, 105, 108, 101] (c.R k) = false) := by show _ = _; rw [zr, x1_6]; rfl
        have n1_5 : ((bs (fx (c.T k))).toList == [100, 111]) = false := zh (by rw [zj, x1_6]; decide);have Q1_6_5 : Hid (isF c.E [100, 111] (c.R k) = false) := by show _ = _; rw [zr, x1_6]; rfl
        have n1_6 : ((bs (fx (c.T k))).toList == [102, 111, 114]) = true := zQ (by rw [zj, x1_6]);have Q1_6_6 : Hid (isF c.E [102, 111, 114] (c.R k) = true) := by show _ = _; rw [zr, x1_6]; rfl
        have hlt : k < c.ts.length := yo G2.out.1.le (by rw [x1_6]; decide);clear x1_0 x1_1 x1_2 x1_3 x1_4 x1_5 x1_6;go_wp2_with fail;refine (IHF.out _ G2.out.1).mono ?_; rintro e w21 ⟨r, hD, hr⟩;rcases r with p | ⟨t21, R1⟩
        ·obtain ⟨rfl, hO⟩ := hr;have HO := za (G2.out.2.trans hO);have D21 := za hD;clear hD hO;unfold zu;go_wp2_with fail;exact zf rfl (zo (show D c.E .statement (c.R k) (.error p) from D.mk1 D21.out fun m h0 => by simp only [zg, zc, if_false, if_true, Q1_6_0.out, Q1_6_1.out, Q1_6_2.out, Q1_6_3.out, Q1_6_4.out, Q1_6_5.out, Q1_6_6.out, h0]) rfl HO.out)
        ·obtain ⟨j21, v21, rfl, hj21, rfl, hG, hT⟩ := hr;have G22 : Hid (Go1 c w w21 j21) := ⟨hG.1, G2.out.2.trans hG.2⟩;have T21 := za (hT.lower G2.out.2.size);have D21 := za hD;clear hD hG hT;go_wp2_with fail;go_ret;exact zx (show D c.E .statement (c.R k) (.ok (t21, c.R j21)) from D.mk1 D21.out fun m h0 => by simp only [zg, zc, if_false, if_true, Q1_6_0.out, Q1_6_1.out, Q1_6_2.out, Q1_6_3.out, Q1_6_4.out, Q1_6_5.out, Q1_6_6.out, h0]) (by omega) rfl G22.out.1 G22.out.2 T21.out
       ·skip
        by_cases x1_7 : fx (c.T k) = [98, 114, 101, 97, 107]
        ·have n1_0 : ((bs (fx (c.T k))).toList == [123]) = false := zh (by rw [zj, x1_7]; decide);have Q1_7_0 : Hid (isF c.E [123] (c.R k) = false) := by show _ = _; rw [zr, x1_7]; rfl
         have n1_1 : ((bs (fx (c.T k))).toList == [118, 97, 114]) = false := zh (by rw [zj, x1_7]; decide);have Q1_7_1 : Hid (isF c.E [118, 97, 114] (c.R k) = false) := by show _ = _; rw [zr, x1_7]; rfl
         have n1_2 : ((bs (fx (c.T k))).toList == [59]) = false := zh (by rw [zj, x1_7]; decide);have Q1_7_2 : Hid (isF c.E [59] (c.R k) = false) := by show _ = _; rw [zr, x1_7]; rfl
         have n1_3 : ((bs (fx (c.T k))).toList == [105, 102]) = false := zh (by rw [zj, x1_7]; decide);have Q1_7_3 : Hid (isF c.E [105, 102] (c.R k) = false) := by show _ = _; rw [zr, x1_7]; rfl
         have n1_4 : ((bs (fx (c.T k))).toList == [119, 104, 105, 108, 101]) = false := zh (by rw [zj, x1_7]; decide);have Q1_7_4 : Hid (isF c.E [119, 104, 105, 108, 101] (c.R k) = false) := by show _ = _; rw [zr, x1_7]; rfl
         have n1_5 : ((bs (fx (c.T k))).toList == [100, 111]) = false := zh (by rw [zj, x1_7]; decide);have Q1_7_5 : Hid (isF c.E [100, 111] (c.R k) = false) := by show _ = _; rw [zr, x1_7]; rfl
         have n1_6 : ((bs (fx (c.T k))).toList == [102, 111, 114]) = false := zh (by rw [zj, x1_7]; decide);have Q1_7_6 : Hid (isF c.E [102, 111, 114] (c.R k) = false) := by show _ = _; rw [zr, x1_7]; rfl
         have n1_7 : ((bs (fx (c.T k))).toList == [98, 114, 101, 97, 107]) = true := zQ (by rw [zj, x1_7]);have Q1_7_7 : Hid (isF c.E [98, 114, 101, 97, 107] (c.R k) = true) := by show _ = _; rw [zr, x1_7]; rfl
         have hlt : k < c.ts.length := yo G2.out.1.le (by rw [x1_7]; decide);clear x1_0 x1_1 x1_2 x1_3 x1_4 x1_5 x1_6 x1_7;go_wp2_with fail;refine (zcB c k 11 hlt _ G2.out.1).mono ?_; rintro e w23 ⟨r, hD, hr⟩;rcases r with p | ⟨t23, R1⟩
         ·obtain ⟨rfl, hO⟩ := hr;have HO := za (G2.out.2.trans hO);have D23 := za hD;clear hD hO;unfold zu;go_wp2_with fail;exact zf rfl (zo (show D c.E .statement (c.R k) (.error p) from D.mk1 D23.out fun m h0 => by simp only [zg, zc, if_false, if_true, Q1_7_0.out, Q1_7_1.out, Q1_7_2.out, Q1_7_3.out, Q1_7_4.out, Q1_7_5.out, Q1_7_6.out, Q1_7_7.out, h0]) rfl HO.out)
         ·obtain ⟨j23, v23, rfl, hj23, rfl, hG, hT⟩ := hr;have G24 : Hid (Go1 c w w23 j23) := ⟨hG.1, G2.out.2.trans hG.2⟩;have T23 := za (hT.lower G2.out.2.size);have D23 := za hD;clear hD hG hT;go_wp2_with fail;go_ret;exact zx (show D c.E .statement (c.R k) (.ok (t23, c.R j23)) from D.mk1 D23.out fun m h0 => by simp only [zg, zc, if_false, if_true, Q1_7_0.out, Q1_7_1.out, Q1_7_2.out, Q1_7_3.out, Q1_7_4.out, Q1_7_5.out, Q1_7_6.out, Q1_7_7.out, h0]) (by omega) rfl G24.out.1 G24.out.2 T23.out
        ·skip
         by_cases x1_8 : fx (c.T k) = [99, 111, 110, 116, 105, 110, 117, 101]
         ·have n1_0 : ((bs (fx (c.T k))).toList == [123]) = false := zh (by rw [zj, x1_8]; decide);have Q1_8_0 : Hid (isF c.E [123] (c.R k) = false) := by show _ = _; rw [zr, x1_8]; rfl
          have n1_1 : ((bs (fx (c.T k))).toList == [118, 97, 114]) = false := zh (by rw [zj, x1_8]; decide);have Q1_8_1 : Hid (isF c.E [118, 97, 114] (c.R k) = false) := by show _ = _; rw [zr, x1_8]; rfl
          have n1_2 : ((bs (fx (c.T k))).toList == [59]) = false := zh (by rw [zj, x1_8]; decide);have Q1_8_2 : Hid (isF c.E [59] (c.R k) = false) := by show _ = _; rw [zr, x1_8]; rfl
          have n1_3 : ((bs (fx (c.T k))).toList == [105, 102]) = false := zh (by rw [zj, x1_8]; decide);have Q1_8_3 : Hid (isF c.E [105, 102] (c.R k) = false) := by show _ = _; rw [zr, x1_8]; rfl
          have n1_4 : ((bs (fx (c.T k))).toList == [119, 104, 105, 108, 101]) = false := zh (by rw [zj, x1_8]; decide);have Q1_8_4 : Hid (isF c.E [119, 104, 105, 108, 101] (c.R k) = false) := by show _ = _; rw [zr, x1_8]; rfl
          have n1_5 : ((bs (fx (c.T k))).toList == [100, 111]) = false := zh (by rw [zj, x1_8]; decide);have Q1_8_5 : Hid (isF c.E [100, 111] (c.R k) = false) := by show _ = _; rw [zr, x1_8]; rfl
          have n1_6 : ((bs (fx (c.T k))).toList == [102, 111, 114]) = false := zh (by rw [zj, x1_8]; decide);have Q1_8_6 : Hid (isF c.E [102, 111, 114] (c.R k) = false) := by show _ = _; rw [zr, x1_8]; rfl
          have n1_7 : ((bs (fx (c.T k))).toList == [98, 114, 101, 97, 107]) = false := zh (by rw [zj, x1_8]; decide);have Q1_8_7 : Hid (isF c.E [98, 114, 101, 97, 107] (c.R k) = false) := by show _ = _; rw [zr, x1_8]; rfl
          have n1_8 : ((bs (fx (c.T k))).toList == [99, 111, 110, 116, 105, 110, 117, 101]) = true := zQ (by rw [zj, x1_8]);have Q1_8_8 : Hid (isF c.E [99, 111, 110, 116, 105, 110, 117, 101] (c.R k) = true) := by show _ = _; rw [zr, x1_8]; rfl
          have hlt : k < c.ts.length := yo G2.out.1.le (by rw [x1_8]; decide);clear x1_0 x1_1 x1_2 x1_3 x1_4 x1_5 x1_6 x1_7 x1_8;go_wp2_with fail;refine (zcB c k 12 hlt _ G2.out.1).mono ?_; rintro e w25 ⟨r, hD, hr⟩;rcases r with p | ⟨t25, R1⟩
          ·obtain ⟨rfl, hO⟩ := hr;have HO := za (G2.out.2.trans hO);have D25 := za hD;clear hD hO;unfold zu;go_wp2_with fail;exact zf rfl (zo (show D c.E .statement (c.R k) (.error p) from D.mk1 D25.out fun m h0 => by simp only [zg, zc, if_false, if_true, Q1_8_0.out, Q1_8_1.out, Q1_8_2.out, Q1_8_3.out, Q1_8_4.out, Q1_8_5.out, Q1_8_6.out, Q1_8_7.out, Q1_8_8.out, h0]) rfl HO.out)
          ·obtain ⟨j25, v25, rfl, hj25, rfl, hG, hT⟩ := hr;have G26 : Hid (Go1 c w w25 j25) := ⟨hG.1, G2.out.2.trans hG.2⟩;have T25 := za (hT.lower G2.out.2.size);have D25 := za hD;clear hD hG hT;go_wp2_with fail;go_ret;exact zx (show D c.E .statement (c.R k) (.ok (t25, c.R j25)) from D.mk1 D25.out fun m h0 => by simp only [zg, zc, if_false, if_true, Q1_8_0.out, Q1_8_1.out, Q1_8_2.out, Q1_8_3.out, Q1_8_4.out, Q1_8_5.out, Q1_8_6.out, Q1_8_7.out, Q1_8_8.out, h0]) (by omega) rfl G26.out.1 G26.out.2 T25.out
         ·skip
          by_cases x1_9 : fx (c.T k) = [114, 101, 116, 117, 114, 110]
          ·have n1_0 : ((bs (fx (c.T k))).toList == [123]) = false := zh (by rw [zj, x1_9]; decide);have Q1_9_0 : Hid (isF c.E [123] (c.R k) = false) := by show _ = _; rw [zr, x1_9]; rfl
           have n1_1 : ((bs (fx (c.T k))).toList == [118, 97, 114]) = false := zh (by rw [zj, x1_9]; decide);have Q1_9_1 : Hid (isF c.E [118, 97, 114] (c.R k) = false) := by show _ = _; rw [zr, x1_9]; rfl
           have n1_2 : ((bs (fx (c.T k))).toList == [59]) = false := zh (by rw [zj, x1_9]; decide);have Q1_9_2 : Hid (isF c.E [59] (c.R k) = false) := by show _ = _; rw [zr, x1_9]; rfl
           have n1_3 : ((bs (fx (c.T k))).toList == [105, 102]) = false := zh (by rw [zj, x1_9]; decide);have Q1_9_3 : Hid (isF c.E [105, 102] (c.R k) = false) := by show _ = _; rw [zr, x1_9]; rfl
           have n1_4 : ((bs (fx (c.T k))).toList == [119, 104, 105, 108, 101]) = false := zh (by rw [zj, x1_9]; decide);have Q1_9_4 : Hid (isF c.E [119, 104, 105, 108, 101] (c.R k) = false) := by show _ = _; rw [zr, x1_9]; rfl
           have n1_5 : ((bs (fx (c.T k))).toList == [100, 111]) = false := zh (by rw [zj, x1_9]; decide);have Q1_9_5 : Hid (isF c.E [100, 111] (c.R k) = false) := by show _ = _; rw [zr, x1_9]; rfl
           have n1_6 : ((bs (fx (c.T k))).toList == [102, 111, 114]) = false := zh (by rw [zj, x1_9]; decide);have Q1_9_6 : Hid (isF c.E [102, 111, 114] (c.R k) = false) := by show _ = _; rw [zr, x1_9]; rfl
           have n1_7 : ((bs (fx (c.T k))).toList == [98, 114, 101, 97, 107]) = false := zh (by rw [zj, x1_9]; decide);have Q1_9_7 : Hid (isF c.E [98, 114, 101, 97, 107] (c.R k) = false) := by show _ = _; rw [zr, x1_9]; rfl
           have n1_8 : ((bs (fx (c.T k))).toList == [99, 111, 110, 116, 105, 110, 117, 101]) = false := zh (by rw [zj, x1_9]; decide);have Q1_9_8 : Hid (isF c.E [99, 111, 110, 116, 105, 110, 117, 101] (c.R k) = false) := by show _ = _; rw [zr, x1_9]; rfl
           have n1_9 : ((bs (fx (c.T k))).toList == [114, 101, 116, 117, 114, 110]) = true := zQ (by rw [zj, x1_9]);have Q1_9_9 : Hid (isF c.E [114, 101, 116, 117, 114, 110] (c.R k) = true) := by show _ = _; rw [zr, x1_9]; rfl
           have hlt : k < c.ts.length := yo G2.out.1.le (by rw [x1_9]; decide);clear x1_0 x1_1 x1_2 x1_3 x1_4 x1_5 x1_6 x1_7 x1_8 x1_9;go_wp2_with fail;refine (IHR.out _ G2.out.1).mono ?_; rintro e w27 ⟨r, hD, hr⟩;rcases r with p | ⟨t27, R1⟩
           ·obtain ⟨rfl, hO⟩ := hr;have HO := za (G2.out.2.trans hO);have D27 := za hD;clear hD hO;unfold zu;go_wp2_with fail;exact zf rfl (zo (show D c.E .statement (c.R k) (.error p) from D.mk1 D27.out fun m h0 => by simp only [zg, zc, if_false, if_true, Q1_9_0.out, Q1_9_1.out, Q1_9_2.out, Q1_9_3.out, Q1_9_4.out, Q1_9_5.out, Q1_9_6.out, Q1_9_7.out, Q1_9_8.out, Q1_9_9.out, h0]) rfl HO.out)
           ·obtain ⟨j27, v27, rfl, hj27, rfl, hG, hT⟩ := hr;have G28 : Hid (Go1 c w w27 j27) := ⟨hG.1, G2.out.2.trans hG.2⟩;have T27 := za (hT.lower G2.out.2.size);have D27 := za hD;clear hD hG hT;go_wp2_with fail;go_ret;exact zx (show D c.E .statement (c.R k) (.ok (t27, c.R j27)) from D.mk1 D27.out fun m h0 => by simp only [zg, zc, if_false, if_true, Q1_9_0.out, Q1_9_1.out, Q1_9_2.out, Q1_9_3.out, Q1_9_4.out, Q1_9_5.out, Q1_9_6.out, Q1_9_7.out, Q1_9_8.out, Q1_9_9.out, h0]) (by omega) rfl G28.out.1 G28.out.2 T27.out
          ·skip
           by_cases x1_10 : fx (c.T k) = [116, 104, 114, 111, 119]
           ·have n1_0 : ((bs (fx (c.T k))).toList == [123]) = false := zh (by rw [zj, x1_10]; decide);have Q1_10_0 : Hid (isF c.E [123] (c.R k) = false) := by show _ = _; rw [zr, x1_10]; rfl
            have n1_1 : ((bs (fx (c.T k))).toList == [118, 97, 114]) = false := zh (by rw [zj, x1_10]; decide);have Q1_10_1 : Hid (isF c.E [118, 97, 114] (c.R k) = false) := by show _ = _; rw [zr, x1_10]; rfl
            have n1_2 : ((bs (fx (c.T k))).toList == [59]) = false := zh (by rw [zj, x1_10]; decide);have Q1_10_2 : Hid (isF c.E [59] (c.R k) = false) := by show _ = _; rw [zr, x1_10]; rfl
            have n1_3 : ((bs (fx (c.T k))).toList == [105, 102]) = false := zh (by rw [zj, x1_10]; decide);have Q1_10_3 : Hid (isF c.E [105, 102] (c.R k) = false) := by show _ = _; rw [zr, x1_10]; rfl
            have n1_4 : ((bs (fx (c.T k))).toList == [119, 104, 105, 108, 101]) = false := zh (by rw [zj, x1_10]; decide);have Q1_10_4 : Hid (isF c.E [119, 104, 105, 108, 101] (c.R k) = false) := by show _ = _; rw [zr, x1_10]; rfl
            have n1_5 : ((bs (fx (c.T k))).toList == [100, 111]) = false := zh (by rw [zj, x1_10]; decide);have Q1_10_5 : Hid (isF c.E [100, 111] (c.R k) = false) := by show _ = _; rw [zr, x1_10]; rfl
            have n1_6 : ((bs (fx (c.T k))).toList == [102, 111, 114]) = false := zh (by rw [zj, x1_10]; decide);have Q1_10_6 : Hid (isF c.E [102, 111, 114] (c.R k) = false) := by show _ = _; rw [zr, x1_10]; rfl
            have n1_7 : ((bs (fx (c.T k))).toList == [98, 114, 101, 97, 107]) = false := zh (by rw [zj, x1_10]; decide);have Q1_10_7 : Hid (isF c.E [98, 114, 101, 97, 107] (c.R k) = false) := by show _ = _; rw [zr, x1_10]; rfl
            have n1_8 : ((bs (fx (c.T k))).toList == [99, 111, 110, 116, 105, 110, 117, 101]) = false := zh (by rw [zj, x1_10]; decide);have Q1_10_8 : Hid (isF c.E [99, 111, 110, 116, 105, 110, 117, 101] (c.R k) = false) := by show _ = _; rw [zr, x1_10]; rfl
            have n1_9 : ((bs (fx (c.T k))).toList == [114, 101, 116, 117, 114, 110]) = false := zh (by rw [zj, x1_10]; decide);have Q1_10_9 : Hid (isF c.E [114, 101, 116, 117, 114, 110] (c.R k) = false) := by show _ = _; rw [zr, x1_10]; rfl
            have n1_10 : ((bs (fx (c.T k))).toList == [116, 104, 114, 111, 119]) = true := zQ (by rw [zj, x1_10]);have Q1_10_10 : Hid (isF c.E [116, 104, 114, 111, 119] (c.R k) = true) := by show _ = _; rw [zr, x1_10]; rfl
            have hlt : k < c.ts.length := yo G2.out.1.le (by rw [x1_10]; decide);clear x1_0 x1_1 x1_2 x1_3 x1_4 x1_5 x1_6 x1_7 x1_8 x1_9 x1_10;go_wp2_with fail;refine (IHT.out _ G2.out.1).mono ?_; rintro e w29 ⟨r, hD, hr⟩;rcases r with p | ⟨t29, R1⟩
            ·obtain ⟨rfl, hO⟩ := hr;have HO := za (G2.out.2.trans hO);have D29 := za hD;clear hD hO;unfold zu;go_wp2_with fail;exact zf rfl (zo (show D c.E .statement (c.R k) (.error p) from D.mk1 D29.out fun m h0 => by simp only [zg, zc, if_false, if_true, Q1_10_0.out, Q1_10_1.out, Q1_10_2.out, Q1_10_3.out, Q1_10_4.out, Q1_10_5.out, Q1_10_6.out, Q1_10_7.out, Q1_10_8.out, Q1_10_9.out, Q1_10_10.out, h0]) rfl HO.out)
            ·obtain ⟨j29, v29, rfl, hj29, rfl, hG, hT⟩ := hr;have G30 : Hid (Go1 c w w29 j29) := ⟨hG.1, G2.out.2.trans hG.2⟩;have T29 := za (hT.lower G2.out.2.size);have D29 := za hD;clear hD hG hT;go_wp2_with fail;go_ret;exact zx (show D c.E .statement (c.R k) (.ok (t29, c.R j29)) from D.mk1 D29.out fun m h0 => by simp only [zg, zc, if_false, if_true, Q1_10_0.out, Q1_10_1.out, Q1_10_2.out, Q1_10_3.out, Q1_10_4.out, Q1_10_5.out, Q1_10_6.out, Q1_10_7.out, Q1_10_8.out, Q1_10_9.out, Q1_10_10.out, h0]) (by omega) rfl G30.out.1 G30.out.2 T29.out
           ·skip
            by_cases x1_11 : fx (c.T k) = [116, 114, 121]
            ·have n1_0 : ((bs (fx (c.T k))).toList == [123]) = false := zh (by rw [zj, x1_11]; decide);have Q1_11_0 : Hid (isF c.E [123] (c.R k) = false) := by show _ = _; rw [zr, x1_11]; rfl
             have n1_1 : ((bs (fx (c.T k))).toList == [118, 97, 114]) = false := zh (by rw [zj, x1_11]; decide);have Q1_11_1 : Hid (isF c.E [118, 97, 114] (c.R k) = false) := by show _ = _; rw [zr, x1_11]; rfl
             have n1_2 : ((bs (fx (c.T k))).toList == [59]) = false := zh (by rw [zj, x1_11]; decide);have Q1_11_2 : Hid (isF c.E [59] (c.R k) = false) := by show _ = _; rw [zr, x1_11]; rfl
             have n1_3 : ((bs (fx (c.T k))).toList == [105, 102]) = false := zh (by rw [zj, x1_11]; decide);have Q1_11_3 : Hid (isF c.E [105, 102] (c.R k) = false) := by show _ = _; rw [zr, x1_11]; rfl
             have n1_4 : ((bs (fx (c.T k))).toList == [119, 104, 105, 108, 101]) = false := zh (by rw [zj, x1_11]; decide);have Q1_11_4 : Hid (isF c.E [119, 104, 105, 108, 101] (c.R k) = false) := by show _ = _; rw [zr, x1_11]; rfl
             have n1_5 : ((bs (fx (c.T k))).toList == [100, 111]) = false := zh (by rw [zj, x1_11]; decide);have Q1_11_5 : Hid (isF c.E [100, 111] (c.R k) = false) := by show _ = _; rw [zr, x1_11]; rfl
             have n1_6 : ((bs (fx (c.T k))).toList == [102, 111, 114]) = false := zh (by rw [zj, x1_11]; decide);have Q1_11_6 : Hid (isF c.E [102, 111, 114] (c.R k) = false) := by show _ = _; rw [zr, x1_11]; rfl
             have n1_7 : ((bs (fx (c.T k))).toList == [98, 114, 101, 97, 107]) = false := zh (by rw [zj, x1_11]; decide);have Q1_11_7 : Hid (isF c.E [98, 114, 101, 97, 107] (c.R k) = false) := by show _ = _; rw [zr, x1_11]; rfl
             have n1_8 : ((bs (fx (c.T k))).toList == [99, 111, 110, 116, 105, 110, 117, 101]) = false := zh (by rw [zj, x1_11]; decide);have Q1_11_8 : Hid (isF c.E [99, 111, 110, 116, 105, 110, 117, 101] (c.R k) = false) := by show _ = _; rw [zr, x1_11]; rfl
             have n1_9 : ((bs (fx (c.T k))).toList == [114, 101, 116, 117, 114, 110]) = false := zh (by rw [zj, x1_11]; decide);have Q1_11_9 : Hid (isF c.E [114, 101, 116, 117, 114, 110] (c.R k) = false) := by show _ = _; rw [zr, x1_11]; rfl
             have n1_10 : ((bs (fx (c.T k))).toList == [116, 104, 114, 111, 119]) = false := zh (by rw [zj, x1_11]; decide);have Q1_11_10 : Hid (isF c.E [116, 104, 114, 111, 119] (c.R k) = false) := by show _ = _; rw [zr, x1_11]; rfl
             have n1_11 : ((bs (fx (c.T k))).toList == [116, 114, 121]) = true := zQ (by rw [zj, x1_11]);have Q1_11_11 : Hid (isF c.E [116, 114, 121] (c.R k) = true) := by show _ = _; rw [zr, x1_11]; rfl
             have hlt : k < c.ts.length := yo G2.out.1.le (by rw [x1_11]; decide);clear x1_0 x1_1 x1_2 x1_3 x1_4 x1_5 x1_6 x1_7 x1_8 x1_9 x1_10 x1_11;go_wp2_with fail;refine (IHY.out _ G2.out.1).mono ?_; rintro e w31 ⟨r, hD, hr⟩;rcases r with p | ⟨t31, R1⟩
             ·obtain ⟨rfl, hO⟩ := hr;have HO := za (G2.out.2.trans hO);have D31 := za hD;clear hD hO;unfold zu;go_wp2_with fail;exact zf rfl (zo (show D c.E .statement (c.R k) (.error p) from D.mk1 D31.out fun m h0 => by simp only [zg, zc, if_false, if_true, Q1_11_0.out, Q1_11_1.out, Q1_11_2.out, Q1_11_3.out, Q1_11_4.out, Q1_11_5.out, Q1_11_6.out, Q1_11_7.out, Q1_11_8.out, Q1_11_9.out, Q1_11_10.out, Q1_11_11.out, h0]) rfl HO.out)
             ·obtain ⟨j31, v31, rfl, hj31, rfl, hG, hT⟩ := hr;have G32 : Hid (Go1 c w w31 j31) := ⟨hG.1, G2.out.2.trans hG.2⟩;have T31 := za (hT.lower G2.out.2.size);have D31 := za hD;clear hD hG hT;go_wp2_with fail;go_ret;exact zx (show D c.E .statement (c.R k) (.ok (t31, c.R j31)) from D.mk1 D31.out fun m h0 => by simp only [zg, zc, if_false, if_true, Q1_11_0.out, Q1_11_1.out, Q1_11_2.out, Q1_11_3.out, Q1_11_4.out, Q1_11_5.out, Q1_11_6.out, Q1_11_7.out, Q1_11_8.out, Q1_11_9.out, Q1_11_10.out, Q1_11_11.out, h0]) (by omega) rfl G32.out.1 G32.out.2 T31.out
            ·skip
             by_cases x1_12 : fx (c.T k) = [102, 117, 110, 99, 116, 105, 111, 110]
             ·have n1_0 : ((bs (fx (c.T k))).toList == [123]) = false := zh (by rw [zj, x1_12]; decide);have Q1_12_0 : Hid (isF c.E [123] (c.R k) = false) := by show _ = _; rw [zr, x1_12]; rfl
              have n1_1 : ((bs (fx (c.T k))).toList == [118, 97, 114]) = false := zh (by rw [zj, x1_12]; decide);have Q1_12_1 : Hid (isF c.E [118, 97, 114] (c.R k) = false) := by show _ = _; rw [zr, x1_12]; rfl
              have n1_2 : ((bs (fx (c.T k))).toList == [59]) = false := zh (by rw [zj, x1_12]; decide);have Q1_12_2 : Hid (isF c.E [59] (c.R k) = false) := by show _ = _; rw [zr, x1_12]; rfl
              have n1_3 : ((bs (fx (c.T k))).toList == [105, 102]) = false := zh (by rw [zj, x1_12]; decide);have Q1_12_3 : Hid (isF c.E [105, 102] (c.R k) = false) := by show _ = _; rw [zr, x1_12]; rfl
              have n1_4 : ((bs (fx (c.T k))).toList == [119, 104, 105, 108, 101]) = false := zh (by rw [zj, x1_12]; decide);have Q1_12_4 : Hid (isF c.E [119, 104, 105, 108, 101] (c.R k) = false) := by show _ = _; rw [zr, x1_12]; rfl
              have n1_5 : ((bs (fx (c.T k))).toList == [100, 111]) = false := zh (by rw [zj, x1_12]; decide);have Q1_12_5 : Hid (isF c.E [100, 111] (c.R k) = false) := by show _ = _; rw [zr, x1_12]; rfl
              have n1_6 : ((bs (fx (c.T k))).toList == [102, 111, 114]) = false := zh (by rw [zj, x1_12]; decide);have Q1_12_6 : Hid (isF c.E [102, 111, 114] (c.R k) = false) := by show _ = _; rw [zr, x1_12]; rfl
              have n1_7 : ((bs (fx (c.T k))).toList == [98, 114, 101, 97, 107]) = false := zh (by rw [zj, x1_12]; decide);have Q1_12_7 : Hid (isF c.E [98, 114, 101, 97, 107] (c.R k) = false) := by show _ = _; rw [zr, x1_12]; rfl
              have n1_8 : ((bs (fx (c.T k))).toList == [99, 111, 110, 116, 105, 110, 117, 101]) = false := zh (by rw [zj, x1_12]; decide);have Q1_12_8 : Hid (isF c.E [99, 111, 110, 116, 105, 110, 117, 101] (c.R k) = false) := by show _ = _; rw [zr, x1_12]; rfl
              have n1_9 : ((bs (fx (c.T k))).toList == [114, 101, 116, 117, 114, 110]) = false := zh (by rw [zj, x1_12]; decide);have Q1_12_9 : Hid (isF c.E [114, 101, 116, 117, 114, 110] (c.R k) = false) := by show _ = _; rw [zr, x1_12]; rfl
              have n1_10 : ((bs (fx (c.T k))).toList == [116, 104, 114, 111, 119]) = false := zh (by rw [zj, x1_12]; decide);have Q1_12_10 : Hid (isF c.E [116, 104, 114, 111, 119] (c.R k) = false) := by show _ = _; rw [zr, x1_12]; rfl
              have n1_11 : ((bs (fx (c.T k))).toList == [116, 114, 121]) = false := zh (by rw [zj, x1_12]; decide);have Q1_12_11 : Hid (isF c.E [116, 114, 121] (c.R k) = false) := by show _ = _; rw [zr, x1_12]; rfl
              have n1_12 : ((bs (fx (c.T k))).toList == [102, 117, 110, 99, 116, 105, 111, 110]) = true := zQ (by rw [zj, x1_12]);have Q1_12_12 : Hid (isF c.E [102, 117, 110, 99, 116, 105, 111, 110] (c.R k) = true) := by show _ = _; rw [zr, x1_12]; rfl
              have hlt : k < c.ts.length := yo G2.out.1.le (by rw [x1_12]; decide);clear x1_0 x1_1 x1_2 x1_3 x1_4 x1_5 x1_6 x1_7 x1_8 x1_9 x1_10 x1_11 x1_12;go_wp2_with fail;refine (qV c k _ G2.out.1).mono ?_; rintro e w33 ⟨rfl, hB⟩;have HO := za (G2.out.2.below hB);clear hB;unfold zu;go_wp2_with fail;exact zf rfl (zo (show D c.E .statement (c.R k) (.error (c.T k).pos) from D.mk0 fun m => by simp only [zg, zc, if_false, if_true, bad, zI, Q1_12_0.out, Q1_12_1.out, Q1_12_2.out, Q1_12_3.out, Q1_12_4.out, Q1_12_5.out, Q1_12_6.out, Q1_12_7.out, Q1_12_8.out, Q1_12_9.out, Q1_12_10.out, Q1_12_11.out, Q1_12_12.out]) rfl HO.out)
             ·have n1_0 : ((bs (fx (c.T k))).toList == [123]) = false := zh (by rw [zj]; exact x1_0);have Q1_d_0 : Hid (isF c.E [123] (c.R k) = false) := by show _ = _; rw [zr, zb]; exact x1_0
              have n1_1 : ((bs (fx (c.T k))).toList == [118, 97, 114]) = false := zh (by rw [zj]; exact x1_1);have Q1_d_1 : Hid (isF c.E [118, 97, 114] (c.R k) = false) := by show _ = _; rw [zr, zb]; exact x1_1
              have n1_2 : ((bs (fx (c.T k))).toList == [59]) = false := zh (by rw [zj]; exact x1_2);have Q1_d_2 : Hid (isF c.E [59] (c.R k) = false) := by show _ = _; rw [zr, zb]; exact x1_2
              have n1_3 : ((bs (fx (c.T k))).toList == [105, 102]) = false := zh (by rw [zj]; exact x1_3);have Q1_d_3 : Hid (isF c.E [105, 102] (c.R k) = false) := by show _ = _; rw [zr, zb]; exact x1_3
              have n1_4 : ((bs (fx (c.T k))).toList == [119, 104, 105, 108, 101]) = false := zh (by rw [zj]; exact x1_4);have Q1_d_4 : Hid (isF c.E [119, 104, 105, 108, 101] (c.R k) = false) := by show _ = _; rw [zr, zb]; exact x1_4
              have n1_5 : ((bs (fx (c.T k))).toList == [100, 111]) = false := zh (by rw [zj]; exact x1_5);have Q1_d_5 : Hid (isF c.E [100, 111] (c.R k) = false) := by show _ = _; rw [zr, zb]; exact x1_5
              have n1_6 : ((bs (fx (c.T k))).toList == [102, 111, 114]) = false := zh (by rw [zj]; exact x1_6);have Q1_d_6 : Hid (isF c.E [102, 111, 114] (c.R k) = false) := by show _ = _; rw [zr, zb]; exact x1_6
              have n1_7 : ((bs (fx (c.T k))).toList == [98, 114, 101, 97, 107]) = false := zh (by rw [zj]; exact x1_7);have Q1_d_7 : Hid (isF c.E [98, 114, 101, 97, 107] (c.R k) = false) := by show _ = _; rw [zr, zb]; exact x1_7
              have n1_8 : ((bs (fx (c.T k))).toList == [99, 111, 110, 116, 105, 110, 117, 101]) = false := zh (by rw [zj]; exact x1_8);have Q1_d_8 : Hid (isF c.E [99, 111, 110, 116, 105, 110, 117, 101] (c.R k) = false) := by show _ = _; rw [zr, zb]; exact x1_8
              have n1_9 : ((bs (fx (c.T k))).toList == [114, 101, 116, 117, 114, 110]) = false := zh (by rw [zj]; exact x1_9);have Q1_d_9 : Hid (isF c.E [114, 101, 116, 117, 114, 110] (c.R k) = false) := by show _ = _; rw [zr, zb]; exact x1_9
              have n1_10 : ((bs (fx (c.T k))).toList == [116, 104, 114, 111, 119]) = false := zh (by rw [zj]; exact x1_10);have Q1_d_10 : Hid (isF c.E [116, 104, 114, 111, 119] (c.R k) = false) := by show _ = _; rw [zr, zb]; exact x1_10
              have n1_11 : ((bs (fx (c.T k))).toList == [116, 114, 121]) = false := zh (by rw [zj]; exact x1_11);have Q1_d_11 : Hid (isF c.E [116, 114, 121] (c.R k) = false) := by show _ = _; rw [zr, zb]; exact x1_11
              have n1_12 : ((bs (fx (c.T k))).toList == [102, 117, 110, 99, 116, 105, 111, 110]) = false := zh (by rw [zj]; exact x1_12);have Q1_d_12 : Hid (isF c.E [102, 117, 110, 99, 116, 105, 111, 110] (c.R k) = false) := by show _ = _; rw [zr, zb]; exact x1_12
              clear x1_0 x1_1 x1_2 x1_3 x1_4 x1_5 x1_6 x1_7 x1_8 x1_9 x1_10 x1_11 x1_12;go_wp2_with fail;refine (IHE.out _ G2.out.1).mono ?_; rintro e w34 ⟨r, hD, hr⟩;rcases r with p | ⟨t34, R1⟩
              ·obtain ⟨rfl, hO⟩ := hr;have HO := za (G2.out.2.trans hO);have D34 := za hD;clear hD hO;unfold zu;go_wp2_with fail;exact zf rfl (zo (show D c.E .statement (c.R k) (.error p) from D.mk1 D34.out fun m h0 => by simp only [zg, zc, if_false, bnd, Q1_d_0.out, Q1_d_1.out, Q1_d_2.out, Q1_d_3.out, Q1_d_4.out, Q1_d_5.out, Q1_d_6.out, Q1_d_7.out, Q1_d_8.out, Q1_d_9.out, Q1_d_10.out, Q1_d_11.out, Q1_d_12.out, h0]) rfl HO.out)
              ·obtain ⟨j34, vv, rfl, hj34, rfl, hG, hT⟩ := hr;obtain ⟨v34, rfl⟩ := hT.ptr;have G35 : Hid (Go1 c w w34 j34) := ⟨hG.1, G2.out.2.trans hG.2⟩;have T34 := za (hT.lower G2.out.2.size);have D34 := za hD;clear hD hG hT;go_wp2_with fail;refine (zy _ _ _ _ _ _).mono ?_; rintro e w36 hm;obtain ⟨a36, rfl, hT, hB⟩ := zW (k := 6) (x := []) (vs := [(.pointer (some ⟨v34, 0, none⟩))]) (kids := [t34]) (zD.cons T34.out (zD.nil _ _)) G35.out.2.size hm;have G37 : Hid (Go1 c w w36 j34) := ⟨G35.out.1.below hB, G35.out.2.below hB⟩;have T36 := za hT;clear hT hB hm;go_wp2_with fail;cases hq : isF c.E [59] (c.R j34)
               ·refine (qZ c j34 _ _ G37.out.1 hq).mono ?_; rintro e w39 ⟨rfl, hB⟩;have HO := za (G37.out.2.below hB);have Q39 := za hq;clear hB hq;unfold zu;go_wp2_with fail;exact zf rfl (zo (show D c.E .statement (c.R k) (.error (c.T j34).pos) from D.mk1 D34.out fun m h0 => by simp only [zg, zc, if_false, bnd, need, bad, zI, Q1_d_0.out, Q1_d_1.out, Q1_d_2.out, Q1_d_3.out, Q1_d_4.out, Q1_d_5.out, Q1_d_6.out, Q1_d_7.out, Q1_d_8.out, Q1_d_9.out, Q1_d_10.out, Q1_d_11.out, Q1_d_12.out, Q39.out, h0]) rfl HO.out)
               ·refine (xF c j34 _ _ G37.out.1 hq).mono ?_; rintro e w39 ⟨rfl, hG⟩;have G40 : Hid (Go1 c w w39 (j34 + 1)) := ⟨hG.1, G37.out.2.trans hG.2⟩;have T42 := za (T36.out.off hG.2 hbl);have Q39 := za hq;clear hG hq;go_wp2_with fail;go_ret;exact zx (show D c.E .statement (c.R k) (.ok ((nd 6 [] [t34]), c.R (j34 + 1))) from D.mk1 D34.out fun m h0 => by simp only [zg, zc, if_false, bnd, need, if_true, zq, ret, Q1_d_0.out, Q1_d_1.out, Q1_d_2.out, Q1_d_3.out, Q1_d_4.out, Q1_d_5.out, Q1_d_6.out, Q1_d_7.out, Q1_d_8.out, Q1_d_9.out, Q1_d_10.out, Q1_d_11.out, Q1_d_12.out, Q39.out, h0]) (by omega) rfl G40.out.1 G40.out.2 T42.out
section
def Opn (lo : Nat) (w : World) (a : Nat) (k : Int) (x : List UInt8) (v : Value) (vs : List Value) (kids : List Tr) : Prop :=
 lo ≤ a ∧ w.heap[a]? = some (.cells #[.int .i64 k, .string (bs x), .int .u64 0, v] 100 (0, 0)) ∧ w.ownsRow lo 63 1 v vs.length vs ∧ v.ownBlock ≠ some a ∧
 ∃ S : Nat → Prop, zD w S vs kids ∧ (∀ i, S i → F lo w.heap.size i) ∧ (∀ g, v.ownBlock = some g → ¬ S g) ∧ ¬ S a
section
variable {lo a : Nat} {w w' : World} {k : Int} {x : List UInt8} {v : Value} {vs : List Value} {kids : List Tr}
theorem Opn.lt (h : Opn lo w a k x v vs kids) : a < w.heap.size := xT h.2.1
theorem Opn.c3 (h : Opn lo w a k x v vs kids) : w.cell? ⟨a, 3, none⟩ = some v := by have := h.2.1; simp [World.cell?, this]
theorem Opn.slice (h : Opn lo w a k x v vs kids) : ∃ ao cp, v = .slice ao vs.length cp := yb h.2.2.1
theorem Opn.off {b : Nat} (h : Opn lo w a k x v vs kids) (ho : Off b w w') (hb : b < lo) : Opn lo w' a k x v vs kids := by
 have hl := h.lt;obtain ⟨h1, h2, h3, h4, S, h5, h6, h7, h8⟩ := h;exact ⟨h1, (ho.block a hl (by omega)).trans h2, zbi h3 ho hb, h4, S, h5.keep (fun _ h => h) fun i hi => ho.block i (h6 i hi).2 (by have := (h6 i hi).1; omega), fun i hi => F.mono (zd _) ho.size i (h6 i hi), h7, h8⟩
theorem zdC (h : w.ownsRow lo 63 1 v vs.length vs) (hb : Below w.heap.size w w') : w'.ownsRow lo 63 1 v vs.length vs := by
 refine h.kept (row := none) ⟨hb.os, hb.tape, hb.output, hb.size, fun k hk _ => hb.block k hk⟩ ?_;cases hv : v.ownBlock with
 | none => exact .inl rfl
 | some g => exact .inr (by simp)
theorem Opn.stay (h : Opn lo w a k x v vs kids) (hb : Below w.heap.size w w') : Opn lo w' a k x v vs kids := by
 have hl := h.lt;obtain ⟨h1, h2, h3, h4, S, h5, h6, h7, h8⟩ := h;exact ⟨h1, (hb.block a hl).trans h2, zdC h3 hb, h4, S, h5.keep (fun _ h => h) fun i hi => hb.block i (h6 i hi).2, fun i hi => F.mono (zd _) hb.size i (h6 i hi), h7, h8⟩
theorem Opn.isT (h : Opn lo w a k x v vs kids) : IsT w (F lo w.heap.size) (.pointer (some ⟨a, 0, none⟩)) (nd k x kids) := by
 have hl := h.lt;obtain ⟨h1, h2, h3, h4, S, h5, h6, h7, h8⟩ := h;refine vV ⟨h1, hl⟩ h2 (vs := vs) ?_ (h5.keep h6 fun _ _ => rfl);by_cases h0 : vs.length = 0
 ·obtain ⟨ao, cp, rfl⟩ := yb h3;have : vs = [] := List.eq_nil_of_length_eq_zero h0;subst this;exact .inl ⟨rfl, ao, cp, rfl⟩
 ·obtain ⟨g, cp, rfl, hg1, hg2⟩ := h3.form (by omega);refine .inr ⟨g, cp, ⟨hg1, hg2⟩, rfl, fun i hi => (h3.cellAt i (by omega)).trans ?_⟩;rw [List.getElem?_eq_getElem hi]
end
theorem zbg {wN w5 : World} {lo : Nat} {k : Int} {x : List UInt8} {e : Ending} (hlo : lo ≤ wN.heap.size) (hm : zao wN k (bs x) (.slice none 0 0) e w5) :
  ∃ a, e = .returned (.pointer (some ⟨a, 0, none⟩)) ∧ Opn lo w5 a k x (.slice none 0 0) [] [] ∧ Below wN.heap.size wN w5 := by
 obtain ⟨a, rfl, ha, hh, hB⟩ := hm;exact ⟨a, rfl, ⟨by omega, hh, World.ownsRow_nil _ _ _ _, (fun h => by cases h), fun _ => False, zD.nil _ _, fun _ h => h.elim, fun _ _ h => h, fun h => h⟩, hB⟩
theorem zdD {wN w5 : World} {lo : Nat} {vs : List Value} {kids : List Tr} {k : Int} {x : List UInt8} {e : Ending} (hn : 0 < vs.length) (hn2 : vs.length ≤ 8) (hk : zD wN (F lo wN.heap.size) vs kids) (hlo : lo ≤ wN.heap.size)
  (hm : zao (wN.alloc (.cells vs.toArray 63)) k (bs x) (.slice (some ⟨wN.heap.size, 0, none⟩) vs.length vs.length) e w5) :
  ∃ a, e = .returned (.pointer (some ⟨a, 0, none⟩)) ∧ Opn lo w5 a k x (.slice (some ⟨wN.heap.size, 0, none⟩) vs.length vs.length) vs kids ∧ Below wN.heap.size wN w5 := by
 obtain ⟨a, rfl, ha, hh, hB⟩ := hm;have h1 : Below wN.heap.size wN (wN.alloc (.cells vs.toArray 63)) := (ze _ _).alloc (zd _) _;have h2 := zY h1 hB h1.size;have hz : (wN.alloc (.cells vs.toArray 63)).heap.size = wN.heap.size + 1 := by simp
 have hrow : w5.heap[wN.heap.size]? = some (.cells vs.toArray 63 (0, 0)) := (hB.block _ (by omega)).trans (heap_alloc_new wN _);refine ⟨a, rfl, ⟨by omega, hh, ⟨by rw [Nat.mul_one], .inr ⟨wN.heap.size, vs.length, vs.toArray, rfl, hlo, hrow, zd _, by unfold maxLen; omega, by simp, by simp⟩⟩, fun h => ?_, F lo wN.heap.size, hk.keep (fun _ h => h) fun i hi => h2.block i hi.2, F.mono (zd _) h2.size, fun g hg hs => ?_, fun hs => ?_⟩, h2⟩
 ·have e : wN.heap.size = a := by simpa [Value.ownBlock] using h
  omega
 ·have e : wN.heap.size = g := by simpa [Value.ownBlock] using hg
  have := hs.2; omega
 ·have := hs.2; omega
theorem zld {wN w5 : World} {lo : Nat} {v : Value} {S : Nat → Prop} {vs : List Value} {kids : List Tr} {k : Int} {x : List UInt8} {e : Ending} (hk : zD wN S vs kids) (hS : ∀ i, S i → F lo wN.heap.size i) (hN : ∀ g, v.ownBlock = some g → ¬ S g) (hlo : lo ≤ wN.heap.size)
  (ho : wN.ownsRow lo 63 1 v vs.length vs) (hm : zao wN k (bs x) v e w5) :
  ∃ a, e = .returned (.pointer (some ⟨a, 0, none⟩)) ∧ Opn lo w5 a k x v vs kids ∧ Below wN.heap.size wN w5 := by
 obtain ⟨a, rfl, ha, hh, hB⟩ := hm;exact ⟨a, rfl, ⟨by omega, hh, zdC ho hB, fun h => by have := (ho.lt a h).2; omega, S, hk.keep (fun _ h => h) fun i hi => hB.block i (hS i hi).2, fun i hi => F.mono (zd _) hB.size i (hS i hi), hN, fun hs => by have := (hS a hs).2; omega⟩, hB⟩
theorem Opn.grown {lo a : Nat} {w w3 : World} {k : Int} {x : List UInt8} {v xv : Value} {vs : List Value} {kids : List Tr} {T : TypeId} (h : Opn lo w a k x v vs kids) (hgrow : (w.alloc (.cells #[xv] T)).grownBy w3 v.ownBlock) :
  w3.cell? ⟨a, 3, none⟩ = some v ∧ w3.frozen? ⟨a, 3, none⟩ = false := by
 have hl := h.lt;have hz : (w.alloc (.cells #[xv] T)).heap.size = w.heap.size + 1 := by simp
 have ha3 : w3.heap[a]? = some (.cells #[.int .i64 k, .string (bs x), .int .u64 0, v] 100 (0, 0)) := ((hgrow.block a (by omega) (fun e => h.2.2.2.1 e.symm)).trans (Below.heap_alloc w _ a hl)).trans h.2.1;exact ⟨by simp [World.cell?, ha3], by simp [World.frozen?, ha3]⟩
theorem Opn.push {lo lo2 a : Nat} {w w3 : World} {k : Int} {x : List UInt8} {v xv : Value} {vs : List Value} {kids : List Tr} {t : Tr} {g cap : Nat} {T : TypeId} (h : Opn lo w a k x v vs kids) (hx : IsT w (F lo2 w.heap.size) xv t) (hlo : lo ≤ lo2) (hal : a < lo2)
  (hold : ∀ i, v.ownBlock = some i → i < lo2) (hown : w3.ownsRow lo 63 1 (.slice (some ⟨g, 0, none⟩) (vs.length + 1) cap) (vs.length + 1) (vs ++ [xv]))
  (hgrow : (w.alloc (.cells #[xv] T)).grownBy w3 v.ownBlock) (hat : v.ownBlock = some g ∨ g = w.heap.size + 1) :
  Opn lo (w3.setCell ⟨a, 3, none⟩ (.slice (some ⟨g, 0, none⟩) (vs.length + 1) cap)) a k x (.slice (some ⟨g, 0, none⟩) (vs.length + 1) cap) (vs ++ [xv]) (kids ++ [t]) := by
 have hl := h.lt;obtain ⟨h1, h2, h3, h4, S, h5, h6, h7, h8⟩ := h;have hA : Acc lo w v vs kids := ⟨h3, S, h5, h6, h7⟩;have hz : (w.alloc (.cells #[xv] T)).heap.size = w.heap.size + 1 := by simp
 have hz3 := hgrow.size;have hga : g ≠ a := by
  intro e; subst e;rcases hat with hat | hat
  ·exact h4 hat
  ·omega
 have hS : ∀ i, S i ∨ F lo2 w.heap.size i → w3.heap[i]? = w.heap[i]? := by
  intro i hi;have hlt : i < w.heap.size := by rcases hi with hi | hi; exact (h6 i hi).2; exact hi.2
  refine (hgrow.block i (by omega) ?_).trans (Below.heap_alloc w _ i hlt);intro e;rcases hi with hi | hi
  ·exact h7 i e.symm hi
  ·have := hold i e.symm; have := hi.1; omega
 have ha3 : w3.heap[a]? = w.heap[a]? := (hgrow.block a (by omega) (fun e => h4 e.symm)).trans (Below.heap_alloc w _ a hl);have hset : ∀ i, i ≠ a → (w3.setCell ⟨a, 3, none⟩ (.slice (some ⟨g, 0, none⟩) (vs.length + 1) cap)).heap[i]? = w3.heap[i]? := fun i hi => Below.heap_setCell w3 _ _ i hi
 have hzs : (w3.setCell ⟨a, 3, none⟩ (.slice (some ⟨g, 0, none⟩) (vs.length + 1) cap)).heap.size = w3.heap.size := by simp [World.setCell]
 have hNa : ¬ (S a ∨ F lo2 w.heap.size a) := by rintro (h | h); exact h8 h; have := h.1; omega
 have hSa : ∀ i, S i ∨ F lo2 w.heap.size i → i ≠ a := fun i hi e => hNa (e ▸ hi)
 refine ⟨h1, ?_, ?_, fun e => hga (by simpa [Value.ownBlock] using e), fun i => S i ∨ F lo2 w.heap.size i, ?_, ?_, ?_, hNa⟩
 ·simp [World.setCell, Array.getElem?_modify, ha3, h2]
 ·rw [List.length_append];exact ownsRow_setCell_other hown (fun e => hga (by simpa [Value.ownBlock] using e)) _
 ·exact zD.append (h5.keep (fun _ h => .inl h) fun i hi => (hset i (hSa i (.inl hi))).trans (hS i (.inl hi))) (zD.cons (hx.keep (fun _ h => .inr h) fun i hi => (hset i (hSa i (.inr hi))).trans (hS i (.inr hi))) (zD.nil _ _))
 ·intro i hi;rw [hzs];rcases hi with hi | hi
  ·exact ⟨(h6 i hi).1, by have := (h6 i hi).2; omega⟩
  ·exact ⟨Nat.le_trans hlo hi.1, by have := hi.2; omega⟩
 ·intro i hi hs;have e : g = i := by simpa [Value.ownBlock] using hi
  subst e;rcases hat with hat | hat
  ·rcases hs with hs | hs
   ·exact h7 g hat hs
   ·have := hold g hat; have := hs.1; omega
  ·rcases hs with hs | hs
   ·have := (h6 g hs).2; omega
   ·have := hs.2; omega
end
theorem znQ (k : Int) (hk : ¬ k ∈ ([31, 4, 16, 18, 19, 27, 32, 22, 30, 36, 37, 38, 39, 41] : List Int)) (n z : Int) (x : List UInt8) (b : Int) (w : World) :
  Calls Tryz.prog 62 #[.agg #[.int .i64 k, .int .i64 n, .int .i64 z, .string (bs x), .int .u64 b]] w fun e w' => e = .returned (.bool (yB k x)) ∧ Below w.heap.size w w' := by
 have hal : Below w.heap.size w (w.alloc (.cells #[.int .i64 k, .int .i64 n, .int .i64 z, .string (bs x), .int .u64 b] 40)) := (ze _ _).alloc (zd _) _;have HAL := za hal;have e : yB k x = x.isEmpty := by
  simp only [List.mem_cons, List.not_mem_nil, or_false, not_or] at hk;unfold yB
  repeat rw [if_neg (by omega)]
 have hs : ((bs x).toList == ([] : List UInt8)) = x.isEmpty := by cases x with
  | nil => exact zQ rfl
  | cons a l => exact zh (by rw [zj]; simp)
 rw [e];have e31 : (k == 31) = false := beq_eq_false_iff_ne.2 fun e => hk (by subst e; decide)
 have e4 : (k == 4) = false := beq_eq_false_iff_ne.2 fun e => hk (by subst e; decide)
 have e16 : (k == 16) = false := beq_eq_false_iff_ne.2 fun e => hk (by subst e; decide)
 have e18 : (k == 18) = false := beq_eq_false_iff_ne.2 fun e => hk (by subst e; decide)
 have e19 : (k == 19) = false := beq_eq_false_iff_ne.2 fun e => hk (by subst e; decide)
 have e27 : (k == 27) = false := beq_eq_false_iff_ne.2 fun e => hk (by subst e; decide)
 have e32 : (k == 32) = false := beq_eq_false_iff_ne.2 fun e => hk (by subst e; decide)
 have e22 : (k == 22) = false := beq_eq_false_iff_ne.2 fun e => hk (by subst e; decide)
 have e30 : (k == 30) = false := beq_eq_false_iff_ne.2 fun e => hk (by subst e; decide)
 have e36 : (k == 36) = false := beq_eq_false_iff_ne.2 fun e => hk (by subst e; decide)
 have e37 : (k == 37) = false := beq_eq_false_iff_ne.2 fun e => hk (by subst e; decide)
 have e38 : (k == 38) = false := beq_eq_false_iff_ne.2 fun e => hk (by subst e; decide)
 have e39 : (k == 39) = false := beq_eq_false_iff_ne.2 fun e => hk (by subst e; decide)
 have e41 : (k == 41) = false := beq_eq_false_iff_ne.2 fun e => hk (by subst e; decide)
 clear hk e hal;generalize x.isEmpty = q at *
 go_enter Tryz.func62, Tryz.ntmps62
 go_wp2_with fail;go_ret;exact ⟨rfl, HAL.out⟩
theorem zfX (k n z : Int) (x : List UInt8) (b : Int) (hx : x.length ≤ 1000000) (w : World) :
  Calls Tryz.prog 62 #[.agg #[.int .i64 k, .int .i64 n, .int .i64 z, .string (bs x), .int .u64 b]] w fun e w' => e = .returned (.bool (yB k x)) ∧ Below w.heap.size w w' := by
 by_cases hk : k ∈ ([31, 4, 16, 18, 19, 27, 32, 22, 30, 36, 37, 38, 39, 41] : List Int)
 ·simp only [List.mem_cons, List.not_mem_nil, or_false] at hk;rcases hk with rfl | rfl | rfl | rfl | rfl | rfl | rfl | rfl | rfl | rfl | rfl | rfl | rfl | rfl
  ·exact zoS n z x b hx w
  ·exact zqv n z x b hx w
  ·exact zoO n z x b hx w
  ·exact zoP n z x b hx w
  ·exact zoQ n z x b hx w
  ·exact zoR n z x b hx w
  ·exact zoT n z x b hx w
  ·exact zoU n z x b hx w
  ·exact zoV n z x b hx w
  ·exact zoN n z x b hx w
  ·exact zpH n z x b hx w
  ·exact zo7 n z x b hx w
  ·exact zo0 n z x b hx w
  ·exact zp7 n z x b hx w
 ·exact znQ k hk n z x b w
end Go.Proofs.YtfcgpphodacdmaaGreatDoor
