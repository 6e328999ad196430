/- Part of a proof: contracts of functions. -/
import Derived.Test.YtfcgpphodacdmaaGreatDoorY16
import Derived.Test.YtfcgpphodacdmaaGreatDoorY15
set_option maxRecDepth 100000
set_option maxHeartbeats 4000000
set_option linter.all false
namespace Go.Proofs.YtfcgpphodacdmaaGreatDoor
open Go.RowKit
theorem zhT (c : Cx) (k : Nat) (ihu : ∀ j, k < j → OkL c (.untl [125] .statement) 134 #[c.p, .string ⟨#[125]⟩, .func (.func 95) #[c.p] #[]] j) : Ok c .block 138 #[c.p] k := by
 intro w h;have hbl := h.lt;have hfew := h.ok.few;have G0 : Hid (Go1 c w w k) := ⟨h, Off.refl _ _⟩;have IHU := za ihu;clear h ihu
 go_enter Tryz.func138, Tryz.ntmps138
 go_wp2_with fail;cases hq : isF c.E [123] (c.R k)
 ·refine (ym c k ⟨#[123]⟩ _ G0.out.1 hq).mono ?_; rintro e w1 ⟨rfl, hB⟩;have HO := za (G0.out.2.below hB);have Q1 := za hq;clear hB hq;unfold zu;go_wp2_with fail;exact zf rfl (zo (show D c.E .block (c.R k) (.error (c.T k).pos) from D.mk0 fun m => by simp only [zg, need, zc, if_false, bad, zI, Q1.out]) rfl HO.out)
 ·refine (ye c k ⟨#[123]⟩ (by decide) _ G0.out.1 hq).mono ?_; rintro e w1 ⟨rfl, hG⟩;have G2 : Hid (Go1 c w w1 (k + 1)) := ⟨hG.1, G0.out.2.trans hG.2⟩;have Q1 := za hq;clear hG hq;go_wp2_with fail;refine (IHU.out (k + 1) (by omega) _ G2.out.1).mono ?_; rintro e w3 ⟨r, hD, hr⟩;rcases r with p | ⟨t3, R1⟩
  ·obtain ⟨rfl, hO⟩ := hr;have HO := za (G2.out.2.trans hO);have D3 := za hD;clear hD hO;unfold zu;go_wp2_with fail;exact zf rfl (zo (show D c.E .block (c.R k) (.error p) from D.mk1 D3.out fun m h0 => by simp only [zg, need, if_true, zq, bnd, Q1.out, h0]) rfl HO.out)
  ·obtain ⟨j3, v3, vs3, S3, rfl, hj3, rfl, hG, hW, hK, hS, hN⟩ := hr;have G4 : Hid (Go1 c w w3 j3) := ⟨hG.1, G2.out.2.trans hG.2⟩;have HW3 := za (qP hW G2.out.2.size);have HK3 := za hK;have HS3 : Hid (∀ i, S3 i → F w.heap.size w3.heap.size i) := fun i hi => F.mono G2.out.2.size (zd _) i (hS i hi)
   obtain ⟨ao3, cp3, rfl⟩ := yb hW;have D3 := za hD;clear hD hG hW hK hS hN;go_wp2_with fail;refine (zy _ _ _ _ _ _).mono ?_; rintro e w5 hm;obtain ⟨a5, rfl, hT, hB⟩ := vw (k := 2) (x := []) HK3.out HS3.out G4.out.2.size HW3.out hm;have G6 : Hid (Go1 c w w5 j3) := ⟨G4.out.1.below hB, G4.out.2.below hB⟩;have T5 := za hT;clear hT hB hm;go_wp2_with fail;go_ret;exact zx (show D c.E .block (c.R k) (.ok ((nd 2 [] t3.kids), c.R j3)) from D.mk1 D3.out fun m h0 => by simp only [zg, need, if_true, zq, bnd, ret, Q1.out, h0]) (by omega) rfl G6.out.1 G6.out.2 T5.out
theorem zjw (c : Cx) (k : Nat) (ihr : ∀ j, k < j → OkL c (.row .decl) 172 #[c.p, .func (.func 173) #[c.p] #[]] j) : Ok c .vars 140 #[c.p] k := by
 intro w h;have hbl := h.lt;have hfew := h.ok.few;have G0 : Hid (Go1 c w w k) := ⟨h, Off.refl _ _⟩;have IHR := za ihr;clear h ihr
 go_enter Tryz.func140, Tryz.ntmps140
 go_wp2_with fail;cases hq : isF c.E [118, 97, 114] (c.R k)
 ·refine (ym c k ⟨#[118, 97, 114]⟩ _ G0.out.1 hq).mono ?_; rintro e w1 ⟨rfl, hB⟩;have HO := za (G0.out.2.below hB);have Q1 := za hq;clear hB hq;unfold zu;go_wp2_with fail;exact zf rfl (zo (show D c.E .vars (c.R k) (.error (c.T k).pos) from D.mk0 fun m => by simp only [zg, need, zc, if_false, bad, zI, Q1.out]) rfl HO.out)
 ·refine (ye c k ⟨#[118, 97, 114]⟩ (by decide) _ G0.out.1 hq).mono ?_; rintro e w1 ⟨rfl, hG⟩;have G2 : Hid (Go1 c w w1 (k + 1)) := ⟨hG.1, G0.out.2.trans hG.2⟩;have Q1 := za hq;clear hG hq;go_wp2_with fail;refine (IHR.out (k + 1) (by omega) _ G2.out.1).mono ?_; rintro e w3 ⟨r, hD, hr⟩;rcases r with p | ⟨t3, R1⟩
  ·obtain ⟨rfl, hO⟩ := hr;have HO := za (G2.out.2.trans hO);have D3 := za hD;clear hD hO;unfold zu;go_wp2_with fail;exact zf rfl (zo (show D c.E .vars (c.R k) (.error p) from D.mk1 D3.out fun m h0 => by simp only [zg, need, if_true, zq, bnd, Q1.out, h0]) rfl HO.out)
  ·obtain ⟨j3, v3, vs3, S3, rfl, hj3, rfl, hG, hW, hK, hS, hN⟩ := hr;have G4 : Hid (Go1 c w w3 j3) := ⟨hG.1, G2.out.2.trans hG.2⟩;have HW3 := za (qP hW G2.out.2.size);have HK3 := za hK;have HS3 : Hid (∀ i, S3 i → F w.heap.size w3.heap.size i) := fun i hi => F.mono G2.out.2.size (zd _) i (hS i hi)
   obtain ⟨ao3, cp3, rfl⟩ := yb hW;have D3 := za hD;clear hD hG hW hK hS hN;go_wp2_with fail;refine (zy _ _ _ _ _ _).mono ?_; rintro e w5 hm;obtain ⟨a5, rfl, hT, hB⟩ := vw (k := 3) (x := []) HK3.out HS3.out G4.out.2.size HW3.out hm;have G6 : Hid (Go1 c w w5 j3) := ⟨G4.out.1.below hB, G4.out.2.below hB⟩;have T5 := za hT;clear hT hB hm;go_wp2_with fail;go_ret;exact zx (show D c.E .vars (c.R k) (.ok ((nd 3 [] t3.kids), c.R j3)) from D.mk1 D3.out fun m h0 => by simp only [zg, need, if_true, zq, bnd, ret, Q1.out, h0]) (by omega) rfl G6.out.1 G6.out.2 T5.out
theorem zhU (c : Cx) (k : Nat)  : Ok c .param 133 #[c.p] k := by
 intro w h;have hbl := h.lt;have hfew := h.ok.few;have G0 : Hid (Go1 c w w k) := ⟨h, Off.refl _ _⟩;clear h
 go_enter Tryz.func133, Tryz.ntmps133
 go_wp2_with fail;by_cases hq : (c.T k).kind = 1
 ·refine (uv c k _ G0.out.1 hq).mono ?_; rintro e w1 ⟨rfl, hG⟩;have G2 : Hid (Go1 c w w1 (k + 1)) := ⟨hG.1, G0.out.2.trans hG.2⟩;have Q1 := za hq;clear hG hq;go_wp2_with fail;refine (zy _ _ _ _ _ _).mono ?_; rintro e w3 hm;obtain ⟨a3, rfl, hT, hB⟩ := vF (k := 19) (x := (c.T k).text) G2.out.2.size hm;have G4 : Hid (Go1 c w w3 (k + 1)) := ⟨G2.out.1.below hB, G2.out.2.below hB⟩;have T3 := za hT;clear hT hB hm;go_wp2_with fail;go_ret;exact zx (show D c.E .param (c.R k) (.ok ((nd 19 (c.T k).text []), c.R (k + 1))) from D.mk0 fun m => by simp only [zg, nameK, if_true, zq, zI, ret, Q1.out]) (by omega) rfl G4.out.1 G4.out.2 T3.out
 ·refine (uY c k _ G0.out.1 hq).mono ?_; rintro e w1 ⟨rfl, hB⟩;have HO := za (G0.out.2.below hB);have Q1 := za hq;clear hB hq;unfold zu;go_wp2_with fail;exact zf rfl (zo (show D c.E .param (c.R k) (.error (c.T k).pos) from D.mk0 fun m => by simp only [zg, nameK, if_false, bad, zI, Q1.out]) rfl HO.out)
theorem ze1 (c : Cx) (k : Nat) (ihk : ∀ j, k < j → Ok c .block 138 #[c.p] j) : Ok c .catchIt 177 #[c.p] k := by
 intro w h;have hbl := h.lt;have hfew := h.ok.few;have G0 : Hid (Go1 c w w k) := ⟨h, Off.refl _ _⟩;have IHK := za ihk;clear h ihk
 go_enter Tryz.func177, Tryz.ntmps177
 go_wp2_with fail;cases hq : isF c.E [99, 97, 116, 99, 104] (c.R k)
 ·refine (ym c k ⟨#[99, 97, 116, 99, 104]⟩ _ G0.out.1 hq).mono ?_; rintro e w1 ⟨rfl, hB⟩;have HO := za (G0.out.2.below hB);have Q1 := za hq;clear hB hq;unfold zu;go_wp2_with fail;exact zf rfl (zo (show D c.E .catchIt (c.R k) (.error (c.T k).pos) from D.mk0 fun m => by simp only [zg, need, zc, if_false, bad, zI, Q1.out]) rfl HO.out)
 ·refine (ye c k ⟨#[99, 97, 116, 99, 104]⟩ (by decide) _ G0.out.1 hq).mono ?_; rintro e w1 ⟨rfl, hG⟩;have G2 : Hid (Go1 c w w1 (k + 1)) := ⟨hG.1, G0.out.2.trans hG.2⟩;have Q1 := za hq;clear hG hq;go_wp2_with fail;cases hq : isF c.E [40] (c.R (k + 1))
  ·refine (ym c (k + 1) ⟨#[40]⟩ _ G2.out.1 hq).mono ?_; rintro e w3 ⟨rfl, hB⟩;have HO := za (G2.out.2.below hB);have Q3 := za hq;clear hB hq;unfold zu;go_wp2_with fail;exact zf rfl (zo (show D c.E .catchIt (c.R k) (.error (c.T (k + 1)).pos) from D.mk0 fun m => by simp only [zg, need, if_true, zq, zc, if_false, bad, zI, Q1.out, Q3.out]) rfl HO.out)
  ·refine (ye c (k + 1) ⟨#[40]⟩ (by decide) _ G2.out.1 hq).mono ?_; rintro e w3 ⟨rfl, hG⟩;have G4 : Hid (Go1 c w w3 ((k + 1) + 1)) := ⟨hG.1, G2.out.2.trans hG.2⟩;have Q3 := za hq;clear hG hq;go_wp2_with fail;by_cases hq : (c.T ((k + 1) + 1)).kind = 1
   ·refine (uv c ((k + 1) + 1) _ G4.out.1 hq).mono ?_; rintro e w5 ⟨rfl, hG⟩;have G6 : Hid (Go1 c w w5 (((k + 1) + 1) + 1)) := ⟨hG.1, G4.out.2.trans hG.2⟩;have Q5 := za hq;clear hG hq;go_wp2_with fail;cases hq : isF c.E [41] (c.R (((k + 1) + 1) + 1))
    ·refine (ym c (((k + 1) + 1) + 1) ⟨#[41]⟩ _ G6.out.1 hq).mono ?_; rintro e w7 ⟨rfl, hB⟩;have HO := za (G6.out.2.below hB);have Q7 := za hq;clear hB hq;unfold zu;go_wp2_with fail;exact zf rfl (zo (show D c.E .catchIt (c.R k) (.error (c.T (((k + 1) + 1) + 1)).pos) from D.mk0 fun m => by simp only [zg, need, if_true, zq, nameK, zI, zc, if_false, bad, Q1.out, Q3.out, Q5.out, Q7.out]) rfl HO.out)
    ·refine (ye c (((k + 1) + 1) + 1) ⟨#[41]⟩ (by decide) _ G6.out.1 hq).mono ?_; rintro e w7 ⟨rfl, hG⟩;have G8 : Hid (Go1 c w w7 ((((k + 1) + 1) + 1) + 1)) := ⟨hG.1, G6.out.2.trans hG.2⟩;have Q7 := za hq;clear hG hq;go_wp2_with fail;refine (IHK.out ((((k + 1) + 1) + 1) + 1) (by omega) _ G8.out.1).mono ?_; rintro e w9 ⟨r, hD, hr⟩;rcases r with p | ⟨t9, R1⟩
     ·obtain ⟨rfl, hO⟩ := hr;have HO := za (G8.out.2.trans hO);have D9 := za hD;clear hD hO;unfold zu;go_wp2_with fail;exact zf rfl (zo (show D c.E .catchIt (c.R k) (.error p) from D.mk1 D9.out fun m h0 => by simp only [zg, need, if_true, zq, nameK, zI, bnd, Q1.out, Q3.out, Q5.out, Q7.out, h0]) rfl HO.out)
     ·obtain ⟨j9, vv, rfl, hj9, rfl, hG, hT⟩ := hr;obtain ⟨v9, rfl⟩ := hT.ptr;have G10 : Hid (Go1 c w w9 j9) := ⟨hG.1, G8.out.2.trans hG.2⟩;have T9 := za (hT.lower G8.out.2.size);have D9 := za hD;clear hD hG hT;go_wp2_with fail;refine (zy _ _ _ _ _ _).mono ?_; rintro e w11 hm;obtain ⟨a11, rfl, hT, hB⟩ := zW (k := 16) (x := (c.T ((k + 1) + 1)).text) (vs := [(.pointer (some ⟨v9, 0, none⟩))]) (kids := [t9]) (zD.cons T9.out (zD.nil _ _)) G10.out.2.size hm;have G12 : Hid (Go1 c w w11 j9) := ⟨G10.out.1.below hB, G10.out.2.below hB⟩;have T11 := za hT;clear hT hB hm;go_wp2_with fail;go_ret;exact zx (show D c.E .catchIt (c.R k) (.ok ((nd 16 (c.T ((k + 1) + 1)).text [t9]), c.R j9)) from D.mk1 D9.out fun m h0 => by simp only [zg, need, if_true, zq, nameK, zI, bnd, ret, Q1.out, Q3.out, Q5.out, Q7.out, h0]) (by omega) rfl G12.out.1 G12.out.2 T11.out
   ·refine (uY c ((k + 1) + 1) _ G4.out.1 hq).mono ?_; rintro e w5 ⟨rfl, hB⟩;have HO := za (G4.out.2.below hB);have Q5 := za hq;clear hB hq;unfold zu;go_wp2_with fail;exact zf rfl (zo (show D c.E .catchIt (c.R k) (.error (c.T ((k + 1) + 1)).pos) from D.mk0 fun m => by simp only [zg, need, if_true, zq, nameK, if_false, bad, zI, Q1.out, Q3.out, Q5.out]) rfl HO.out)
theorem zdO (c : Cx) (k : Nat) (ihv : Ok c .vars 140 #[c.p] k) (ihe : Ok c .expr 149 #[c.p] k) : Ok c .forStart 175 #[c.p] k := by
 intro w h;have hbl := h.lt;have hfew := h.ok.few;have G0 : Hid (Go1 c w w k) := ⟨h, Off.refl _ _⟩;have IHV := za ihv;have IHE := za ihe;clear h ihv ihe
 go_enter Tryz.func175, Tryz.ntmps175
 go_wp2_with fail;refine (qJ c k _ G0.out.1).mono ?_; rintro e w1 ⟨rfl, hB⟩;have G2 : Hid (Go1 c w w1 k) := ⟨G0.out.1.below hB, G0.out.2.below hB⟩;clear hB;by_cases x1_0 : fx (c.T k) = [118, 97, 114]
 ·have n1_0 : ((bs (fx (c.T k))).toList == [118, 97, 114]) = true := zQ (by rw [zj, x1_0]);have Q1_0_0 : Hid (isF c.E [118, 97, 114] (c.R k) = true) := by show _ = _; rw [zr, x1_0]; rfl
  have hlt : k < c.ts.length := yo G2.out.1.le (by rw [x1_0]; decide);clear x1_0;go_wp2_with fail;refine (IHV.out _ G2.out.1).mono ?_; rintro e w3 ⟨r, hD, hr⟩;rcases r with p | ⟨t3, R1⟩
  ·obtain ⟨rfl, hO⟩ := hr;have HO := za (G2.out.2.trans hO);have D3 := za hD;clear hD hO;unfold zu;go_wp2_with fail;exact zf rfl (zo (show D c.E .forStart (c.R k) (.error p) from D.mk1 D3.out fun m h0 => by simp only [zg, if_true, bnd, Q1_0_0.out, h0]) rfl HO.out)
  ·obtain ⟨j3, vv, rfl, hj3, rfl, hG, hT⟩ := hr;obtain ⟨v3, rfl⟩ := hT.ptr;have G4 : Hid (Go1 c w w3 j3) := ⟨hG.1, G2.out.2.trans hG.2⟩;have T3 := za (hT.lower G2.out.2.size);have D3 := za hD;clear hD hG hT;go_wp2_with fail;cases hq : isF c.E [59] (c.R j3)
   ·refine (qZ c j3 _ _ G4.out.1 hq).mono ?_; rintro e w5 ⟨rfl, hB⟩;have HO := za (G4.out.2.below hB);have Q5 := za hq;clear hB hq;unfold zu;go_wp2_with fail;exact zf rfl (zo (show D c.E .forStart (c.R k) (.error (c.T j3).pos) from D.mk1 D3.out fun m h0 => by simp only [zg, if_true, bnd, need, zc, if_false, bad, zI, Q1_0_0.out, Q5.out, h0]) rfl HO.out)
   ·refine (xF c j3 _ _ G4.out.1 hq).mono ?_; rintro e w5 ⟨rfl, hG⟩;have G6 : Hid (Go1 c w w5 (j3 + 1)) := ⟨hG.1, G4.out.2.trans hG.2⟩;have T7 := za (T3.out.off hG.2 hbl);have Q5 := za hq;clear hG hq;go_wp2_with fail;go_ret;exact zx (show D c.E .forStart (c.R k) (.ok (t3, c.R (j3 + 1))) from D.mk1 D3.out fun m h0 => by simp only [zg, if_true, bnd, need, zq, ret, Q1_0_0.out, Q5.out, h0]) (by omega) rfl G6.out.1 G6.out.2 T7.out
 ·skip
  by_cases x1_1 : fx (c.T k) = [59]
  ·have n1_0 : ((bs (fx (c.T k))).toList == [118, 97, 114]) = false := zh (by rw [zj, x1_1]; decide);have Q1_1_0 : Hid (isF c.E [118, 97, 114] (c.R k) = false) := by show _ = _; rw [zr, x1_1]; rfl
   have n1_1 : ((bs (fx (c.T k))).toList == [59]) = true := zQ (by rw [zj, x1_1]);have Q1_1_1 : Hid (isF c.E [59] (c.R k) = true) := by show _ = _; rw [zr, x1_1]; rfl
   have hlt : k < c.ts.length := yo G2.out.1.le (by rw [x1_1]; decide);clear x1_0 x1_1;go_wp2_with fail;refine (zy _ _ _ _ _ _).mono ?_; rintro e w8 hm;obtain ⟨a8, rfl, hT, hB⟩ := vF (k := 5) (x := []) G2.out.2.size hm;have G9 : Hid (Go1 c w w8 k) := ⟨G2.out.1.below hB, G2.out.2.below hB⟩;have T8 := za hT;clear hT hB hm;go_wp2_with fail;refine (xF c k _ _ G9.out.1 Q1_1_1.out).mono ?_; rintro e w10 ⟨rfl, hG⟩;have G11 : Hid (Go1 c w w10 (k + 1)) := ⟨hG.1, G9.out.2.trans hG.2⟩;have T12 := za (T8.out.off hG.2 hbl);clear hG;go_wp2_with fail;go_ret;exact zx (show D c.E .forStart (c.R k) (.ok ((nd 5 [] []), c.R (k + 1))) from D.mk0 fun m => by simp only [zg, zc, if_false, if_true, need, zq, ret, Q1_1_0.out, Q1_1_1.out]) (by omega) rfl G11.out.1 G11.out.2 T12.out
  ·have n1_0 : ((bs (fx (c.T k))).toList == [118, 97, 114]) = false := zh (by rw [zj]; exact x1_0);have Q1_d_0 : Hid (isF c.E [118, 97, 114] (c.R k) = false) := by show _ = _; rw [zr, zb]; exact x1_0
   have n1_1 : ((bs (fx (c.T k))).toList == [59]) = false := zh (by rw [zj]; exact x1_1);have Q1_d_1 : Hid (isF c.E [59] (c.R k) = false) := by show _ = _; rw [zr, zb]; exact x1_1
   clear x1_0 x1_1;go_wp2_with fail;refine (IHE.out _ G2.out.1).mono ?_; rintro e w13 ⟨r, hD, hr⟩;rcases r with p | ⟨t13, R1⟩
   ·obtain ⟨rfl, hO⟩ := hr;have HO := za (G2.out.2.trans hO);have D13 := za hD;clear hD hO;unfold zu;go_wp2_with fail;exact zf rfl (zo (show D c.E .forStart (c.R k) (.error p) from D.mk1 D13.out fun m h0 => by simp only [zg, zc, if_false, bnd, Q1_d_0.out, Q1_d_1.out, h0]) rfl HO.out)
   ·obtain ⟨j13, vv, rfl, hj13, rfl, hG, hT⟩ := hr;obtain ⟨v13, rfl⟩ := hT.ptr;have G14 : Hid (Go1 c w w13 j13) := ⟨hG.1, G2.out.2.trans hG.2⟩;have T13 := za (hT.lower G2.out.2.size);have D13 := za hD;clear hD hG hT;go_wp2_with fail;refine (zy _ _ _ _ _ _).mono ?_; rintro e w15 hm;obtain ⟨a15, rfl, hT, hB⟩ := zW (k := 6) (x := []) (vs := [(.pointer (some ⟨v13, 0, none⟩))]) (kids := [t13]) (zD.cons T13.out (zD.nil _ _)) G14.out.2.size hm;have G16 : Hid (Go1 c w w15 j13) := ⟨G14.out.1.below hB, G14.out.2.below hB⟩;have T15 := za hT;clear hT hB hm;go_wp2_with fail;cases hq : isF c.E [59] (c.R j13)
    ·refine (qZ c j13 _ _ G16.out.1 hq).mono ?_; rintro e w18 ⟨rfl, hB⟩;have HO := za (G16.out.2.below hB);have Q18 := za hq;clear hB hq;unfold zu;go_wp2_with fail;exact zf rfl (zo (show D c.E .forStart (c.R k) (.error (c.T j13).pos) from D.mk1 D13.out fun m h0 => by simp only [zg, zc, if_false, bnd, need, bad, zI, Q1_d_0.out, Q1_d_1.out, Q18.out, h0]) rfl HO.out)
    ·refine (xF c j13 _ _ G16.out.1 hq).mono ?_; rintro e w18 ⟨rfl, hG⟩;have G19 : Hid (Go1 c w w18 (j13 + 1)) := ⟨hG.1, G16.out.2.trans hG.2⟩;have T21 := za (T15.out.off hG.2 hbl);have Q18 := za hq;clear hG hq;go_wp2_with fail;go_ret;exact zx (show D c.E .forStart (c.R k) (.ok ((nd 6 [] [t13]), c.R (j13 + 1))) from D.mk1 D13.out fun m h0 => by simp only [zg, zc, if_false, bnd, need, if_true, zq, ret, Q1_d_0.out, Q1_d_1.out, Q18.out, h0]) (by omega) rfl G19.out.1 G19.out.2 T21.out
theorem ze2 (c : Cx) (k : Nat) (ihf : ∀ j, k < j → Ok c .forStart 175 #[c.p] j) (iho : ∀ j, k < j → Ok c (.optional [59]) 176 #[c.p, .string ⟨#[59]⟩] j) (ihp : ∀ j, k < j → Ok c (.optional [41]) 176 #[c.p, .string ⟨#[41]⟩] j) (ihs : ∀ j, k < j → Ok c .statement 95 #[c.p] j) : Ok c .forLoop 144 #[c.p] k := by
 intro w h;have hbl := h.lt;have hfew := h.ok.few;have G0 : Hid (Go1 c w w k) := ⟨h, Off.refl _ _⟩;have IHF := za ihf;have IHO := za iho;have IHP := za ihp;have IHS := za ihs;clear h ihf iho ihp ihs
 go_enter Tryz.func144, Tryz.ntmps144
 go_wp2_with fail;cases hq : isF c.E [102, 111, 114] (c.R k)
 ·refine (ym c k ⟨#[102, 111, 114]⟩ _ G0.out.1 hq).mono ?_; rintro e w1 ⟨rfl, hB⟩;have HO := za (G0.out.2.below hB);have Q1 := za hq;clear hB hq;unfold zu;go_wp2_with fail;exact zf rfl (zo (show D c.E .forLoop (c.R k) (.error (c.T k).pos) from D.mk0 fun m => by simp only [zg, need, zc, if_false, bad, zI, Q1.out]) rfl HO.out)
 ·refine (ye c k ⟨#[102, 111, 114]⟩ (by decide) _ G0.out.1 hq).mono ?_; rintro e w1 ⟨rfl, hG⟩;have G2 : Hid (Go1 c w w1 (k + 1)) := ⟨hG.1, G0.out.2.trans hG.2⟩;have Q1 := za hq;clear hG hq;go_wp2_with fail;cases hq : isF c.E [40] (c.R (k + 1))
  ·refine (ym c (k + 1) ⟨#[40]⟩ _ G2.out.1 hq).mono ?_; rintro e w3 ⟨rfl, hB⟩;have HO := za (G2.out.2.below hB);have Q3 := za hq;clear hB hq;unfold zu;go_wp2_with fail;exact zf rfl (zo (show D c.E .forLoop (c.R k) (.error (c.T (k + 1)).pos) from D.mk0 fun m => by simp only [zg, need, if_true, zq, zc, if_false, bad, zI, Q1.out, Q3.out]) rfl HO.out)
  ·refine (ye c (k + 1) ⟨#[40]⟩ (by decide) _ G2.out.1 hq).mono ?_; rintro e w3 ⟨rfl, hG⟩;have G4 : Hid (Go1 c w w3 ((k + 1) + 1)) := ⟨hG.1, G2.out.2.trans hG.2⟩;have Q3 := za hq;clear hG hq;go_wp2_with fail;refine (IHF.out ((k + 1) + 1) (by omega) _ G4.out.1).mono ?_; rintro e w5 ⟨r, hD, hr⟩;rcases r with p | ⟨t5, R1⟩
   ·obtain ⟨rfl, hO⟩ := hr;have HO := za (G4.out.2.trans hO);have D5 := za hD;clear hD hO;unfold zu;go_wp2_with fail;exact zf rfl (zo (show D c.E .forLoop (c.R k) (.error p) from D.mk1 D5.out fun m h0 => by simp only [zg, need, if_true, zq, bnd, Q1.out, Q3.out, h0]) rfl HO.out)
   ·obtain ⟨j5, vv, rfl, hj5, rfl, hG, hT⟩ := hr;obtain ⟨v5, rfl⟩ := hT.ptr;have G6 : Hid (Go1 c w w5 j5) := ⟨hG.1, G4.out.2.trans hG.2⟩;have T5 := za (hT.lower G4.out.2.size);have D5 := za hD;clear hD hG hT;go_wp2_with fail;refine (IHO.out j5 (by omega) _ G6.out.1).mono ?_; rintro e w7 ⟨r, hD, hr⟩;rcases r with p | ⟨t7, R1⟩
    ·obtain ⟨rfl, hO⟩ := hr;have HO := za (G6.out.2.trans hO);have D7 := za hD;clear hD hO;unfold zu;go_wp2_with fail;exact zf rfl (zo (show D c.E .forLoop (c.R k) (.error p) from D.mk2 D5.out D7.out fun m h0 h1 => by simp only [zg, need, if_true, zq, bnd, Q1.out, Q3.out, h0, h1]) rfl HO.out)
    ·obtain ⟨j7, vv, rfl, hj7, rfl, hG, hT⟩ := hr;obtain ⟨v7, rfl⟩ := hT.ptr;have G8 : Hid (Go1 c w w7 j7) := ⟨hG.1, G6.out.2.trans hG.2⟩;have T9 := za (T5.out.off hG.2 hbl);have T7 := za (hT.lower G6.out.2.size);have D7 := za hD;clear hD hG hT;go_wp2_with fail;refine (IHP.out j7 (by omega) _ G8.out.1).mono ?_; rintro e w10 ⟨r, hD, hr⟩;rcases r with p | ⟨t10, R1⟩
     ·obtain ⟨rfl, hO⟩ := hr;have HO := za (G8.out.2.trans hO);have D10 := za hD;clear hD hO;unfold zu;go_wp2_with fail;exact zf rfl (zo (show D c.E .forLoop (c.R k) (.error p) from D.mk3 D5.out D7.out D10.out fun m h0 h1 h2 => by simp only [zg, need, if_true, zq, bnd, Q1.out, Q3.out, h0, h1, h2]) rfl HO.out)
     ·obtain ⟨j10, vv, rfl, hj10, rfl, hG, hT⟩ := hr;obtain ⟨v10, rfl⟩ := hT.ptr;have G11 : Hid (Go1 c w w10 j10) := ⟨hG.1, G8.out.2.trans hG.2⟩;have T12 := za (T9.out.off hG.2 hbl);have T13 := za (T7.out.off hG.2 hbl);have T10 := za (hT.lower G8.out.2.size);have D10 := za hD;clear hD hG hT;go_wp2_with fail;refine (IHS.out j10 (by omega) _ G11.out.1).mono ?_; rintro e w14 ⟨r, hD, hr⟩;rcases r with p | ⟨t14, R1⟩
      ·obtain ⟨rfl, hO⟩ := hr;have HO := za (G11.out.2.trans hO);have D14 := za hD;clear hD hO;unfold zu;go_wp2_with fail;exact zf rfl (zo (show D c.E .forLoop (c.R k) (.error p) from D.mk4 D5.out D7.out D10.out D14.out fun m h0 h1 h2 h3 => by simp only [zg, need, if_true, zq, bnd, Q1.out, Q3.out, h0, h1, h2, h3]) rfl HO.out)
      ·obtain ⟨j14, vv, rfl, hj14, rfl, hG, hT⟩ := hr;obtain ⟨v14, rfl⟩ := hT.ptr;have G15 : Hid (Go1 c w w14 j14) := ⟨hG.1, G11.out.2.trans hG.2⟩;have T16 := za (T12.out.off hG.2 hbl);have T17 := za (T13.out.off hG.2 hbl);have T18 := za (T10.out.off hG.2 hbl);have T14 := za (hT.lower G11.out.2.size);have D14 := za hD;clear hD hG hT;go_wp2_with fail;refine (zy _ _ _ _ _ _).mono ?_; rintro e w19 hm;obtain ⟨a19, rfl, hT, hB⟩ := zW (k := 10) (x := []) (vs := [(.pointer (some ⟨v5, 0, none⟩)), (.pointer (some ⟨v7, 0, none⟩)), (.pointer (some ⟨v10, 0, none⟩)), (.pointer (some ⟨v14, 0, none⟩))]) (kids := [t5, t7, t10, t14]) (zD.cons T16.out (zD.cons T17.out (zD.cons T18.out (zD.cons T14.out (zD.nil _ _))))) G15.out.2.size hm;have G20 : Hid (Go1 c w w19 j14) := ⟨G15.out.1.below hB, G15.out.2.below hB⟩;have T19 := za hT;clear hT hB hm;go_wp2_with fail;go_ret;exact zx (show D c.E .forLoop (c.R k) (.ok ((nd 10 [] [t5, t7, t10, t14]), c.R j14)) from D.mk4 D5.out D7.out D10.out D14.out fun m h0 h1 h2 h3 => by simp only [zg, need, if_true, zq, bnd, ret, Q1.out, Q3.out, h0, h1, h2, h3]) (by omega) rfl G20.out.1 G20.out.2 T19.out
theorem zdP (c : Cx) (k : Nat) (stop : List UInt8) (hst : stop ≠ []) (ihe : Ok c .expr 149 #[c.p] k) : Ok c (.optional stop) 176 #[c.p, .string (bs stop)] k := by
 intro w h;have hbl := h.lt;have hfew := h.ok.few;have G0 : Hid (Go1 c w w k) := ⟨h, Off.refl _ _⟩;have IHE := za ihe;clear h ihe
 go_enter Tryz.func176, Tryz.ntmps176
 go_wp2_with fail;cases hq : isF c.E stop (c.R k)
 ·refine (xV c k (bs stop) _ G0.out.1 hq).mono ?_; rintro e w1 ⟨rfl, hB⟩;have G2 : Hid (Go1 c w w1 k) := ⟨G0.out.1.below hB, G0.out.2.below hB⟩;have Q1 := za hq;clear hB hq;go_wp2_with fail;refine (IHE.out _ G2.out.1).mono ?_; rintro e w3 ⟨r, hD, hr⟩;rcases r with p | ⟨t3, R1⟩
  ·obtain ⟨rfl, hO⟩ := hr;have HO := za (G2.out.2.trans hO);have D3 := za hD;clear hD hO;unfold zu;go_wp2_with fail;exact zf rfl (zo (show D c.E (.optional stop) (c.R k) (.error p) from D.mk1 D3.out fun m h0 => by simp only [zg, zc, if_false, bnd, Q1.out, h0]) rfl HO.out)
  ·obtain ⟨j3, vv, rfl, hj3, rfl, hG, hT⟩ := hr;obtain ⟨v3, rfl⟩ := hT.ptr;have G4 : Hid (Go1 c w w3 j3) := ⟨hG.1, G2.out.2.trans hG.2⟩;have T3 := za (hT.lower G2.out.2.size);have D3 := za hD;clear hD hG hT;go_wp2_with fail;cases hq : isF c.E stop (c.R j3)
   ·refine (ym c j3 (bs stop) _ G4.out.1 hq).mono ?_; rintro e w5 ⟨rfl, hB⟩;have HO := za (G4.out.2.below hB);have Q5 := za hq;clear hB hq;unfold zu;go_wp2_with fail;exact zf rfl (zo (show D c.E (.optional stop) (c.R k) (.error (c.T j3).pos) from D.mk1 D3.out fun m h0 => by simp only [zg, zc, if_false, bnd, need, bad, zI, Q1.out, Q5.out, h0]) rfl HO.out)
   ·refine (ye c j3 (bs stop) hst _ G4.out.1 hq).mono ?_; rintro e w5 ⟨rfl, hG⟩;have G6 : Hid (Go1 c w w5 (j3 + 1)) := ⟨hG.1, G4.out.2.trans hG.2⟩;have T7 := za (T3.out.off hG.2 hbl);have Q5 := za hq;clear hG hq;go_wp2_with fail;go_ret;exact zx (show D c.E (.optional stop) (c.R k) (.ok (t3, c.R (j3 + 1))) from D.mk1 D3.out fun m h0 => by simp only [zg, zc, if_false, bnd, need, if_true, zq, ret, Q1.out, Q5.out, h0]) (by omega) rfl G6.out.1 G6.out.2 T7.out
 ·refine (xB c k (bs stop) hst _ G0.out.1 hq).mono ?_; rintro e w1 ⟨rfl, hG⟩;have G8 : Hid (Go1 c w w1 (k + 1)) := ⟨hG.1, G0.out.2.trans hG.2⟩;have Q1 := za hq;clear hG hq;go_wp2_with fail;refine (zy _ _ _ _ _ _).mono ?_; rintro e w9 hm;obtain ⟨a9, rfl, hT, hB⟩ := vF (k := 5) (x := []) G8.out.2.size hm;have G10 : Hid (Go1 c w w9 (k + 1)) := ⟨G8.out.1.below hB, G8.out.2.below hB⟩;have T9 := za hT;clear hT hB hm;go_wp2_with fail;go_ret;exact zx (show D c.E (.optional stop) (c.R k) (.ok ((nd 5 [] []), c.R (k + 1))) from D.mk0 fun m => by simp only [zg, if_true, zq, ret, Q1.out]) (by omega) rfl G10.out.1 G10.out.2 T9.out
theorem zfL : ∀ (j : Nat) {q : UInt8} {R o : List UInt8} {m : Nat}, R.length ≤ j → txt q R = some (o, m) → o.length ≤ 4 * R.length
 | j, q, [], o, m, _, h => by rw [txt] at h; cases h
 | 0, q, c :: r, o, m, hj, h => by simp at hj
 | j + 1, q, c :: r, o, m, hj, h => by
  rw [txt] at h;split at h
  ·injection h with h; injection h with h1 h2; subst h1; simp
  ·cases ho : xZ (c :: r) with
   | none => rw [ho] at h; cases h
   | some x =>
    obtain ⟨o1, n⟩ := x;rw [ho] at h;simp only at h;have hn : 1 ≤ n ∧ o1.length ≤ 4 := by
     unfold xZ at ho;simp only at ho;split at ho
     ·cases he : q7 r with
      | none => rw [he] at ho; cases ho
      | some y =>
       obtain ⟨o2, n2⟩ := y;rw [he] at ho;injection ho with ho; injection ho with ho1 ho2;subst ho1;have := zaH he; omega
     ·split at ho
      ·cases ho
      ·injection ho with ho; injection ho with ho1 ho2; subst ho1; subst ho2; simp
    cases ht : txt q (r.drop (n - 1)) with
    | none => rw [ht] at h; cases h
    | some y =>
     obtain ⟨o2, m2⟩ := y;rw [ht] at h;injection h with h; injection h with h1 _;subst h1;have := zfL j (by rw [List.length_drop]; simp at hj; omega) ht;rw [List.length_drop] at this;simp; omega
theorem zlP {R : List UInt8} {t : Tk} {n : Nat} (h : yh R = some (t, n)) : t.text.length ≤ 4 * R.length := by
 match R with
 | [] => cases h
 | c :: r =>
  unfold yh at h;simp only at h;split at h
  ·split at h
   ·cases h
   ·injection h with h; injection h with h _; subst h; simp
  ·split at h
   ·injection h with h; injection h with h _; subst h;show (List.take _ _).length ≤ _
    rw [List.length_take]; simp; omega
   ·split at h
    ·split at h
     ·cases h
     ·rename_i hx
      injection h with h; injection h with h _; subst h;have := zfL _ (zd _) hx;simp; omega
    ·split at h
     ·cases h
     ·injection h with h; injection h with h _; subst h;show (List.take _ _).length ≤ _
      rw [List.length_take]; simp; omega
theorem zcN : ∀ (j : Nat) (R : List UInt8) (a op : Int) (m : List Tk), R.length ≤ j → xe R a op = .ok m → m.length ≤ R.length ∧ ∀ t ∈ m, t.text.length ≤ 4 * R.length
 | j, [], a, op, m, _, h => by rw [xe] at h; injection h with h; subst h; simp
 | 0, c :: r, a, op, m, hj, h => by simp at hj
 | j + 1, c :: r, a, op, m, hj, h => by
  rw [q8] at h;cases ht : yh (c :: r) with
  | none => rw [ht] at h; cases h
  | some x =>
   obtain ⟨t, n⟩ := x;rw [ht] at h;simp only at h;have h1 := zlP ht;have h2 := vH ht;split at h
   ·cases h
   ·unfold xq at h;cases hg : gap (r.drop (n - 1)) with
    | mk k f =>
     rw [hg] at h;cases f
     ·cases h
     ·simp only at h;cases hx : xe ((r.drop (n - 1)).drop k) (a + n + k) (opA t op) with
      | error e => rw [hx] at h; cases h
      | ok l =>
       rw [hx] at h;injection h with h;subst h;obtain ⟨i1, i2⟩ := zcN j _ _ _ l (by rw [List.length_drop, List.length_drop]; simp at hj; omega) hx;rw [List.length_drop, List.length_drop] at i1 i2;refine ⟨by simp; omega, fun u hu => ?_⟩;rcases List.mem_cons.1 hu with rfl | hu
       ·exact h1
       ·have := i2 u hu; simp; omega
theorem zen {L : List UInt8} {m : List Tk} (h : yQ L = .ok m) : m.length ≤ L.length ∧ ∀ t ∈ m, t.text.length ≤ 4 * L.length := by
 unfold yQ at h;split at h
 ·cases h
 ·cases hk : chk L 0 with
  | some k => rw [hk] at h; cases h
  | none =>
   rw [hk] at h;simp only at h;unfold xq at h;cases hg : gap L with
   | mk k f =>
    rw [hg] at h;cases f with
    | false => cases h
    | true =>
     obtain ⟨i1, i2⟩ := zcN _ _ _ _ m (zd _) h;rw [List.length_drop] at i1 i2;exact ⟨by omega, fun t ht => by have := i2 t ht; omega⟩
theorem zbs (b : Int) : (Bt.textI b).size ≤ 30 := by
 unfold Bt.textI;split
 ·decide
 ·split
  ·split <;> decide
  ·split
   ·have hv := Bt.wholeV_lo (b := b);have := Lib.itoa_length_le (Bt.wholeV b) (by omega) (by omega);have e : (Bt.wholeS (Bt.wholeV b)).size = (Lib.itoa (Bt.wholeV b)).length := by rw [Lib.size_eq]; rfl
    omega
   ·have e : (Bt.tildeS b).size = 17 := by
     rw [Lib.size_eq, Bt.tilde_list, List.length_cons, ← Lib.size_eq, Bt.hexS_size]
    omega
theorem zim {t : Tk} {n : Nat} (h : t.text.length ≤ n) : (ya t).length ≤ 6 * n + 30 := by
 unfold ya;split
 ·omega
 ·split
  ·have := zbs t.bits; rw [Lib.size_eq] at this; omega
  ·split
   ·have := zgA t.text; omega
   ·simp
theorem zfM {t : Tk} (h : Gd t) : 0 ≤ t.bits ∧ t.bits < 18446744073709551616 := by
 rcases h with ⟨_, _, h⟩ | ⟨_, _, h⟩ | ⟨_, _, u, _, h⟩ | ⟨_, _, h⟩ | ⟨_, _, h⟩
 ·omega
 ·omega
 ·rw [h]; exact ⟨ofI_nonneg _, ofI_lt _⟩
 ·omega
 ·omega
end Go.Proofs.YtfcgpphodacdmaaGreatDoor
