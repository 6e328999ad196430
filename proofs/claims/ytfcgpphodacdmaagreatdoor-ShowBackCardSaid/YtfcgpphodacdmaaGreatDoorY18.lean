/- Part of a proof: contracts of functions. -/
import Derived.Test.YtfcgpphodacdmaaGreatDoorY17
import Derived.Deep.LoopGhost
import Derived.Deep.RegionHeld
set_option maxRecDepth 100000
set_option maxHeartbeats 4000000
set_option linter.all false
namespace Go.Proofs.YtfcgpphodacdmaaGreatDoor
open Go.RowKit
theorem zca (x : List UInt8) (w : World) :
  Calls Tryz.prog 192 #[.string (bs x)] w fun e w' => e = .returned (.bool (xy.contains x)) ∧ w = w' := by
 have HW : Hid (xy.contains x = xy.contains (bs x).toList) := by show _ = _; rw [Lib.toList_data]; rfl
 generalize xy.contains x = z at *;generalize bs x = s at *
 go_enter Tryz.func192, Tryz.ntmps192
 go_wp2
 all_goals
  go_ret;refine ⟨ret_bool ?_, rfl⟩;rw [HW.out];first
   | (refine (zb3 (by assumption) ?_).symm; decide)
   | (simp only [xy, List.contains_cons, List.contains_nil, Bool.or_false, *]; done)
   | (exfalso; simp_all)
theorem zhE (x : List UInt8) (w : World) :
  Calls Tryz.prog 217 #[.string (bs x)] w fun e w' => e = .returned (.int .i64 (yj x)) ∧ w = w' := by
 have HW : Hid (yj x = yj (bs x).toList) := by show _ = _; rw [Lib.toList_data]; rfl
 generalize yj x = z at *;generalize bs x = s at *
 go_enter Tryz.func217, Tryz.ntmps217
 go_wp2
 all_goals
  go_ret;refine ⟨jB ?_, rfl⟩;rw [HW.out];first
   | (simp only [yj, q6, List.lookup, Option.getD_some, Option.getD_none, *]; done)
   | (rw [eq_of_beq (by assumption)]; rfl)
   | (exfalso; simp_all)
theorem zjj (c : Cx) (k : Nat) (ihb : Ok c .assign 178 #[c.p] k) (iha : ∀ j, k < j → Ok c .assign 178 #[c.p] j) : Ok c .expr 149 #[c.p] k := by
 intro w h;have hbl := h.lt;have hfew := h.ok.few;have G0 : Hid (Go1 c w w k) := ⟨h, Off.refl _ _⟩;have IHB := za ihb;have IHA := za iha;clear h ihb iha
 go_enter Tryz.func149, Tryz.ntmps149
 go_wp2_with fail;refine (IHB.out _ G0.out.1).mono ?_; rintro e w1 ⟨r, hD, hr⟩;rcases r with p | ⟨t1, R1⟩
 ·obtain ⟨rfl, hO⟩ := hr;have HO := za (G0.out.2.trans hO);have D1 := za hD;clear hD hO;unfold zu;go_wp2_with fail;exact zf rfl (zo (show D c.E .expr (c.R k) (.error p) from D.mk1 D1.out fun m h0 => by simp only [zg, bnd, h0]) rfl HO.out)
 ·obtain ⟨j1, vv, rfl, hj1, rfl, hG, hT⟩ := hr;obtain ⟨v1, rfl⟩ := hT.ptr;have G2 : Hid (Go1 c w w1 j1) := ⟨hG.1, G0.out.2.trans hG.2⟩;have T1 := za (hT.lower G0.out.2.size);have D1 := za hD;clear hD hG hT;go_wp2_with fail;have DC : Hid (∀ r, D c.E (.exprMore t1) (c.R j1) r → D c.E .expr (c.R k) r) := fun r h => D.mk2 D1.out h fun m h0 h1 => by simp only [zg, bnd, h0, h1]
  go_loopg [3] (c.ts.length - j1) (fun g xx wr => ∃ (kj a : Nat) (t : Tr), xx = .pointer (some ⟨a, 0, none⟩) ∧ g = c.ts.length - kj ∧ k < kj ∧ Hid (Go1 c w wr kj) ∧ Hid (IsT wr (F w.heap.size wr.heap.size) (.pointer (some ⟨a, 0, none⟩)) t) ∧ Hid (∀ r, D c.E (.exprMore t) (c.R kj) r → D c.E .expr (c.R k) r))
  case atStart => exact ⟨j1, _, _, rfl, rfl, by omega, G2.out, T1.out, DC.out⟩
  case round =>
   obtain ⟨kj, aL, tL, rfl, rfl, hkj, GL, TL, DL⟩ := hrel;go_wp2_with fail;cases hq : isF c.E [44] (c.R kj)
   ·refine (xV c kj ⟨#[44]⟩ _ GL.out.1 hq).mono ?_; rintro e w3 ⟨rfl, hB⟩;have G4 : Hid (Go1 c w w3 kj) := ⟨GL.out.1.below hB, GL.out.2.below hB⟩;have T5 := za (TL.out.stay hB);have Q3 := za hq;clear hB hq;go_wp2_with fail;go_ret;exact zx (show D c.E .expr (c.R k) (.ok (tL, c.R kj)) from DL.out _ (D.mk0 fun m => by simp only [zg, zc, if_false, ret, Q3.out])) (by omega) rfl G4.out.1 G4.out.2 T5.out
   ·refine (xB c kj ⟨#[44]⟩ (by decide) _ GL.out.1 hq).mono ?_; rintro e w3 ⟨rfl, hG⟩;have G6 : Hid (Go1 c w w3 (kj + 1)) := ⟨hG.1, GL.out.2.trans hG.2⟩;have T7 := za (TL.out.off hG.2 hbl);have Q3 := za hq;clear hG hq;go_wp2_with fail;refine (IHA.out (kj + 1) (by omega) _ G6.out.1).mono ?_; rintro e w8 ⟨r, hD, hr⟩;rcases r with p | ⟨t8, R1⟩
    ·obtain ⟨rfl, hO⟩ := hr;have HO := za (G6.out.2.trans hO);have D8 := za hD;clear hD hO;unfold zu;go_wp2_with fail;exact zf rfl (zo (show D c.E .expr (c.R k) (.error p) from DL.out _ (D.mk1 D8.out fun m h0 => by simp only [zg, if_true, zq, bnd, Q3.out, h0])) rfl HO.out)
    ·obtain ⟨j8, vv, rfl, hj8, rfl, hG, hT⟩ := hr;obtain ⟨v8, rfl⟩ := hT.ptr;have G9 : Hid (Go1 c w w8 j8) := ⟨hG.1, G6.out.2.trans hG.2⟩;have T10 := za (T7.out.off hG.2 hbl);have T8 := za (hT.lower G6.out.2.size);have D8 := za hD;clear hD hG hT;go_wp2_with fail;refine (zy _ _ _ _ _ _).mono ?_; rintro e w11 hm;obtain ⟨a11, rfl, hT, hB⟩ := zW (k := 42) (x := []) (vs := [(.pointer (some ⟨aL, 0, none⟩)), (.pointer (some ⟨v8, 0, none⟩))]) (kids := [tL, t8]) (zD.cons T10.out (zD.cons T8.out (zD.nil _ _))) G9.out.2.size hm;have G12 : Hid (Go1 c w w11 j8) := ⟨G9.out.1.below hB, G9.out.2.below hB⟩;have T11 := za hT;clear hT hB hm;go_wp2_with fail;have hle := G12.out.1.le
     go_roundg (c.ts.length - j8)
     case measure => omega
     case rel => exact ⟨j8, _, _, rfl, rfl, by omega, G12.out, T11.out, fun r h => DL.out r (D.mk2 D8.out h fun m h0 h1 => by simp only [zg, if_true, zq, bnd, Q3.out, h0, h1])⟩
theorem zfr (x : List UInt8) (w : World) {v : Bool} (hq : xy.contains x = v) :
  Calls Tryz.prog 192 #[.string (bs x)] w fun e w' => e = .returned (.bool v) ∧ w = w' := by
 rw [← hq]; exact zca x w
theorem zi {w : World} {a : Addr} {v : Value} (h : w.cell? a = some v) (o : Obj) : (w.alloc o).cell? a = some v := (World.cell?_alloc_some w a o (by rw [h]; rfl)).trans h
theorem yx {w : World} {a : Addr} {v : Value} (h : w.cell? a = some v) : w.drew.cell? a = some v := h
theorem zk5 {c : Cx} {k : Nat} (hk : k ≤ c.ts.length) (h : xy.contains (fx (c.T k)) = true) : k < c.ts.length :=
 yo hk fun e => by rw [e] at h; exact absurd h (by decide)
theorem zgp (c : Cx) (k : Nat) (ihc : Ok c .cond 191 #[c.p] k) (iha : ∀ j, k < j → Ok c .assign 178 #[c.p] j) : Ok c .assign 178 #[c.p] k := by
  intro w h;have hbl := h.lt;have hfew := h.ok.few;have G0 : Hid (Go1 c w w k) := ⟨h, Off.refl _ _⟩;have IHC := za ihc;have IHA := za iha;clear h ihc iha
  go_enter Tryz.func178, Tryz.ntmps178
  go_wp2_with fail;refine (IHC.out _ G0.out.1).mono ?_; rintro e w1 ⟨r, hD, hr⟩;rcases r with p | ⟨t1, R1⟩
  · obtain ⟨rfl, hO⟩ := hr;have HO := za (G0.out.2.trans hO);have D1 := za hD;clear hD hO;unfold zu;go_wp2_with fail;exact zf rfl (zo (show D c.E .assign (c.R k) (.error p) from D.mk1 D1.out fun m h0 => by simp only [zg, bnd, h0]) rfl HO.out)
  · obtain ⟨j1, vv, rfl, hj1, rfl, hG, hT⟩ := hr;obtain ⟨v1, rfl⟩ := hT.ptr;have G2 : Hid (Go1 c w w1 j1) := ⟨hG.1, G0.out.2.trans hG.2⟩;have T1 := za (hT.lower G0.out.2.size);have D1 := za hD;clear hD hG hT;go_wp2_with fail;refine (y5 c j1 _ G2.out.1).mono ?_; rintro e w3 ⟨rfl, hB⟩;have hB2 := hB.alloc hB.size (.cells #[.int .i64 (c.T j1).kind, .int .i64 (c.T j1).pos, .string (bs (c.T j1).text), .int .u64 (c.T j1).bits] 60);have G4 : Hid (Go1 c w (w3.alloc (.cells #[.int .i64 (c.T j1).kind, .int .i64 (c.T j1).pos, .string (bs (c.T j1).text), .int .u64 (c.T j1).bits] 60)) j1) := ⟨G2.out.1.below hB2, G2.out.2.below hB2⟩;have T5 := za (T1.out.stay hB2);have B3 : Hid (B4 (w3.alloc (.cells #[.int .i64 (c.T j1).kind, .int .i64 (c.T j1).pos, .string (bs (c.T j1).text), .int .u64 (c.T j1).bits] 60)) w3.heap.size (.int .i64 (c.T j1).kind) (.int .i64 (c.T j1).pos) (.string (bs (c.T j1).text)) (.int .u64 (c.T j1).bits)) := B4.new w3 _ _ _ _;have lb3 : c.b < w3.heap.size := Nat.lt_of_lt_of_le G2.out.1.lt hB.size;clear hB hB2;go_wp2_with fail;generalize w3.alloc (.cells #[.int .i64 (c.T j1).kind, .int .i64 (c.T j1).pos, .string (bs (c.T j1).text), .int .u64 (c.T j1).bits] 60) = u3 at *;refine (qJ c j1 _ G4.out.1).mono ?_; rintro e w6 ⟨rfl, hB⟩;have G7 : Hid (Go1 c w w6 j1) := ⟨G4.out.1.below hB, G4.out.2.below hB⟩;have B8 := za (B3.out.stay hB);have T9 := za (T5.out.stay hB);clear hB;have o3_0 := B8.out.c0;have o3_1 := B8.out.c1;have o3_2 := B8.out.c2;have o3_3 := B8.out.c3;go_wp2_with fail;clear o3_0 o3_1 o3_2 o3_3;cases hq : xy.contains (fx (c.T j1))
    · refine (zfr _ _ hq).mono ?_; rintro e w' ⟨rfl, rfl⟩;have Q6 := za hq;clear hq;have o3_0 := B8.out.c0;have o3_1 := B8.out.c1;have o3_2 := B8.out.c2;have o3_3 := B8.out.c3;go_wp2_with fail;clear o3_0 o3_1 o3_2 o3_3;go_ret;exact zx (show D c.E .assign (c.R k) (.ok (t1, c.R j1)) from D.mk1 D1.out fun m h0 => by simp only [zg, bnd, zI, zc, if_false, ret, Q6.out, h0]) (by omega) rfl G7.out.1 G7.out.2 T9.out
    · refine (zfr _ _ hq).mono ?_; rintro e w' ⟨rfl, rfl⟩;have Q6 := za hq;have hlt : j1 < c.ts.length := zk5 G7.out.1.le hq;clear hq;have o3_0 := B8.out.c0;have o3_1 := B8.out.c1;have o3_2 := B8.out.c2;have o3_3 := B8.out.c3;go_wp2_with fail;clear o3_0 o3_1 o3_2 o3_3;cases hq : yT t1
      · refine (um _ _ _ _ (c.T j1) T9.out hq).mono ?_; rintro e w10 ⟨rfl, hB⟩;have HO := za (G7.out.2.below hB);have Q10 := za hq;clear hB hq;unfold zu;go_wp2_with fail;exact zf rfl (zo (show D c.E .assign (c.R k) (.error (c.T j1).pos) from D.mk1 D1.out fun m h0 => by simp only [zg, bnd, zI, if_true, zc, if_false, bad, Q6.out, Q10.out, h0]) rfl HO.out)
      · refine (vL _ _ _ _ (c.T j1) T9.out hq).mono ?_; rintro e w10 ⟨rfl, hB⟩;have G11 : Hid (Go1 c w w10 j1) := ⟨G7.out.1.below hB, G7.out.2.below hB⟩;have B12 := za (B8.out.stay hB);have T13 := za (T9.out.stay hB);have Q10 := za hq;clear hB hq;have o3_0 := B12.out.c0;have o3_1 := B12.out.c1;have o3_2 := B12.out.c2;have o3_3 := B12.out.c3;have ac1 := G11.out.1.c1;have af1 := G11.out.1.fz 1;go_wp2_with fail;clear o3_0 o3_1 o3_2 o3_3 ac1 af1;have hG : Go1 c w10 (w10.setCell ⟨c.b, 1, none⟩ (.int .i64 ((j1 : Int) + 1))) (j1 + 1) := ⟨G11.out.1.next (j := j1 + 1) (by omega), (Off.refl _ _).set 1 _⟩;have G15 : Hid (Go1 c w (w10.setCell ⟨c.b, 1, none⟩ (.int .i64 ((j1 : Int) + 1))) (j1 + 1)) := ⟨hG.1, G11.out.2.trans hG.2⟩;have B16 := za (B12.out.off hG.2 (by omega));have T17 := za (T13.out.off hG.2 hbl);clear hG;generalize w10.setCell ⟨c.b, 1, none⟩ (.int .i64 ((j1 : Int) + 1)) = u14 at *;have hBd : Below u14.heap.size u14 u14.drew := (ze _ _).drew;have G18 : Hid (Go1 c w u14.drew (j1 + 1)) := ⟨G15.out.1.below hBd, G15.out.2.below hBd⟩;have B19 := za (B16.out.stay hBd);have T20 := za (T17.out.stay hBd);have oS := B19.out.c2
        go_region_held (fun w' => w'.cell? ⟨w3.heap.size, 2, none⟩ = some (.string (bs (c.T j1).text))) (first | assumption | exact zi (by assumption) _ | exact yx (by assumption))
          (first | (go_at_call 178
                    refine (IHA.out (j1 + 1) (by omega) _ G18.out.1).mono ?_;rintro e w21 ⟨r, hD, hr⟩;rcases r with p | ⟨t21, R1⟩
                    · obtain ⟨rfl, hO⟩ := hr;have HO := za (G18.out.2.trans hO);have D21 := za hD;clear hD hO;unfold zu;exact zf rfl (zo (show D c.E .assign (c.R k) (.error p) from D.mk2 D1.out D21.out fun m h0 h1 => by simp only [zg, bnd, zI, if_true, zq, Q6.out, Q10.out, h0, h1]) rfl HO.out)
                    obtain ⟨j21, vv, rfl, hj21, rfl, hG, hT⟩ := hr;obtain ⟨v21, rfl⟩ := hT.ptr;have G22 : Hid (Go1 c w w21 j21) := ⟨hG.1, G18.out.2.trans hG.2⟩;have B23 := za (B19.out.off hG.2 (by omega));have T24 := za (T20.out.off hG.2 hbl);have T21 := za (hT.lower G18.out.2.size);have D21 := za hD;have oS21 := B23.out.c2;clear hD hG hT)
                 | (go_at_call 59
                    refine (zy _ _ _ _ _ _).mono ?_;rintro e w25 hm;obtain ⟨a25, rfl, hT, hB⟩ := zW (k := 41) (x := (c.T j1).text) (vs := [(.pointer (some ⟨v1, 0, none⟩)), (.pointer (some ⟨v21, 0, none⟩))]) (kids := [t1, t21]) (zD.cons T24.out (zD.cons T21.out (zD.nil _ _))) G22.out.2.size hm;have G26 : Hid (Go1 c w w25 j21) := ⟨G22.out.1.below hB, G22.out.2.below hB⟩;have B27 := za (B23.out.stay hB);have T25 := za hT;have oS25 := B27.out.c2;clear hT hB hm))
        clear oS;go_wp2_with fail;go_ret;exact zx (show D c.E .assign (c.R k) (.ok ((nd 41 (c.T j1).text [t1, t21]), c.R j21)) from D.mk2 D1.out D21.out fun m h0 h1 => by simp only [zg, bnd, zI, if_true, zq, ret, Q6.out, Q10.out, h0, h1]) (by omega) rfl G26.out.1 G26.out.2 T25.out
theorem zjk (c : Cx) (k : Nat) (ihb : Ok c (.binary 1) 203 #[c.p, .int .i64 1] k) (iha : ∀ j, k < j → Ok c .assign 178 #[c.p] j) : Ok c .cond 191 #[c.p] k := by
 intro w h;have hbl := h.lt;have hfew := h.ok.few;have G0 : Hid (Go1 c w w k) := ⟨h, Off.refl _ _⟩;have IHB := za ihb;have IHA := za iha;clear h ihb iha
 go_enter Tryz.func191, Tryz.ntmps191
 go_wp2_with fail;refine (IHB.out _ G0.out.1).mono ?_; rintro e w1 ⟨r, hD, hr⟩;rcases r with p | ⟨t1, R1⟩
 ·obtain ⟨rfl, hO⟩ := hr;have HO := za (G0.out.2.trans hO);have D1 := za hD;clear hD hO;unfold zu;go_wp2_with fail;exact zf rfl (zo (show D c.E .cond (c.R k) (.error p) from D.mk1 D1.out fun m h0 => by simp only [zg, bnd, h0]) rfl HO.out)
 ·obtain ⟨j1, vv, rfl, hj1, rfl, hG, hT⟩ := hr;obtain ⟨v1, rfl⟩ := hT.ptr;have G2 : Hid (Go1 c w w1 j1) := ⟨hG.1, G0.out.2.trans hG.2⟩;have T1 := za (hT.lower G0.out.2.size);have D1 := za hD;clear hD hG hT;go_wp2_with fail;cases hq : isF c.E [63] (c.R j1)
  ·refine (xV c j1 ⟨#[63]⟩ _ G2.out.1 hq).mono ?_; rintro e w3 ⟨rfl, hB⟩;have G4 : Hid (Go1 c w w3 j1) := ⟨G2.out.1.below hB, G2.out.2.below hB⟩;have T5 := za (T1.out.stay hB);have Q3 := za hq;clear hB hq;go_wp2_with fail;go_ret;exact zx (show D c.E .cond (c.R k) (.ok (t1, c.R j1)) from D.mk1 D1.out fun m h0 => by simp only [zg, bnd, zc, if_false, ret, Q3.out, h0]) (by omega) rfl G4.out.1 G4.out.2 T5.out
  ·refine (xB c j1 ⟨#[63]⟩ (by decide) _ G2.out.1 hq).mono ?_; rintro e w3 ⟨rfl, hG⟩;have G6 : Hid (Go1 c w w3 (j1 + 1)) := ⟨hG.1, G2.out.2.trans hG.2⟩;have T7 := za (T1.out.off hG.2 hbl);have Q3 := za hq;clear hG hq;go_wp2_with fail;refine (IHA.out (j1 + 1) (by omega) _ G6.out.1).mono ?_; rintro e w8 ⟨r, hD, hr⟩;rcases r with p | ⟨t8, R1⟩
   ·obtain ⟨rfl, hO⟩ := hr;have HO := za (G6.out.2.trans hO);have D8 := za hD;clear hD hO;unfold zu;go_wp2_with fail;exact zf rfl (zo (show D c.E .cond (c.R k) (.error p) from D.mk2 D1.out D8.out fun m h0 h1 => by simp only [zg, bnd, if_true, zq, Q3.out, h0, h1]) rfl HO.out)
   ·obtain ⟨j8, vv, rfl, hj8, rfl, hG, hT⟩ := hr;obtain ⟨v8, rfl⟩ := hT.ptr;have G9 : Hid (Go1 c w w8 j8) := ⟨hG.1, G6.out.2.trans hG.2⟩;have T10 := za (T7.out.off hG.2 hbl);have T8 := za (hT.lower G6.out.2.size);have D8 := za hD;clear hD hG hT;go_wp2_with fail;cases hq : isF c.E [58] (c.R j8)
    ·refine (ym c j8 ⟨#[58]⟩ _ G9.out.1 hq).mono ?_; rintro e w11 ⟨rfl, hB⟩;have HO := za (G9.out.2.below hB);have Q11 := za hq;clear hB hq;unfold zu;go_wp2_with fail;exact zf rfl (zo (show D c.E .cond (c.R k) (.error (c.T j8).pos) from D.mk2 D1.out D8.out fun m h0 h1 => by simp only [zg, bnd, if_true, zq, need, zc, if_false, bad, zI, Q3.out, Q11.out, h0, h1]) rfl HO.out)
    ·refine (ye c j8 ⟨#[58]⟩ (by decide) _ G9.out.1 hq).mono ?_; rintro e w11 ⟨rfl, hG⟩;have G12 : Hid (Go1 c w w11 (j8 + 1)) := ⟨hG.1, G9.out.2.trans hG.2⟩;have T13 := za (T10.out.off hG.2 hbl);have T14 := za (T8.out.off hG.2 hbl);have Q11 := za hq;clear hG hq;go_wp2_with fail;refine (IHA.out (j8 + 1) (by omega) _ G12.out.1).mono ?_; rintro e w15 ⟨r, hD, hr⟩;rcases r with p | ⟨t15, R1⟩
     ·obtain ⟨rfl, hO⟩ := hr;have HO := za (G12.out.2.trans hO);have D15 := za hD;clear hD hO;unfold zu;go_wp2_with fail;exact zf rfl (zo (show D c.E .cond (c.R k) (.error p) from D.mk3 D1.out D8.out D15.out fun m h0 h1 h2 => by simp only [zg, bnd, if_true, zq, need, Q3.out, Q11.out, h0, h1, h2]) rfl HO.out)
     ·obtain ⟨j15, vv, rfl, hj15, rfl, hG, hT⟩ := hr;obtain ⟨v15, rfl⟩ := hT.ptr;have G16 : Hid (Go1 c w w15 j15) := ⟨hG.1, G12.out.2.trans hG.2⟩;have T17 := za (T13.out.off hG.2 hbl);have T18 := za (T14.out.off hG.2 hbl);have T15 := za (hT.lower G12.out.2.size);have D15 := za hD;clear hD hG hT;go_wp2_with fail;refine (zy _ _ _ _ _ _).mono ?_; rintro e w19 hm;obtain ⟨a19, rfl, hT, hB⟩ := zW (k := 40) (x := []) (vs := [(.pointer (some ⟨v1, 0, none⟩)), (.pointer (some ⟨v8, 0, none⟩)), (.pointer (some ⟨v15, 0, none⟩))]) (kids := [t1, t8, t15]) (zD.cons T17.out (zD.cons T18.out (zD.cons T15.out (zD.nil _ _)))) G16.out.2.size hm;have G20 : Hid (Go1 c w w19 j15) := ⟨G16.out.1.below hB, G16.out.2.below hB⟩;have T19 := za hT;clear hT hB hm;go_wp2_with fail;go_ret;exact zx (show D c.E .cond (c.R k) (.ok ((nd 40 [] [t1, t8, t15]), c.R j15)) from D.mk3 D1.out D8.out D15.out fun m h0 h1 h2 => by simp only [zg, bnd, if_true, zq, need, ret, Q3.out, Q11.out, h0, h1, h2]) (by omega) rfl G20.out.1 G20.out.2 T19.out
end Go.Proofs.YtfcgpphodacdmaaGreatDoor
