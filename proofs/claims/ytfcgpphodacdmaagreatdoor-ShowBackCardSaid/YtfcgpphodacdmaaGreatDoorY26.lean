/- Part of a proof: contracts of functions. -/
import Derived.Test.YtfcgpphodacdmaaGreatDoorY25
set_option maxRecDepth 100000
set_option maxHeartbeats 4000000
set_option linter.all false
namespace Go.Proofs.YtfcgpphodacdmaaGreatDoor
open Go.RowKit
theorem zdi (c : Cx) (k : Nat) (kind : Int) (name : List UInt8) (ihu : ∀ j, k < j → OkL c (.untl [125] .element) 134 #[c.p, .string ⟨#[125]⟩, .func (.func 60) #[c.p] #[]] j) (ihl : ∀ j, k < j → zah c (.list [41] .param) 132 #[c.p, .string ⟨#[41]⟩, .func (.func 133) #[c.p] #[]] j) : Ok c (.function kind name) 93 #[c.p, .int .i64 kind, .string (bs name)] k := by
 intro w h;have hbl := h.lt;have hfew := h.ok.few;have G0 : Hid (Go1 c w w k) := ⟨h, Off.refl _ _⟩;have IHU := za ihu;have IHL := za ihl;clear h ihl ihu;have hgl : c.g < w.heap.size := G0.out.1.ltg;have h0l : c.w0.heap.size ≤ w.heap.size := G0.out.1.base.size
 go_enter Tryz.func93, Tryz.ntmps93
 go_wp2_with fail;cases hq : isF c.E [40] (c.R k)
 ·refine (ym c k ⟨#[40]⟩ _ G0.out.1 hq).mono ?_; rintro e w1 ⟨rfl, hB⟩;have HO := za (G0.out.2.below hB);have Q1 := za hq;clear hB hq;unfold zu;go_wp2_with fail;exact zf rfl (zo (show D c.E (.function kind name) (c.R k) (.error (c.T k).pos) from D.mk0 fun m => by simp only [zg, need, zc, if_false, bad, zI, Q1.out]) rfl HO.out)
 ·refine (ye c k ⟨#[40]⟩ (by decide) _ G0.out.1 hq).mono ?_; rintro e w1 ⟨rfl, hG⟩;have G2 : Hid (Go1 c w w1 (k + 1)) := ⟨hG.1, G0.out.2.trans hG.2⟩;have Q1 := za hq;clear hG hq;go_wp2_with fail;refine (IHL.out (k + 1) (by omega) _ G2.out.1).mono ?_; rintro e w3 ⟨r, hD, hr⟩;rcases r with p | ⟨t3, R1⟩
  ·obtain ⟨rfl, hO⟩ := hr;have HO := za (G2.out.2.trans hO);have D3 := za hD;clear hD hO;unfold zu;go_wp2_with fail;exact zf rfl (zo (show D c.E (.function kind name) (c.R k) (.error p) from D.mk1 D3.out fun m h0 => by simp only [zg, need, if_true, zq, bnd, Q1.out, h0]) rfl HO.out)
  ·obtain ⟨j3, v3, vs3, S3, rfl, hj3, rfl, hG, hW, hK, hS, hN, hvs⟩ := hr;have hvl3 : Hid (vs3.length ≤ 5000) := Nat.le_trans hvs (Nat.le_trans hG.1.le hfew);clear hvs;have G4 : Hid (Go1 c w w3 j3) := ⟨hG.1, G2.out.2.trans hG.2⟩;have HW3 := za (qP hW G2.out.2.size);have HK3 := za hK;have HN3 := za hN;have HS3 : Hid (∀ i, S3 i → F w.heap.size w3.heap.size i) := fun i hi => F.mono G2.out.2.size (zd _) i (hS i hi)
   obtain ⟨ao3, cp3, rfl⟩ := yb hW;have D3 := za hD;clear hD hG hW hK hS hN;go_wp2_with fail;refine (zy _ _ _ _ _ _).mono ?_; rintro e w5 hm;obtain ⟨a5, rfl, hO, hB⟩ := zld (k := kind) (x := name) HK3.out HS3.out HN3.out G4.out.2.size HW3.out hm;have G6 : Hid (Go1 c w w5 j3) := ⟨G4.out.1.below hB, G4.out.2.below hB⟩;have O5 := za hO;clear hO hB hm;go_wp2_with fail;cases hq : isF c.E [123] (c.R j3)
   ·refine (ym c j3 ⟨#[123]⟩ _ G6.out.1 hq).mono ?_; rintro e w7 ⟨rfl, hB⟩;have HO := za (G6.out.2.below hB);have Q7 := za hq;clear hB hq;unfold zu;go_wp2_with fail;exact zf rfl (zo (show D c.E (.function kind name) (c.R k) (.error (c.T j3).pos) from D.mk1 D3.out fun m h0 => by simp only [zg, need, if_true, zq, bnd, zc, if_false, bad, zI, Q1.out, Q7.out, h0]) rfl HO.out)
   ·refine (ye c j3 ⟨#[123]⟩ (by decide) _ G6.out.1 hq).mono ?_; rintro e w7 ⟨rfl, hG⟩;have G8 : Hid (Go1 c w w7 (j3 + 1)) := ⟨hG.1, G6.out.2.trans hG.2⟩;have O9 := za (O5.out.off hG.2 hbl);have Q7 := za hq;clear hG hq;go_wp2_with fail;refine (IHU.out (j3 + 1) (by omega) _ G8.out.1).mono ?_; rintro e w10 ⟨r, hD, hr⟩;rcases r with p | ⟨t10, R1⟩
    ·obtain ⟨rfl, hO⟩ := hr;have HO := za (G8.out.2.trans hO);have D10 := za hD;clear hD hO;unfold zu;go_wp2_with fail;exact zf rfl (zo (show D c.E (.function kind name) (c.R k) (.error p) from D.mk2 D3.out D10.out fun m h0 h1 => by simp only [zg, need, if_true, zq, bnd, Q1.out, Q7.out, h0, h1]) rfl HO.out)
    ·obtain ⟨j10, v10, vs10, S10, rfl, hj10, rfl, hG, hW, hK, hS, hN⟩ := hr;have G11 : Hid (Go1 c w w10 j10) := ⟨hG.1, G8.out.2.trans hG.2⟩;have O12 := za (O9.out.off hG.2 hbl);have HW10 := za hW;have hrl10 := hG.2.size;have hlw10 : w.heap.size ≤ w7.heap.size := G8.out.2.size;have hal10 : a5 < w7.heap.size := O9.out.lt;have hol10 := za (fun i hi => (O9.out.2.2.1.lt i hi).2);have HK10 := za hK;have HS10 := za hS;obtain ⟨ao10, cp10, rfl⟩ := yb hW;have D10 := za hD;clear hD hG hW hK hS hN;go_wp2_with fail;refine (zy _ _ _ _ _ _).mono ?_; rintro e w13 hm;obtain ⟨a13, rfl, hT, hB⟩ := vw (k := 20) (x := []) HK10.out HS10.out hrl10 HW10.out hm;have G14 : Hid (Go1 c w w13 j10) := ⟨G11.out.1.below hB, G11.out.2.below hB⟩;have O15 := za (O12.out.stay hB);have T13 := za hT;clear hT hB hm;have oS := O15.out.c3;have hown := O15.out.2.2.1;have hwl : w.heap.size ≤ w13.heap.size := G14.out.2.size;obtain ⟨i0, hi, hz0, hz1', hz2⟩ := info_parts xL;go_wp2_with (at_builtin; refine wpList_append_lies _ rfl _ _ 98 rfl w.heap.size 63 i0 _ 1 8 Tryz.underlying98 hi hz0 hz1' hz2 rfl (by decide) _ _ _ rfl (hown.alloc _) ⟨w13.heap.size, 0, none⟩ 1 1 [.pointer (some ⟨a13, 0, none⟩)] rfl rfl (vh _ _) (fun u hu => by simp at hu; subst hu; rfl) (by decide) (by have := hvl3.out; (try unfold maxLen); omega) (by have := hvl3.out; (try unfold maxLen); omega) (by simp; omega) (w13.heap.size + 1) (by simp) ?_)
     intro g cap w'' hown'' hgrow hat hlt'';have O16 := za (O15.out.push T13.out hlw10 hal10 hol10.out hown'' hgrow hat);have hbel := xU hown hwl hgrow;have GO16 : Hid (Go1 c w w'' j10) := G14.out.old hbel hgl hbl h0l;have oc := (O15.out.grown hgrow).1;have of := (O15.out.grown hgrow).2;clear hown'' hgrow hat hlt'' hbel hown oS hi hz0 hz1' hz2;go_wp2_with fail;have hlo16 : w.heap.size ≤ a5 := O16.out.1;have G16 := za (GO16.out.set (p := ⟨a5, 3, none⟩) hlo16 hgl hbl h0l (.slice (some ⟨g, 0, none⟩) (vs3.length + 1) cap));go_ret;exact zx (show D c.E (.function kind name) (c.R k) (.ok (nd kind name (t3.kids ++ [(nd 20 [] t10.kids)]), c.R j10)) from D.mk2 D3.out D10.out fun m h0 h1 => by simp only [zg, need, if_true, zq, bnd, ret, List.nil_append, List.cons_append, Q1.out, Q7.out, h0, h1]) (by omega) rfl G16.out.1 G16.out.2 O16.out.isT
def zkO (c : Cx) (k : Nat) (w : World) (e : Ending) (w' : World) : Prop :=
 ∃ r, D c.E .program (c.R k) r ∧ match r with
  | .error p => e = zu p ∧ Off c.b w w'
  | .ok (t, R1) => ∃ v, R1 = [] ∧ e = .returned v ∧ Go1 c w w' c.ts.length ∧ IsT w' (F w.heap.size w'.heap.size) v (nd 1 [] t.kids)
theorem znK (c : Cx) (k : Nat) (h : k < c.ts.length) : c.R k = c.ts[k] :: c.R (k + 1) := List.drop_eq_getElem_cons h
theorem zqa (c : Cx) (k : Nat) (h : c.ts.length ≤ k) : c.R k = [] := List.drop_eq_nil_of_le h
theorem zfa (c : Cx) (k : Nat) (IH : ∀ j, k ≤ j → Ok c .element 60 #[c.p] j) (w : World) (h : In c w k) :
    Calls Tryz.prog 33 #[c.p] w (zkO c k w) := by
  have hbl := h.lt;have hfew := h.ok.few;have hgl := h.ltg;have h0l := h.base.size;have G0 : Hid (Go1 c w w k) := ⟨h, Off.refl _ _⟩;have IHH := za IH;have hkl := h.le;clear h IH
  go_enter Tryz.func33, Tryz.ntmps33
  go_wp2_with fail;refine (zy _ _ _ _ _ _).mono ?_; rintro e w5 hm;obtain ⟨a3, rfl, hO, hB⟩ := zbg (k := 1) (x := []) G0.out.2.size hm;have G5 : Hid (Go1 c w w5 k) := ⟨G0.out.1.below hB, G0.out.2.below hB⟩;have O5 := za hO;clear hO hB hm;go_wp2_with fail
  go_loopg [] (c.ts.length - k) (fun g wr => ∃ (kj : Nat) (v : Value) (vs : List Value) (kids : List Tr), g = c.ts.length - kj ∧ k ≤ kj ∧ vs.length ≤ kj ∧ Hid (Go1 c w wr kj) ∧ Hid (Opn w.heap.size wr a3 1 [] v vs kids) ∧ Hid (∀ p, D c.E .program (c.R kj) (.error p) → D c.E .program (c.R k) (.error p)) ∧ Hid (∀ l R', D c.E .program (c.R kj) (.ok (bag l, R')) → D c.E .program (c.R k) (.ok (bag (kids ++ l), R'))))
  case atStart => exact ⟨k, _, [], [], rfl, zd _, Nat.zero_le _, G5.out, O5.out, fun p h => h, fun l R' h => h⟩
  case round =>
    obtain ⟨kj, v, vs, kids, rfl, hkj, hvs, GL, OL, DE, DL⟩ := hrel;obtain ⟨ao, cp, rfl⟩ := OL.out.slice;have hkl2 := GL.out.1.le;have hB1 : Below wr.heap.size wr wr.drew := (ze _ _).drew;have GL2 : Hid (Go1 c w wr.drew kj) := ⟨GL.out.1.below hB1, GL.out.2.below hB1⟩;have OL2 := za (OL.out.stay hB1);have ac0 := GL.out.1.c0;have ac1 := GL.out.1.c1;have ad0 : wr.drew.cell? _ = _ := ac0;have ad1 : wr.drew.cell? _ = _ := ac1;by_cases hlt : kj < c.ts.length
    · go_wp2_with fail
      go_region
      go_wp2_with fail;clear ac0 ac1 ad0 ad1 hB1 GL OL;generalize wr.drew = wd at *;have RC := za (znK c kj hlt);have hBd : Below wd.heap.size wd wd.drew := (ze _ _).drew;have G13 : Hid (Go1 c w wd.drew kj) := ⟨GL2.out.1.below hBd, GL2.out.2.below hBd⟩;have O14 := za (OL2.out.stay hBd);have oS := O14.out.c3;have hal11 : a3 < wd.drew.heap.size := O14.out.lt;have hol11 := za (fun i hi => (O14.out.2.2.1.lt i hi).2);have hlw11 : w.heap.size ≤ wd.drew.heap.size := G13.out.2.size;obtain ⟨i0, hi, hz0, hz1', hz2⟩ := info_parts xL;clear hBd
      go_region_law
        (first | (go_simp
                  go_at_call 60
                  refine (IHH.out kj hkj _ G13.out.1).mono ?_;rintro e w11 ⟨r, hD, hr⟩;rcases r with p | ⟨t11, R1⟩
                  · obtain ⟨rfl, hO⟩ := hr;have HO := za (G13.out.2.trans hO);have D11 := za hD;clear hD hO;unfold zu;exact zf rfl ⟨_, DE.out p (D.mk1 D11.out fun m h0 => by rw [RC.out] at h0; simp only [zg, RC.out, bnd, h0]), rfl, HO.out⟩
                  obtain ⟨j11, vv, rfl, hj11, rfl, hG, hT⟩ := hr;obtain ⟨v11, rfl⟩ := hT.ptr;have G15 : Hid (Go1 c w w11 j11) := ⟨hG.1, G13.out.2.trans hG.2⟩;have O16 := za (O14.out.off hG.2 hbl);have T11 := za hT;have D11 := za hD;have hown11 := O16.out.2.2.1;have hwl11 : w.heap.size ≤ w11.heap.size := G15.out.2.size;have oS11 := O16.out.c3;have oT11 := zi oS11 (.cells #[.pointer (some ⟨v11, 0, none⟩)] 63);clear hD hG hT)
               | (refine step_append_lies _ rfl _ _ 98 rfl w.heap.size 63 i0 _ 1 8 Tryz.underlying98 hi hz0 hz1' hz2 rfl (by decide) _ _ _ rfl (hown11.alloc _) ⟨w11.heap.size, 0, none⟩ 1 1 [.pointer (some ⟨v11, 0, none⟩)] rfl rfl (vh _ _) (fun u hu => by simp at hu; subst hu; rfl) (by decide) (by unfold maxLen; omega) (by omega) (by simp; omega) (w11.heap.size + 1) (by simp) ?_
                  intro g cap w'' hown'' hgrow hat hlt'';have O12 := za (O16.out.push T11.out hlw11 hal11 hol11.out hown'' hgrow hat);have hbel := xU hown11 hwl11 hgrow;have GO12 : Hid (Go1 c w w'' j11) := G15.out.old hbel hgl hbl h0l;have oc := (O16.out.grown hgrow).1;have of := (O16.out.grown hgrow).2;clear hown'' hgrow hat hlt'' hbel))
      all_goals
        have hlo12 : w.heap.size ≤ a3 := O12.out.1;have GP12 := za (GO12.out.set (p := ⟨a3, 3, none⟩) hlo12 hgl hbl h0l (.slice (some ⟨g, 0, none⟩) (vs.length + 1) cap));generalize hw12 : World.setCell w'' _ _ = u12;have OP12 : Hid (Opn w.heap.size u12 a3 1 [] (.slice (some ⟨g, 0, none⟩) (vs.length + 1) cap) (vs ++ [.pointer (some ⟨v11, 0, none⟩)]) (kids ++ [t11])) := by rw [← hw12]; exact O12
        have G12 : Hid (Go1 c w u12 j11) := by rw [← hw12]; exact GP12
        have hjl := G12.out.1.le;have D2 : Hid (∀ p, D c.E .program (c.R j11) (.error p) → D c.E .program (c.R k) (.error p)) := fun p h => DE.out p (D.mk2 D11.out h fun m h0 h1 => by rw [RC.out] at h0; simp only [zg, RC.out, bnd, h0, h1])
        have D3 : Hid (∀ l R', D c.E .program (c.R j11) (.ok (bag l, R')) → D c.E .program (c.R k) (.ok (bag (kids ++ [t11] ++ l), R'))) := fun l R' h => by
          have := DL.out (t11 :: l) R' (D.mk2 D11.out h fun m h0 h1 => by rw [RC.out] at h0; simp only [zg, RC.out, bnd, h0, h1, ret, Tr.kids])
          rwa [List.append_assoc]
        clear hi hz0 hz1' hz2 oc of oS hown11 oS11 oT11 GO12 GP12 O12 hw12;go_wp2_with fail
        go_roundg (c.ts.length - j11)
        case measure => omega
        case rel => exact ⟨j11, .slice (some ⟨g, 0, none⟩) (vs.length + 1) cap, vs ++ [Value.pointer (some (Addr.mk v11 0 none))], kids ++ [t11], rfl, by omega, by rw [List.length_append]; show vs.length + 1 ≤ j11; omega, G12.out, OP12.out, D2.out, D3.out⟩
    · go_wp2_with fail
      go_region
      go_wp2_with fail;go_ret;have RN := zqa c kj (by omega);have he : kj = c.ts.length := by omega
      subst he;refine ⟨.ok (bag kids, []), ?_, _, rfl, rfl, GL2.out, OL2.out.isT⟩;have := DL.out [] [] (D.mk0 fun m => by simp only [zg, RN, ret])
      rwa [List.append_nil] at this
end Go.Proofs.YtfcgpphodacdmaaGreatDoor
