/- What stands behind a function's name. -/
import Derived.Test.YtnkfodelgpidkaaGreatDoorDc
namespace Go.Proofs.YtnkfodelgpidkaaGreatDoor
open Go.RowKit
set_option linter.unusedVariables false
set_option linter.unusedSimpArgs false

set_option maxRecDepth 100000 in
set_option maxHeartbeats 1000000 in
theorem function_any (c : Cx) (k : Nat) (kind : Int) (name : List UInt8) (ihu : ∀ j, k < j → OkL c (.untl [125] .element) 146 #[c.p, .string ⟨#[125]⟩, .func (.func 47) #[c.p] #[]] j) (ihl : ∀ j, k < j → OkLb c (.list [41] .param) 144 #[c.p, .string ⟨#[41]⟩, .func (.func 145) #[c.p] #[]] j) : Ok c (.function kind name) 87 #[c.p, .int .i64 kind, .string (bs name)] k := by
  intro w h
  have hbl := h.lt
  have hfew := h.ok.few
  have G0 : Hid (Go1 c w w k) := ⟨h, Off.refl _ _⟩
  have IHU := Lib.hid ihu
  have IHL := Lib.hid ihl
  clear h ihl ihu
  have hgl : c.g < w.heap.size := G0.out.1.ltg
  have h0l : c.w0.heap.size ≤ w.heap.size := G0.out.1.base.size
  go_enter Tryz.func87, Tryz.ntmps87
  go_wp2_with fail
  cases hq : isF c.E [40] (c.R k)
  · refine (need_no c k ⟨#[40]⟩ _ G0.out.1 hq).mono ?_; rintro e w1 ⟨rfl, hB⟩
    have HO := Lib.hid (G0.out.2.below hB)
    have Q1 := Lib.hid hq
    clear hB hq
    unfold sflt
    go_wp2_with fail
    exact bodyPost_panic rfl (post_err (show D c.E (.function kind name) (c.R k) (.error (c.T k).pos) from D.mk0 fun m => by simp only [body, need, Bool.false_eq_true, if_false, bad, R_hd, Q1.out]) rfl HO.out)
  · refine (need_yes c k ⟨#[40]⟩ (by decide) _ G0.out.1 hq).mono ?_; rintro e w1 ⟨rfl, hG⟩
    have G2 : Hid (Go1 c w w1 (k + 1)) := ⟨hG.1, G0.out.2.trans hG.2⟩
    have Q1 := Lib.hid hq
    clear hG hq
    go_wp2_with fail
    refine (IHL.out (k + 1) (by omega) _ G2.out.1).mono ?_; rintro e w3 ⟨r, hD, hr⟩
    rcases r with p | ⟨t3, R1⟩
    · obtain ⟨rfl, hO⟩ := hr
      have HO := Lib.hid (G2.out.2.trans hO)
      have D3 := Lib.hid hD
      clear hD hO
      unfold sflt
      go_wp2_with fail
      exact bodyPost_panic rfl (post_err (show D c.E (.function kind name) (c.R k) (.error p) from D.mk1 D3.out fun m h0 => by simp only [body, need, if_true, R_tail, bnd, Q1.out, h0]) rfl HO.out)
    · obtain ⟨j3, v3, vs3, S3, rfl, hj3, rfl, hG, hW, hK, hS, hN, hvs⟩ := hr
      have hvl3 : Hid (vs3.length ≤ 5000) := Nat.le_trans hvs (Nat.le_trans hG.1.le hfew)
      clear hvs
      have G4 : Hid (Go1 c w w3 j3) := ⟨hG.1, G2.out.2.trans hG.2⟩
      have HW3 := Lib.hid (own_mono hW G2.out.2.size)
      have HK3 := Lib.hid hK
      have HN3 := Lib.hid hN
      have HS3 : Hid (∀ i, S3 i → F w.heap.size w3.heap.size i) := fun i hi => F.mono G2.out.2.size (Nat.le_refl _) i (hS i hi)
      obtain ⟨ao3, cp3, rfl⟩ := own_slice hW
      have D3 := Lib.hid hD
      clear hD hG hW hK hS hN
      go_wp2_with fail
      refine (newNode_any _ _ _ _ _ _).mono ?_; rintro e w5 hm
      obtain ⟨a5, rfl, hO, hB⟩ := opn_row (k := kind) (x := name) HK3.out HS3.out HN3.out G4.out.2.size HW3.out hm
      have G6 : Hid (Go1 c w w5 j3) := ⟨G4.out.1.below hB, G4.out.2.below hB⟩
      have O5 := Lib.hid hO
      clear hO hB hm
      go_wp2_with fail
      cases hq : isF c.E [123] (c.R j3)
      · refine (need_no c j3 ⟨#[123]⟩ _ G6.out.1 hq).mono ?_; rintro e w7 ⟨rfl, hB⟩
        have HO := Lib.hid (G6.out.2.below hB)
        have Q7 := Lib.hid hq
        clear hB hq
        unfold sflt
        go_wp2_with fail
        exact bodyPost_panic rfl (post_err (show D c.E (.function kind name) (c.R k) (.error (c.T j3).pos) from D.mk1 D3.out fun m h0 => by simp only [body, need, if_true, R_tail, bnd, Bool.false_eq_true, if_false, bad, R_hd, Q1.out, Q7.out, h0]) rfl HO.out)
      · refine (need_yes c j3 ⟨#[123]⟩ (by decide) _ G6.out.1 hq).mono ?_; rintro e w7 ⟨rfl, hG⟩
        have G8 : Hid (Go1 c w w7 (j3 + 1)) := ⟨hG.1, G6.out.2.trans hG.2⟩
        have O9 := Lib.hid (O5.out.off hG.2 hbl)
        have Q7 := Lib.hid hq
        clear hG hq
        go_wp2_with fail
        refine (IHU.out (j3 + 1) (by omega) _ G8.out.1).mono ?_; rintro e w10 ⟨r, hD, hr⟩
        rcases r with p | ⟨t10, R1⟩
        · obtain ⟨rfl, hO⟩ := hr
          have HO := Lib.hid (G8.out.2.trans hO)
          have D10 := Lib.hid hD
          clear hD hO
          unfold sflt
          go_wp2_with fail
          exact bodyPost_panic rfl (post_err (show D c.E (.function kind name) (c.R k) (.error p) from D.mk2 D3.out D10.out fun m h0 h1 => by simp only [body, need, if_true, R_tail, bnd, Q1.out, Q7.out, h0, h1]) rfl HO.out)
        · obtain ⟨j10, v10, vs10, S10, rfl, hj10, rfl, hG, hW, hK, hS, hN⟩ := hr
          have G11 : Hid (Go1 c w w10 j10) := ⟨hG.1, G8.out.2.trans hG.2⟩
          have O12 := Lib.hid (O9.out.off hG.2 hbl)
          have HW10 := Lib.hid hW
          have hrl10 := hG.2.size
          have hlw10 : w.heap.size ≤ w7.heap.size := G8.out.2.size
          have hal10 : a5 < w7.heap.size := O9.out.lt
          have hol10 := Lib.hid (fun i hi => (O9.out.2.2.1.lt i hi).2)
          have HK10 := Lib.hid hK
          have HN10 := Lib.hid hN
          have HS10 := Lib.hid hS
          obtain ⟨ao10, cp10, rfl⟩ := own_slice hW
          have D10 := Lib.hid hD
          clear hD hG hW hK hS hN
          go_wp2_with fail
          refine (newNode_any _ _ _ _ _ _).mono ?_; rintro e w13 hm
          obtain ⟨a13, rfl, hT, hB⟩ := node_row (k := 20) (x := []) HK10.out HS10.out hrl10 HW10.out hm
          have G14 : Hid (Go1 c w w13 j10) := ⟨G11.out.1.below hB, G11.out.2.below hB⟩
          have O15 := Lib.hid (O12.out.stay hB)
          have T13 := Lib.hid hT
          clear hT hB hm
          have oS := O15.out.c3
          have hown := O15.out.2.2.1
          have hwl : w.heap.size ≤ w13.heap.size := G14.out.2.size
          obtain ⟨i0, hi, hz0, hz1', hz2⟩ := info_parts info_ptr
          go_wp2_with (at_builtin; refine wpList_append_lies _ rfl _ _ 87 rfl w.heap.size 59 i0 _ 1 8 Tryz.underlying87 hi hz0 hz1' hz2 rfl (by decide) _ _ _ rfl (hown.alloc _) ⟨w13.heap.size, 0, none⟩ 1 1 [.pointer (some ⟨a13, 0, none⟩)] rfl rfl (news_one _ _) (fun u hu => by simp at hu; subst hu; rfl) (by decide) (by have := hvl3.out; (try unfold maxLen); omega) (by have := hvl3.out; (try unfold maxLen); omega) (by simp; omega) (w13.heap.size + 1) (by simp) ?_)
          intro g cap w'' hown'' hgrow hat hlt''
          have O16 := Lib.hid (O15.out.push T13.out hlw10 hal10 hol10.out hown'' hgrow hat)
          have hbel := grown_old hown hwl hgrow
          have GO16 : Hid (Go1 c w w'' j10) := G14.out.old hbel hgl hbl h0l
          have oc := (O15.out.grown hgrow).1
          have of := (O15.out.grown hgrow).2
          clear hown'' hgrow hat hlt'' hbel hown oS hi hz0 hz1' hz2
          go_wp2_with fail
          have hlo16 : w.heap.size ≤ a5 := O16.out.1
          have G16 := Lib.hid (GO16.out.set (p := ⟨a5, 3, none⟩) hlo16 hgl hbl h0l (.slice (some ⟨g, 0, none⟩) (vs3.length + 1) cap))
          go_ret
          exact post_ok (show D c.E (.function kind name) (c.R k) (.ok (nd kind name (t3.kids ++ [(nd 20 [] t10.kids)]), c.R j10)) from D.mk2 D3.out D10.out fun m h0 h1 => by simp only [body, need, if_true, R_tail, bnd, ret, List.nil_append, List.cons_append, Q1.out, Q7.out, h0, h1]) (by omega) rfl G16.out.1 G16.out.2 O16.out.isT
end Go.Proofs.YtnkfodelgpidkaaGreatDoor
