/- What stands between two signs, with commas: or nothing. -/
import Derived.Test.YtnkfodelgpidkaaGreatDoorAr
namespace Go.Proofs.YtnkfodelgpidkaaGreatDoor
open Go.RowKit
set_option linter.unusedVariables false

set_option maxRecDepth 100000 in
set_option maxHeartbeats 1000000 in
theorem list_any (c : Cx) (k : Nat) (stop : List UInt8) (hst : stop ≠ []) (it : NT) (f : Nat) (IH : OkLb c (.row it) 193 #[c.p, .func (.func f) #[c.p] #[]] k) :
    OkLb c (.list stop it) 144 #[c.p, .string (bs stop), .func (.func f) #[c.p] #[]] k := by
  intro w h
  have hbl := h.lt
  have hfew := h.ok.few
  have G0 : Hid (Go1 c w w k) := ⟨h, Off.refl _ _⟩
  have IHH := Lib.hid IH
  have HST := Lib.hid hst
  have hkl := h.le
  clear h IH
  go_enter Tryz.func144, Tryz.ntmps144
  go_wp2_with fail
  cases hq : isF c.E stop (c.R k)
  · have Q1 := Lib.hid hq
    refine (skip_no c k (bs stop) _ G0.out.1 hq).mono ?_; rintro e w1 ⟨rfl, hB⟩
    have G1 : Hid (Go1 c w w1 k) := ⟨G0.out.1.below hB, G0.out.2.below hB⟩
    have hz1 := Lib.hid hB.size
    clear hB hq
    go_wp2_with fail
    refine (IHH.out _ G1.out.1).mono ?_; rintro e w2 ⟨r, hD, hr⟩
    rcases r with p | ⟨t, R1⟩
    · obtain ⟨rfl, hO⟩ := hr
      have HO := Lib.hid (G1.out.2.trans hO)
      have D1 := Lib.hid hD
      clear hD hO
      unfold sflt
      go_wp2_with fail
      exact bodyPost_panic rfl (postLb_err (show D c.E (.list stop it) (c.R k) (.error p) from D.mk1 D1.out fun m h0 => by simp only [body, Q1.out, Bool.false_eq_true, if_false, bnd, h0]) rfl HO.out)
    · obtain ⟨j, v, vs, S, rfl, hj, rfl, hG, hW, hK, hS, hN, hvs⟩ := hr
      have G2 : Hid (Go1 c w w2 j) := ⟨hG.1, G1.out.2.trans hG.2⟩
      have HA : Hid (Acc w.heap.size w2 v vs t.kids) := ⟨own_mono hW hz1.out, S, hK, fun i hi => F.mono hz1.out (Nat.le_refl _) i (hS i hi), hN⟩
      have D1 := Lib.hid hD
      obtain ⟨ao, cp, rfl⟩ := own_slice hW
      clear hD hG hW hK hS hN
      go_wp2_with fail
      cases hq : isF c.E stop (c.R j)
      · have Q2 := Lib.hid hq
        refine (need_no c j (bs stop) _ G2.out.1 hq).mono ?_; rintro e w3 ⟨rfl, hB⟩
        have HO := Lib.hid (G2.out.2.below hB)
        clear hB hq
        unfold sflt
        go_wp2_with fail
        exact bodyPost_panic rfl (postLb_err (show D c.E (.list stop it) (c.R k) (.error (c.T j).pos) from D.mk1 D1.out fun m h0 => by simp only [body, Q1.out, Q2.out, Bool.false_eq_true, if_false, bnd, h0, need, bad, R_hd]) rfl HO.out)
      · have Q2 := Lib.hid hq
        refine (need_yes c j (bs stop) HST.out _ G2.out.1 hq).mono ?_; rintro e w3 ⟨rfl, hG⟩
        have G3 : Hid (Go1 c w w3 (j + 1)) := ⟨hG.1, G2.out.2.trans hG.2⟩
        have HA3 := Lib.hid (HA.out.off hG.2 hbl)
        clear hG hq
        go_wp2_with fail
        go_ret
        obtain ⟨ho, S, h2, h3, h4⟩ := HA3.out
        have hvs2 : vs.length ≤ j + 1 := Nat.le_trans hvs (Nat.le_succ _)
        exact ⟨.ok (bag t.kids, c.R (j + 1)), D.mk1 D1.out fun m h0 => by simp only [body, Q1.out, Q2.out, Bool.false_eq_true, if_false, if_true, bnd, h0, need, ret, R_tail], j + 1, _, vs, S, rfl, by omega, rfl, G3.out, ho, h2, h3, h4, hvs2⟩
  · have Q1 := Lib.hid hq
    refine (skip_yes c k (bs stop) HST.out _ G0.out.1 hq).mono ?_; rintro e w1 ⟨rfl, hG⟩
    have G1 : Hid (Go1 c w w1 (k + 1)) := ⟨hG.1, G0.out.2.trans hG.2⟩
    clear hG hq
    go_wp2_with fail
    go_ret
    obtain ⟨ho, S, h2, h3, h4⟩ := Acc.nil w.heap.size w1
    exact ⟨.ok (bag [], c.R (k + 1)), D.mk0 fun m => by simp only [body, Q1.out, if_true, ret, R_tail], k + 1, _, [], S, rfl, by omega, rfl, G1.out, ho, h2, h3, h4, Nat.zero_le _⟩
end Go.Proofs.YtnkfodelgpidkaaGreatDoor
