/- A whole source, element by element. -/
import Derived.Test.YtnkfodelgpidkaaGreatDoorDc
namespace Go.Proofs.YtnkfodelgpidkaaGreatDoor
open Go.RowKit
set_option linter.unusedVariables false
set_option linter.unusedSimpArgs false

def PostP (c : Cx) (k : Nat) (w : World) (e : Ending) (w' : World) : Prop :=
  ∃ r, D c.E .program (c.R k) r ∧ match r with
    | .error p => e = sflt p ∧ Off c.b w w'
    | .ok (t, R1) => ∃ v, R1 = [] ∧ e = .returned v ∧ Go1 c w w' c.ts.length ∧ IsT w' (F w.heap.size w'.heap.size) v (nd 1 [] t.kids)
theorem R_cons (c : Cx) (k : Nat) (h : k < c.ts.length) : c.R k = c.ts[k] :: c.R (k + 1) := List.drop_eq_getElem_cons h
theorem R_nil (c : Cx) (k : Nat) (h : c.ts.length ≤ k) : c.R k = [] := List.drop_eq_nil_of_le h
set_option maxRecDepth 100000 in
set_option maxHeartbeats 1000000 in
theorem program_any (c : Cx) (k : Nat) (IH : ∀ j, k ≤ j → Ok c .element 47 #[c.p] j) (w : World) (h : In c w k) :
    Calls Tryz.prog 26 #[c.p] w (PostP c k w) := by
  have hbl := h.lt
  have hfew := h.ok.few
  have hgl := h.ltg
  have h0l := h.base.size
  have G0 : Hid (Go1 c w w k) := ⟨h, Off.refl _ _⟩
  have IHH := Lib.hid IH
  have hkl := h.le
  clear h IH
  go_enter Tryz.func26, Tryz.ntmps26
  go_wp2_with fail
  refine (newNode_any _ _ _ _ _ _).mono ?_; rintro e w5 hm
  obtain ⟨a3, rfl, hO, hB⟩ := opn_none (k := 1) (x := []) G0.out.2.size hm
  have G5 : Hid (Go1 c w w5 k) := ⟨G0.out.1.below hB, G0.out.2.below hB⟩
  have O5 := Lib.hid hO
  clear hO hB hm
  go_wp2_with fail
  go_loopg [] (c.ts.length - k) (fun g wr => ∃ (kj : Nat) (v : Value) (vs : List Value) (kids : List Tr), g = c.ts.length - kj ∧ k ≤ kj ∧ vs.length ≤ kj ∧ Hid (Go1 c w wr kj) ∧ Hid (Opn w.heap.size wr a3 1 [] v vs kids) ∧ Hid (∀ p, D c.E .program (c.R kj) (.error p) → D c.E .program (c.R k) (.error p)) ∧ Hid (∀ l R', D c.E .program (c.R kj) (.ok (bag l, R')) → D c.E .program (c.R k) (.ok (bag (kids ++ l), R'))))
  case atStart => exact ⟨k, _, [], [], rfl, Nat.le_refl _, Nat.zero_le _, G5.out, O5.out, fun p h => h, fun l R' h => h⟩
  case round =>
    obtain ⟨kj, v, vs, kids, rfl, hkj, hvs, GL, OL, DE, DL⟩ := hrel
    obtain ⟨ao, cp, rfl⟩ := OL.out.slice
    have hkl2 := GL.out.1.le
    have hB1 : Below wr.heap.size wr wr.drew := (Below.refl _ _).drew
    have GL2 : Hid (Go1 c w wr.drew kj) := ⟨GL.out.1.below hB1, GL.out.2.below hB1⟩
    have OL2 := Lib.hid (OL.out.stay hB1)
    have ac0 := GL.out.1.c0
    have ac1 := GL.out.1.c1
    have ad0 : wr.drew.cell? _ = _ := ac0
    have ad1 : wr.drew.cell? _ = _ := ac1
    by_cases hlt : kj < c.ts.length
    · go_wp2_with fail
      go_region
      go_wp2_with fail
      clear ac0 ac1 ad0 ad1 hB1 GL OL
      generalize wr.drew = wd at *
      have RC := Lib.hid (R_cons c kj hlt)
      have hBd : Below wd.heap.size wd wd.drew := (Below.refl _ _).drew
      have G13 : Hid (Go1 c w wd.drew kj) := ⟨GL2.out.1.below hBd, GL2.out.2.below hBd⟩
      have O14 := Lib.hid (OL2.out.stay hBd)
      have oS := O14.out.c3
      have hal11 : a3 < wd.drew.heap.size := O14.out.lt
      have hol11 := Lib.hid (fun i hi => (O14.out.2.2.1.lt i hi).2)
      have hlw11 : w.heap.size ≤ wd.drew.heap.size := G13.out.2.size
      obtain ⟨i0, hi, hz0, hz1', hz2⟩ := info_parts info_ptr
      clear hBd
      go_region_law
        (first | (go_simp
                  go_at_call 47
                  refine (IHH.out kj hkj _ G13.out.1).mono ?_
                  rintro e w11 ⟨r, hD, hr⟩
                  rcases r with p | ⟨t11, R1⟩
                  · obtain ⟨rfl, hO⟩ := hr
                    have HO := Lib.hid (G13.out.2.trans hO)
                    have D11 := Lib.hid hD
                    clear hD hO
                    unfold sflt
                    exact bodyPost_panic rfl ⟨_, DE.out p (D.mk1 D11.out fun m h0 => by rw [RC.out] at h0; simp only [body, RC.out, bnd, h0]), rfl, HO.out⟩
                  obtain ⟨j11, vv, rfl, hj11, rfl, hG, hT⟩ := hr
                  obtain ⟨v11, rfl⟩ := hT.ptr
                  have G15 : Hid (Go1 c w w11 j11) := ⟨hG.1, G13.out.2.trans hG.2⟩
                  have O16 := Lib.hid (O14.out.off hG.2 hbl)
                  have T11 := Lib.hid hT
                  have D11 := Lib.hid hD
                  have hown11 := O16.out.2.2.1
                  have hwl11 : w.heap.size ≤ w11.heap.size := G15.out.2.size
                  have oS11 := O16.out.c3
                  have oT11 := cell_alloc oS11 (.cells #[.pointer (some ⟨v11, 0, none⟩)] 59)
                  clear hD hG hT)
               | (refine step_append_lies _ rfl _ _ 87 rfl w.heap.size 59 i0 _ 1 8 Tryz.underlying87 hi hz0 hz1' hz2 rfl (by decide) _ _ _ rfl (hown11.alloc _) ⟨w11.heap.size, 0, none⟩ 1 1 [.pointer (some ⟨v11, 0, none⟩)] rfl rfl (news_one _ _) (fun u hu => by simp at hu; subst hu; rfl) (by decide) (by unfold maxLen; omega) (by omega) (by simp; omega) (w11.heap.size + 1) (by simp) ?_
                  intro g cap w'' hown'' hgrow hat hlt''
                  have O12 := Lib.hid (O16.out.push T11.out hlw11 hal11 hol11.out hown'' hgrow hat)
                  have hbel := grown_old hown11 hwl11 hgrow
                  have GO12 : Hid (Go1 c w w'' j11) := G15.out.old hbel hgl hbl h0l
                  have oc := (O16.out.grown hgrow).1
                  have of := (O16.out.grown hgrow).2
                  clear hown'' hgrow hat hlt'' hbel))
      all_goals
        have hlo12 : w.heap.size ≤ a3 := O12.out.1
        have GP12 := Lib.hid (GO12.out.set (p := ⟨a3, 3, none⟩) hlo12 hgl hbl h0l (.slice (some ⟨g, 0, none⟩) (vs.length + 1) cap))
        generalize hw12 : World.setCell w'' _ _ = u12
        have OP12 : Hid (Opn w.heap.size u12 a3 1 [] (.slice (some ⟨g, 0, none⟩) (vs.length + 1) cap) (vs ++ [.pointer (some ⟨v11, 0, none⟩)]) (kids ++ [t11])) := by rw [← hw12]; exact O12
        have G12 : Hid (Go1 c w u12 j11) := by rw [← hw12]; exact GP12
        have hjl := G12.out.1.le
        have D2 : Hid (∀ p, D c.E .program (c.R j11) (.error p) → D c.E .program (c.R k) (.error p)) := fun p h => DE.out p (D.mk2 D11.out h fun m h0 h1 => by rw [RC.out] at h0; simp only [body, RC.out, bnd, h0, h1])
        have D3 : Hid (∀ l R', D c.E .program (c.R j11) (.ok (bag l, R')) → D c.E .program (c.R k) (.ok (bag (kids ++ [t11] ++ l), R'))) := fun l R' h => by
          have := DL.out (t11 :: l) R' (D.mk2 D11.out h fun m h0 h1 => by rw [RC.out] at h0; simp only [body, RC.out, bnd, h0, h1, ret, Tr.kids])
          rwa [List.append_assoc]
        clear hi hz0 hz1' hz2 oc of oS hown11 oS11 oT11 GO12 GP12 O12 hw12
        go_wp2_with fail
        go_roundg (c.ts.length - j11)
        case measure => omega
        case rel => exact ⟨j11, .slice (some ⟨g, 0, none⟩) (vs.length + 1) cap, vs ++ [Value.pointer (some (Addr.mk v11 0 none))], kids ++ [t11], rfl, by omega, by rw [List.length_append]; show vs.length + 1 ≤ j11; omega, G12.out, OP12.out, D2.out, D3.out⟩
    · go_wp2_with fail
      go_region
      go_wp2_with fail
      go_ret
      have RN := R_nil c kj (by omega)
      have he : kj = c.ts.length := by omega
      subst he
      refine ⟨.ok (bag kids, []), ?_, _, rfl, rfl, GL2.out, OL2.out.isT⟩
      have := DL.out [] [] (D.mk0 fun m => by simp only [body, RN, ret])
      rwa [List.append_nil] at this
end Go.Proofs.YtnkfodelgpidkaaGreatDoor
