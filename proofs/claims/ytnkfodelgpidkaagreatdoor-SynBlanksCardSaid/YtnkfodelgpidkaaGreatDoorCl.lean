/- What a call has: the called and its arguments. -/
import Derived.Test.YtnkfodelgpidkaaGreatDoorAt
import Derived.Lib.JoinLaws
namespace Go.Proofs.YtnkfodelgpidkaaGreatDoor
open Go.RowKit
set_option linter.unusedVariables false

theorem own_one {b : Nat} {w : World} {x : Value} (hb : b ≤ w.heap.size) : (w.alloc (.cells #[x] 59)).ownsRow b 59 1 (.slice (some ⟨w.heap.size, 0, none⟩) 1 1) 1 [x] := by
  refine ⟨rfl, .inr ⟨w.heap.size, 1, #[x], rfl, hb, ?_, Nat.le_refl _, by unfold maxLen; omega, rfl, rfl⟩⟩
  show (w.heap.push _)[w.heap.size]? = _; simp
/-- One row behind the other. -/
theorem Acc.join {lo lo2 : Nat} {w w3 : World} {v : Value} {vs us : List Value} {kids ks : List Tr} {S2 : Nat → Prop} {g cap : Nat} (h : Acc lo w v vs kids) (hx : IsTs w S2 us ks) (hS2 : ∀ i, S2 i → F lo2 w.heap.size i) (hlo : lo ≤ lo2)
    (hold : ∀ i, v.ownBlock = some i → i < lo2) (hown : w3.ownsRow lo 59 1 (.slice (some ⟨g, 0, none⟩) (vs.length + us.length) cap) (vs.length + us.length) (vs ++ us))
    (hgrow : w.grownBy w3 v.ownBlock) (hat : v.ownBlock = some g ∨ g = w.heap.size) :
    Acc lo w3 (.slice (some ⟨g, 0, none⟩) (vs ++ us).length cap) (vs ++ us) (kids ++ ks) := by
  obtain ⟨h1, S, h2, h3, h4⟩ := h
  have hz3 := hgrow.size
  have hS : ∀ i, S i ∨ S2 i → w3.heap[i]? = w.heap[i]? := by
    intro i hi
    have hlt : i < w.heap.size := by rcases hi with hi | hi; exact (h3 i hi).2; exact (hS2 i hi).2
    refine hgrow.block i hlt ?_
    intro e
    rcases hi with hi | hi
    · exact h4 i e.symm hi
    · have := hold i e.symm; have := (hS2 i hi).1; omega
  refine ⟨by rw [List.length_append]; exact hown, fun i => S i ∨ S2 i, ?_, ?_, ?_⟩
  · exact IsTs.append (h2.keep (fun _ h => .inl h) fun i hi => hS i (.inl hi)) (hx.keep (fun _ h => .inr h) fun i hi => hS i (.inr hi))
  · intro i hi
    rcases hi with hi | hi
    · exact ⟨(h3 i hi).1, by have := (h3 i hi).2; omega⟩
    · exact ⟨Nat.le_trans hlo (hS2 i hi).1, by have := (hS2 i hi).2; omega⟩
  · intro i hi hs
    have e : g = i := by simpa [Value.ownBlock] using hi
    subst e
    rcases hat with hat | hat
    · rcases hs with hs | hs
      · exact h4 g hat hs
      · have := hold g hat; have := (hS2 g hs).1; omega
    · rcases hs with hs | hs
      · have := (h3 g hs).2; omega
      · have := (hS2 g hs).2; omega

set_option maxRecDepth 100000 in
set_option maxHeartbeats 1000000 in
theorem called_any (c : Cx) (k : Nat) (ihl : ∀ j, k < j → OkLb c (.list [41] .assign) 144 #[c.p, .string ⟨#[41]⟩, .func (.func 199) #[c.p] #[]] j) : OkXL c .called 255 k := by
  intro w lo v0 t0 hlo hbl hT0 h
  have hfew := h.ok.few
  have hgl := h.ltg
  have h0l := h.base.size
  have G0 : Hid (Go1 c w w k) := ⟨h, Off.refl _ _⟩
  have T0 := Lib.hid hT0
  have IHL := Lib.hid ihl
  have hkl := h.le
  clear h hT0 ihl
  go_enter Tryz.func255, Tryz.ntmps255
  go_wp2_with fail
  cases hq : isF c.E [40] (c.R k)
  · refine (need_no c k ⟨#[40]⟩ _ G0.out.1 hq).mono ?_; rintro e w1 ⟨rfl, hB⟩
    have HO := Lib.hid (G0.out.2.below hB)
    have Q1 := Lib.hid hq
    clear hB hq
    unfold sflt
    go_wp2_with fail
    exact bodyPost_panic rfl ⟨_, (show D c.E (.called t0) (c.R k) (.error (c.T k).pos) from D.mk0 fun m => by simp only [body, Q1.out, need, Bool.false_eq_true, if_false, bad, R_hd]), rfl, HO.out⟩
  · refine (need_yes c k ⟨#[40]⟩ (by decide) _ G0.out.1 hq).mono ?_; rintro e w1 ⟨rfl, hG⟩
    have G1 : Hid (Go1 c w w1 (k + 1)) := ⟨hG.1, G0.out.2.trans hG.2⟩
    have T1 := Lib.hid (T0.out.off hG.2 hbl)
    have Q1 := Lib.hid hq
    clear hG hq
    go_wp2_with fail
    have hwl1 : w.heap.size ≤ w1.heap.size := G1.out.2.size
    have hB1 : Below w1.heap.size w1 (w1.alloc (.cells #[.pointer (some ⟨v0, 0, none⟩)] 59)) := (Below.refl _ _).alloc (Nat.le_refl _) _
    have hz1 : (w1.alloc (.cells #[.pointer (some ⟨v0, 0, none⟩)] 59)).heap.size = w1.heap.size + 1 := by simp
    have G2 : Hid (Go1 c w (w1.alloc (.cells #[.pointer (some ⟨v0, 0, none⟩)] 59)) (k + 1)) := ⟨G1.out.1.below hB1, G1.out.2.below hB1⟩
    have HA2 := Lib.hid (Acc.one T1.out (Nat.le_refl _) (Nat.le_trans hlo hwl1))
    have HW2 : Hid ((w1.alloc (.cells #[.pointer (some ⟨v0, 0, none⟩)] 59)).ownsRow w.heap.size 59 1 (.slice (some ⟨w1.heap.size, 0, none⟩) 1 1) 1 [.pointer (some ⟨v0, 0, none⟩)]) := own_one hwl1
    have hbw : c.b < w.heap.size := G0.out.1.lt
    clear hB1
    generalize w1.alloc (.cells #[.pointer (some ⟨v0, 0, none⟩)] 59) = w2 at *
    refine (IHL.out (k + 1) (by omega) _ G2.out.1).mono ?_; rintro e w3 ⟨r, hD, hr⟩
    rcases r with p | ⟨t, R1⟩
    · obtain ⟨rfl, hO⟩ := hr
      have HO := Lib.hid (G2.out.2.trans hO)
      have D1 := Lib.hid hD
      clear hD hO
      unfold sflt
      go_wp2_with fail
      exact bodyPost_panic rfl ⟨_, (show D c.E (.called t0) (c.R k) (.error p) from D.mk1 D1.out fun m h0 => by simp only [body, Q1.out, need, if_true, R_tail, bnd, h0]), rfl, HO.out⟩
    · obtain ⟨j, v, vs, S, rfl, hj, rfl, hG, hW, hK, hS, hN, hvs⟩ := hr
      have G3 : Hid (Go1 c w w3 j) := ⟨hG.1, G2.out.2.trans hG.2⟩
      have HA3 := Lib.hid (HA2.out.off hG.2 hbl)
      have HW3 := Lib.hid (own_offN HW2.out hG.2 hbw)
      have hz3 := hG.2.size
      have D1 := Lib.hid hD
      have HK := Lib.hid hK
      have HS := Lib.hid hS
      have HDD : Hid (D c.E (.called t0) (c.R k) (.ok (bag (t0 :: t.kids), c.R j))) := D.mk1 D1.out fun m h0 => by simp only [body, Q1.out, need, if_true, R_tail, bnd, h0, ret]
      have hjl := G3.out.1.le
      obtain ⟨i0, hi, hz0, hz1', hz2⟩ := info_parts info_ptr
      by_cases hm : vs.length = 0
      · have hv0 : vs = [] := List.eq_nil_of_length_eq_zero hm
        subst hv0
        have HKK : Hid (t.kids = []) := List.eq_nil_of_length_eq_zero (by have := hK.1; simpa using this.symm)
        have hsrc : ∃ ao cp, v = .slice ao 0 cp ∧ Src Tryz.prog 1 87 v 0 [] w3 := by
          rcases hW.2 with ⟨rfl, _⟩ | ⟨g, cp, cur, rfl, _⟩
          · exact ⟨_, _, rfl, Src.ofNil _ Tryz.underlying87 _⟩
          · exact ⟨_, _, rfl, Src.ofSlice _ Tryz.underlying87 _ _ _ [] rfl (fun j u h => by simp at h) (fun u h => by simp at h)⟩
        obtain ⟨ao, cp, rfl, hsrc⟩ := hsrc
        clear hD hG hW hK hS hN
        go_wp2_with (at_builtin; refine wpList_append_room1 w3 rfl _ _ 87 87 rfl 59 _ 8 Tryz.underlying87 info_ptr w1.heap.size 0 1 1 rfl _ rfl 0 [] hsrc (by decide) (fun j h => by cases h) (fun j h => by cases h) ?_)
        rw [show World.setCells w3 w1.heap.size (0 + 1) [] = w3 from rfl]
        clear hi hz0 hz1' hz2 hsrc
        go_wp2_with fail
        go_ret
        obtain ⟨ho, S, h2, h3, h4⟩ := HA3.out
        exact ⟨_, HDD.out, j, _, [.pointer (some ⟨v0, 0, none⟩)], S, rfl, by omega, rfl, G3.out, ho, by rw [HKK.out]; exact h2, h3, h4⟩
      · obtain ⟨g2, cp2, rfl, hg2, hg2'⟩ := hW.form (by omega)
        have hcells : ∀ j u, vs[j]? = some u → w3.cell? ((⟨g2, 0, none⟩ : Addr).add j) = some u := fun j u hu => by
          have hj := (List.getElem?_eq_some_iff.1 hu).1
          rw [show (⟨g2, 0, none⟩ : Addr).add j = ⟨g2, j, none⟩ by unfold Addr.add; split <;> simp_all]
          exact (hW.cellAt j (by omega)).trans hu
        have hone : ∀ u ∈ vs, u.oneCell' = true := fun u hu => by
          obtain ⟨i, hi, rfl⟩ := List.mem_iff_getElem.1 hu
          have h2 : i < t.kids.length := by rw [← hK.1]; exact hi
          obtain ⟨a, ha⟩ := (hK.2 i hi h2).ptr
          rw [ha]; rfl
        have hold : Hid (∀ i, (Value.slice (some ⟨w1.heap.size, 0, none⟩) 1 1).ownBlock = some i → i < w2.heap.size) := fun i hi => (HW2.out.lt i hi).2
        have hown := HW3.out
        clear hD hG hK hS hN
        have hlo2 : lo ≤ w2.heap.size := by omega
        go_wp2_with (at_builtin; refine wpList_append_lies _ rfl _ _ 87 rfl w.heap.size 59 i0 _ 1 8 Tryz.underlying87 hi hz0 hz1' hz2 rfl (by decide) _ _ _ rfl hown ⟨g2, 0, none⟩ vs.length cp2 vs rfl (by rw [Nat.mul_one]) hcells hone ?c2 ?c3 ?c4 ?c5 w3.heap.size rfl ?_)
        case c2 => omega
        case c3 => unfold maxLen; omega
        case c4 => omega
        case c5 => omega
        intro g cap w4 hown4 hgrow hat hlt4
        have hbel : Below w.heap.size w3 w4 := (Below.refl _ _).grown hgrow (by omega) (fun k hk => (hown.lt k hk).1)
        have G4 : Hid (Go1 c w w4 j) := G3.out.old hbel hgl hbw h0l
        have HA4 := Lib.hid (HA3.out.join HK.out HS.out hlo2 hold.out (own_mono hown4 hlo) hgrow hat)
        clear hown4 hgrow hat hlt4 hbel hown hi hz0 hz1' hz2 hcells hone hW
        go_wp2_with fail
        go_ret
        obtain ⟨ho, S, h2, h3, h4⟩ := HA4.out
        have hl : ([Value.pointer (some ⟨v0, 0, none⟩)] ++ vs).length = 1 + vs.length := by rw [List.length_append]; rfl
        exact ⟨_, HDD.out, j, _, [Value.pointer (some ⟨v0, 0, none⟩)] ++ vs, S, rfl, by omega, rfl, G4.out, by have h5 := ho; rw [hl] at h5 ⊢; exact h5, h2, h3, by rw [hl] at h4; exact h4⟩
end Go.Proofs.YtnkfodelgpidkaaGreatDoor
