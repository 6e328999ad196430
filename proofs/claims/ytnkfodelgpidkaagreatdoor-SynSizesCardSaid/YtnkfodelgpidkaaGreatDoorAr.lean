/- Rows with commas between, and what stands between two signs. -/
import Derived.Test.YtnkfodelgpidkaaGreatDoorAc
namespace Go.Proofs.YtnkfodelgpidkaaGreatDoor
open Go.RowKit
set_option linter.unusedVariables false

theorem Acc.one {lo lo2 : Nat} {w : World} {x : Value} {t : Tr} (hx : IsT w (F lo2 w.heap.size) x t) (h2 : lo ≤ lo2) (hlo : lo ≤ w.heap.size) :
    Acc lo (w.alloc (.cells #[x] 59)) (.slice (some ⟨w.heap.size, 0, none⟩) 1 1) [x] [t] := by
  have hz : (w.alloc (.cells #[x] 59)).heap.size = w.heap.size + 1 := by simp
  refine ⟨⟨rfl, .inr ⟨w.heap.size, 1, #[x], rfl, hlo, ?_, Nat.le_refl _, by unfold maxLen; omega, rfl, rfl⟩⟩, F lo2 w.heap.size, IsTs.cons (hx.keep (fun _ h => h) fun i hi => Below.heap_alloc w _ i hi.2) (IsTs.nil _ _), fun i hi => ⟨Nat.le_trans h2 hi.1, by have := hi.2; omega⟩, fun g hg hs => ?_⟩
  · show (w.heap.push _)[w.heap.size]? = _; simp
  · have e : w.heap.size = g := by simpa [Value.ownBlock] using hg
    have := hs.2; omega

/-- What comes out of a call that tells a row, with its length. -/
def PostLb (c : Cx) (nt : NT) (k : Nat) (w : World) (e : Ending) (w' : World) : Prop :=
  ∃ r, D c.E nt (c.R k) r ∧ match r with
    | .error p => e = sflt p ∧ Off c.b w w'
    | .ok (t, R1) => ∃ j v vs S, R1 = c.R j ∧ k < j ∧ e = .returned v ∧ Go1 c w w' j ∧ w'.ownsRow w.heap.size 59 1 v vs.length vs ∧ IsTs w' S vs t.kids ∧ (∀ i, S i → F w.heap.size w'.heap.size i) ∧ (∀ g, v.ownBlock = some g → ¬ S g) ∧ vs.length ≤ j
theorem postLb_err {c : Cx} {nt : NT} {k : Nat} {w w' : World} {e : Ending} {p : Int} (h : D c.E nt (c.R k) (.error p)) (he : e = sflt p) (ho : Off c.b w w') : PostLb c nt k w e w' := ⟨_, h, he, ho⟩
def OkLb (c : Cx) (nt : NT) (f : Nat) (args : Array Value) (k : Nat) : Prop := ∀ w, In c w k → Calls Tryz.prog f args w (PostLb c nt k w)
theorem OkLb.ok {c : Cx} {nt : NT} {f : Nat} {args : Array Value} {k : Nat} (h : OkLb c nt f args k) : OkL c nt f args k := fun w hi => (h w hi).mono (by
  rintro e w1 ⟨r, hD, hr⟩
  rcases r with p | ⟨t, R1⟩
  · exact ⟨.error p, hD, hr⟩
  · obtain ⟨j, v, vs, S, h1, h2, h3, h4, h5, h6, h7, h8, _⟩ := hr
    exact ⟨.ok (t, R1), hD, j, v, vs, S, h1, h2, h3, h4, h5, h6, h7, h8⟩)
set_option maxRecDepth 100000 in
set_option maxHeartbeats 1000000 in
theorem row_any (c : Cx) (k : Nat) (it : NT) (f : Nat) (EG : ∀ args w, (callFunc f args).run Tryz.prog w = .ok (.enter f args) w) (IH : ∀ j, k ≤ j → Ok c it f #[c.p] j) :
    OkLb c (.row it) 193 #[c.p, .func (.func f) #[c.p] #[]] k := by
  intro w h
  have hbl := h.lt
  have hfew := h.ok.few
  have hgl := h.ltg
  have h0l := h.base.size
  have G0 : Hid (Go1 c w w k) := ⟨h, Off.refl _ _⟩
  have IHH := Lib.hid IH
  have hkl := h.le
  clear h IH
  go_enter Tryz.func193, Tryz.ntmps193
  go_wp2_with fail
  refine (IHH.out k (Nat.le_refl _) _ G0.out.1).mono ?_; rintro e w1 ⟨r, hD, hr⟩
  rcases r with p | ⟨t1, R1⟩
  · obtain ⟨rfl, hO⟩ := hr
    have HO := Lib.hid (G0.out.2.trans hO)
    have D1 := Lib.hid hD
    clear hD hO
    unfold sflt
    go_wp2_with fail
    exact bodyPost_panic rfl (postLb_err (show D c.E (.row it) (c.R k) (.error p) from D.mk1 D1.out fun m h0 => by simp only [body, bnd, h0]) rfl HO.out)
  · obtain ⟨j1, vv, rfl, hj1, rfl, hG, hT⟩ := hr
    obtain ⟨a1, rfl⟩ := hT.ptr
    have hwl1 : w.heap.size ≤ w1.heap.size := hG.2.size
    have hB1 : Below w1.heap.size w1 (w1.alloc (.cells #[.pointer (some ⟨a1, 0, none⟩)] 59)) := (Below.refl _ _).alloc (Nat.le_refl _) _
    have G1 : Hid (Go1 c w (w1.alloc (.cells #[.pointer (some ⟨a1, 0, none⟩)] 59)) j1) := ⟨hG.1.below hB1, hG.2.below hB1⟩
    have HA0 := Lib.hid (Acc.one hT (Nat.le_refl _) hwl1)
    have D1 := Lib.hid hD
    have hj1l := hG.1.le
    have DE0 : Hid (∀ p, D c.E (.rowMore it) (c.R j1) (.error p) → D c.E (.row it) (c.R k) (.error p)) := fun p h => D.mk2 D1.out h fun m h0 h1 => by simp only [body, bnd, h0, h1]
    have DL0 : Hid (∀ l R', D c.E (.rowMore it) (c.R j1) (.ok (bag l, R')) → D c.E (.row it) (c.R k) (.ok (bag ([t1] ++ l), R'))) := fun l R' h => D.mk2 D1.out h fun m h0 h1 => by simp only [body, bnd, h0, h1, ret, Tr.kids]; rfl
    clear hD hG hT hB1
    go_wp2_with fail
    go_loopg [5] (c.ts.length - j1) (fun g l wr => ∃ (kj : Nat) (vs : List Value) (kids : List Tr), g = c.ts.length - kj ∧ k < kj ∧ vs.length ≤ kj ∧ Hid (Go1 c w wr kj) ∧ Hid (Acc w.heap.size wr l vs kids) ∧ Hid (∀ p, D c.E (.rowMore it) (c.R kj) (.error p) → D c.E (.row it) (c.R k) (.error p)) ∧ Hid (∀ l R', D c.E (.rowMore it) (c.R kj) (.ok (bag l, R')) → D c.E (.row it) (c.R k) (.ok (bag (kids ++ l), R'))))
    case atStart => exact ⟨j1, _, _, rfl, hj1, by show 1 ≤ j1; omega, G1.out, HA0.out, DE0.out, DL0.out⟩
    case round =>
      obtain ⟨kj, vs, kids, rfl, hkj, hvs, GL, HA, DE, DL⟩ := hrel
      obtain ⟨ao, cp, rfl⟩ := HA.out.slice
      have hkl2 := GL.out.1.le
      cases hq : isF c.E [44] (c.R kj)
      · have Q1 := Lib.hid hq
        go_wp2_with fail
        refine (skip_no c kj ⟨#[44]⟩ _ GL.out.1 hq).mono ?_; rintro e w2 ⟨rfl, hB⟩
        have G2 : Hid (Go1 c w w2 kj) := ⟨GL.out.1.below hB, GL.out.2.below hB⟩
        have HA2 := Lib.hid (HA.out.off (Off.of_below hB) hbl)
        clear hB hq
        go_wp2_with fail
        go_ret
        obtain ⟨ho, S, h2, h3, h4⟩ := HA2.out
        exact ⟨.ok (bag kids, c.R kj), by have := DL.out [] (c.R kj) (D.mk0 fun m => by simp only [body, Q1.out, Bool.false_eq_true, if_false, ret]); rwa [List.append_nil] at this, kj, _, vs, S, rfl, hkj, rfl, G2.out, ho, h2, h3, h4, hvs⟩
      · have Q1 := Lib.hid hq
        go_wp2_with fail
        refine (skip_yes c kj ⟨#[44]⟩ (by decide) _ GL.out.1 hq).mono ?_; rintro e w2 ⟨rfl, hG⟩
        have G2 : Hid (Go1 c w w2 (kj + 1)) := ⟨hG.1, GL.out.2.trans hG.2⟩
        have HA2 := Lib.hid (HA.out.off hG.2 hbl)
        clear hG hq
        go_wp2_with fail
        refine (IHH.out (kj + 1) (by omega) _ G2.out.1).mono ?_; rintro e w3 ⟨r, hD, hr⟩
        rcases r with p | ⟨t, R1⟩
        · obtain ⟨rfl, hO⟩ := hr
          have HO := Lib.hid (G2.out.2.trans hO)
          have D2 := Lib.hid hD
          clear hD hO
          unfold sflt
          go_wp2_with fail
          exact bodyPost_panic rfl (postLb_err (DE.out p (D.mk1 D2.out fun m h0 => by simp only [body, Q1.out, if_true, R_tail, bnd, h0])) rfl HO.out)
        · obtain ⟨j2, vv, rfl, hj2, rfl, hG, hT⟩ := hr
          obtain ⟨a2, rfl⟩ := hT.ptr
          have G3 : Hid (Go1 c w w3 j2) := ⟨hG.1, G2.out.2.trans hG.2⟩
          have HA3 := Lib.hid (HA2.out.off hG.2 hbl)
          have HT := Lib.hid hT
          have hown := HA3.out.1
          have D2 := Lib.hid hD
          have hold : Hid (∀ i, (Value.slice ao vs.length cp).ownBlock = some i → i < w2.heap.size) := fun i hi => (HA2.out.1.lt i hi).2
          have hwl : w.heap.size ≤ w3.heap.size := G3.out.2.size
          have hj2l := G3.out.1.le
          clear hD hG hT
          obtain ⟨i0, hi, hz0, hz1', hz2⟩ := info_parts info_ptr
          go_wp2_with (at_builtin; refine wpList_append_lies _ rfl _ _ 87 rfl w.heap.size 59 i0 _ 1 8 Tryz.underlying87 hi hz0 hz1' hz2 rfl (by decide) _ _ _ rfl (hown.alloc _) ⟨w3.heap.size, 0, none⟩ 1 1 [.pointer (some ⟨a2, 0, none⟩)] rfl rfl ?c1 ?c2 (by decide) ?c3 ?c4 ?c5 (w3.heap.size + 1) (by simp) ?_)
          case c1 =>
            intro j u hj
            match j, hj with
            | 0, hj => simp at hj; subst hj; simp [Addr.add]
          case c2 => intro u hu; simp at hu; subst hu; rfl
          case c3 => unfold maxLen; omega
          case c4 => omega
          case c5 => simp; omega
          intro g cap w4 hown4 hgrow hat hlt4
          have hbel := grown_old hown hwl hgrow
          have G4 : Hid (Go1 c w w4 j2) := G3.out.old hbel hgl hbl h0l
          have HA4 := Lib.hid (HA3.out.push HT.out (Nat.le_trans G2.out.2.size (Nat.le_refl _)) hold.out _ hown4 hgrow hat)
          have E2 : Hid (∀ p, D c.E (.rowMore it) (c.R j2) (.error p) → D c.E (.row it) (c.R k) (.error p)) := fun p h => DE.out p (D.mk2 D2.out h fun m h0 h1 => by simp only [body, Q1.out, if_true, R_tail, bnd, h0, h1])
          have L2 : Hid (∀ l R', D c.E (.rowMore it) (c.R j2) (.ok (bag l, R')) → D c.E (.row it) (c.R k) (.ok (bag (kids ++ [t] ++ l), R'))) := fun l R' h => by
            have := DL.out (t :: l) R' (D.mk2 D2.out h fun m h0 h1 => by simp only [body, Q1.out, if_true, R_tail, bnd, h0, h1, ret, Tr.kids])
            rwa [List.append_assoc]
          clear hown4 hgrow hat hlt4 hbel hown hi hz0 hz1' hz2
          go_wp2_with fail
          go_roundg (c.ts.length - j2)
          case measure => omega
          case rel => exact ⟨j2, vs ++ [.pointer (some ⟨a2, 0, none⟩)], kids ++ [t], rfl, by omega, by rw [List.length_append]; show vs.length + 1 ≤ j2; omega, G4.out, by have := HA4.out; rw [List.length_append] at this; exact this, E2.out, L2.out⟩
end Go.Proofs.YtnkfodelgpidkaaGreatDoor
