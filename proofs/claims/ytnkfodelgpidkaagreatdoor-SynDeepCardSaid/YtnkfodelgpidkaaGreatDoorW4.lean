/- Part of a proof that the program keeps SynDeep: contracts of its functions and of the document's. -/
import Derived.Test.YtnkfodelgpidkaaGreatDoorW3
import Derived.Lib.JoinLaws
set_option maxRecDepth 100000
set_option maxHeartbeats 4000000
set_option linter.unusedVariables false
set_option linter.unusedSimpArgs false
namespace Go.Proofs.YtnkfodelgpidkaaGreatDoor
open Go.RowKit
def Acc (lo : Nat) (w : World) (v : Value) (vs : List Value) (kids : List Tr) : Prop :=
 w.ownsRow lo 59 1 v vs.length vs ∧ ∃ S : Nat → Prop, IsTs w S vs kids ∧ (∀ i, S i → F lo w.heap.size i) ∧ ∀ g, v.ownBlock = some g → ¬ S g
theorem Acc.nil (lo : Nat) (w : World) : Acc lo w (.slice none 0 0) [] [] :=
 ⟨World.ownsRow_nil _ _ _ _, fun _ => False, IsTs.nil _ _, fun _ h => h.elim, fun _ _ h => h⟩
theorem own_offN {b lo : Nat} {w w' : World} {v : Value} {n : Nat} {xs : List Value} (h : w.ownsRow lo 59 1 v n xs) (ho : Off b w w') (hb : b < lo) : w'.ownsRow lo 59 1 v n xs := by
 refine h.kept (row := some b) ⟨ho.os, ho.tape, ho.output, ho.size, fun k hk hr => ho.block k hk (fun e => hr (by rw [e]))⟩ ?_
 cases hv : v.ownBlock with
 | none => exact .inl rfl
 | some g => exact .inr (fun e => by injection e with e; have := (h.lt g hv).1; omega)
theorem Acc.off {b lo : Nat} {w w' : World} {v : Value} {vs : List Value} {kids : List Tr} (h : Acc lo w v vs kids) (ho : Off b w w') (hb : b < lo) : Acc lo w' v vs kids := by
 obtain ⟨h1, S, h2, h3, h4⟩ := h
 exact ⟨own_offN h1 ho hb, S, h2.keep (fun _ h => h) fun i hi => ho.block i (h3 i hi).2 (by have := (h3 i hi).1; omega), fun i hi => F.mono (Nat.le_refl _) ho.size i (h3 i hi), h4⟩
theorem Acc.slice {lo : Nat} {w : World} {v : Value} {vs : List Value} {kids : List Tr} (h : Acc lo w v vs kids) : ∃ ao cp, v = .slice ao vs.length cp := own_slice h.1
theorem Acc.push {lo lo2 : Nat} {w w3 : World} {v x : Value} {vs : List Value} {kids : List Tr} {t : Tr} {g cap : Nat} (h : Acc lo w v vs kids) (hx : IsT w (F lo2 w.heap.size) x t) (hlo : lo ≤ lo2)
  (hold : ∀ i, v.ownBlock = some i → i < lo2) (T : TypeId) (hown : w3.ownsRow lo 59 1 (.slice (some ⟨g, 0, none⟩) (vs.length + 1) cap) (vs.length + 1) (vs ++ [x]))
  (hgrow : (w.alloc (.cells #[x] T)).grownBy w3 v.ownBlock) (hat : v.ownBlock = some g ∨ g = w.heap.size + 1) :
  Acc lo w3 (.slice (some ⟨g, 0, none⟩) (vs ++ [x]).length cap) (vs ++ [x]) (kids ++ [t]) := by
 obtain ⟨h1, S, h2, h3, h4⟩ := h
 have hz : (w.alloc (.cells #[x] T)).heap.size = w.heap.size + 1 := by simp
 have hz3 := hgrow.size
 have hS : ∀ i, S i ∨ F lo2 w.heap.size i → w3.heap[i]? = w.heap[i]? := by
  intro i hi
  have hlt : i < w.heap.size := by rcases hi with hi | hi; exact (h3 i hi).2; exact hi.2
  refine (hgrow.block i (by omega) ?_).trans (Below.heap_alloc w _ i hlt)
  intro e
  rcases hi with hi | hi
  ·exact h4 i e.symm hi
  ·have := hold i e.symm; have := hi.1; omega
 refine ⟨by rw [List.length_append]; exact hown, fun i => S i ∨ F lo2 w.heap.size i, ?_, ?_, ?_⟩
 ·exact IsTs.append (h2.keep (fun _ h => .inl h) fun i hi => hS i (.inl hi)) (IsTs.cons (hx.keep (fun _ h => .inr h) fun i hi => hS i (.inr hi)) (IsTs.nil _ _))
 ·intro i hi
  rcases hi with hi | hi
  ·exact ⟨(h3 i hi).1, by have := (h3 i hi).2; omega⟩
  ·exact ⟨Nat.le_trans hlo hi.1, by have := hi.2; omega⟩
 ·intro i hi hs
  have e : g = i := by simpa [Value.ownBlock] using hi
  subst e
  rcases hat with hat | hat
  ·rcases hs with hs | hs
   ·exact h4 g hat hs
   ·have := hold g hat; have := hs.1; omega
  ·rcases hs with hs | hs
   ·have := (h3 g hs).2; omega
   ·have := hs.2; omega
theorem Go1.old {c : Cx} {w w' w'' : World} {k : Nat} (h : Go1 c w w' k) (hb : Below w.heap.size w' w'') (hg : c.g < w.heap.size) (hl : c.b < w.heap.size) (h0 : c.w0.heap.size ≤ w.heap.size) : Go1 c w w'' k :=
 ⟨⟨(hb.block _ hl).trans h.1.rd, (hb.block _ hg).trans h.1.row, h.1.le, h.1.ok, h.1.base.trans (hb.mono h0)⟩, h.2.belowAt hb⟩
theorem info_ptr : (Tryz.prog.info? 59).map (fun i => (i.zero, i.size, i.bytes)) = some (some (.pointer none), 1, 8) := by kernel_rfl
theorem grown_old {lo : Nat} {w w3 : World} {v x : Value} {n : Nat} {xs : List Value} {T : TypeId} (hown : w.ownsRow lo 59 1 v n xs) (hlo : lo ≤ w.heap.size) (hgrow : (w.alloc (.cells #[x] T)).grownBy w3 v.ownBlock) : Below lo w w3 :=
 ((Below.refl lo w).alloc hlo _).grown hgrow (by simp; omega) (fun k hk => (hown.lt k hk).1)
theorem until_any (c : Cx) (k : Nat) (stop : List UInt8) (hst : stop ≠ []) (it : NT) (f : Nat) (EG : ∀ args w, (callFunc f args).run Tryz.prog w = .ok (.enter f args) w) (IH : ∀ j, k ≤ j → Ok c it f #[c.p] j) :
  OkL c (.untl stop it) 146 #[c.p, .string (bs stop), .func (.func f) #[c.p] #[]] k := by
 intro w h
 have hbl := h.lt
 have hfew := h.ok.few
 have hgl := h.ltg
 have h0l := h.base.size
 have G0 : Hid (Go1 c w w k) := ⟨h, Off.refl _ _⟩
 have IHH := Lib.hid IH
 have hkl := h.le
 clear h IH
 go_enter Tryz.func146, Tryz.ntmps146
 go_wp2_with fail
 have HST := Lib.hid hst
 go_loopg [7] (c.ts.length - k) (fun g l wr => ∃ (kj : Nat) (vs : List Value) (kids : List Tr), g = c.ts.length - kj ∧ k ≤ kj ∧ vs.length ≤ kj ∧ Hid (Go1 c w wr kj) ∧ Hid (Acc w.heap.size wr l vs kids) ∧ Hid (∀ p, D c.E (.untl stop it) (c.R kj) (.error p) → D c.E (.untl stop it) (c.R k) (.error p)) ∧ Hid (∀ l R', D c.E (.untl stop it) (c.R kj) (.ok (bag l, R')) → D c.E (.untl stop it) (c.R k) (.ok (bag (kids ++ l), R'))))
 case atStart => exact ⟨k, [], [], rfl, Nat.le_refl _, Nat.zero_le _, G0.out, Acc.nil _ _, fun p h => h, fun l R' h => h⟩
 case round =>
  obtain ⟨kj, vs, kids, rfl, hkj, hvs, GL, HA, DE, DL⟩ := hrel
  obtain ⟨ao, cp, rfl⟩ := HA.out.slice
  have hkl2 := GL.out.1.le
  cases hq : isF c.E stop (c.R kj)
  ·have Q1 := Lib.hid hq
   go_wp2_with fail
   refine (skip_no c kj (bs stop) _ GL.out.1 hq).mono ?_; rintro e w1 ⟨rfl, hB⟩
   have G1 : Hid (Go1 c w w1 kj) := ⟨GL.out.1.below hB, GL.out.2.below hB⟩
   have HA1 := Lib.hid (HA.out.off (Off.of_below hB) hbl)
   clear hB hq
   go_wp2_with fail
   refine (IHH.out kj hkj _ G1.out.1).mono ?_; rintro e w2 ⟨r, hD, hr⟩
   rcases r with p | ⟨t, R1⟩
   ·obtain ⟨rfl, hO⟩ := hr
    have HO := Lib.hid (G1.out.2.trans hO)
    have D1 := Lib.hid hD
    clear hD hO
    unfold sflt
    go_wp2_with fail
    exact bodyPost_panic rfl (postL_err (DE.out p (D.mk1 D1.out fun m h0 => by simp only [body, Q1.out, Bool.false_eq_true, if_false, bnd, h0])) rfl HO.out)
   ·obtain ⟨j2, vv, rfl, hj2, rfl, hG, hT⟩ := hr
    obtain ⟨a2, rfl⟩ := hT.ptr
    have G2 : Hid (Go1 c w w2 j2) := ⟨hG.1, G1.out.2.trans hG.2⟩
    have HA2 := Lib.hid (HA1.out.off hG.2 hbl)
    have HT := Lib.hid hT
    have hown := HA2.out.1
    have D1 := Lib.hid hD
    have hold : Hid (∀ i, (Value.slice ao vs.length cp).ownBlock = some i → i < w1.heap.size) := fun i hi => (HA1.out.1.lt i hi).2
    have hwl : w.heap.size ≤ w2.heap.size := G2.out.2.size
    have hj2l := G2.out.1.le
    clear hD hG hT
    obtain ⟨i0, hi, hz0, hz1', hz2⟩ := info_parts info_ptr
    go_wp2_with (at_builtin; refine wpList_append_lies _ rfl _ _ 87 rfl w.heap.size 59 i0 _ 1 8 Tryz.underlying87 hi hz0 hz1' hz2 rfl (by decide) _ _ _ rfl (hown.alloc _) ⟨w2.heap.size, 0, none⟩ 1 1 [.pointer (some ⟨a2, 0, none⟩)] rfl rfl ?c1 ?c2 (by decide) ?c3 ?c4 ?c5 (w2.heap.size + 1) (by simp) ?_)
    case c1 =>
     intro j u hj
     match j, hj with
     | 0, hj => simp at hj; subst hj; simp [Addr.add]
    case c2 => intro u hu; simp at hu; subst hu; rfl
    case c3 => unfold maxLen; omega
    case c4 => omega
    case c5 => simp; omega
    intro g cap w3 hown3 hgrow hat hlt3
    have hbel := grown_old hown hwl hgrow
    have G3 : Hid (Go1 c w w3 j2) := G2.out.old hbel hgl hbl h0l
    have HA3 := Lib.hid (HA2.out.push HT.out (Nat.le_trans G1.out.2.size (Nat.le_refl _)) hold.out _ hown3 hgrow hat)
    have D2 : Hid (∀ p, D c.E (.untl stop it) (c.R j2) (.error p) → D c.E (.untl stop it) (c.R k) (.error p)) := fun p h => DE.out p (D.mk2 D1.out h fun m h0 h1 => by simp only [body, Q1.out, Bool.false_eq_true, if_false, bnd, h0, h1])
    have D3 : Hid (∀ l R', D c.E (.untl stop it) (c.R j2) (.ok (bag l, R')) → D c.E (.untl stop it) (c.R k) (.ok (bag (kids ++ [t] ++ l), R'))) := fun l R' h => by
     have := DL.out (t :: l) R' (D.mk2 D1.out h fun m h0 h1 => by simp only [body, Q1.out, Bool.false_eq_true, if_false, bnd, h0, h1, ret, Tr.kids])
     rwa [List.append_assoc]
    clear hown3 hgrow hat hlt3 hbel hown hi hz0 hz1' hz2
    go_wp2_with fail
    go_roundg (c.ts.length - j2)
    case measure => omega
    case rel => exact ⟨j2, vs ++ [.pointer (some ⟨a2, 0, none⟩)], kids ++ [t], rfl, by omega, by rw [List.length_append]; show vs.length + 1 ≤ j2; omega, G3.out, by have := HA3.out; rw [List.length_append] at this; exact this, D2.out, D3.out⟩
  ·have Q1 := Lib.hid hq
   go_wp2_with fail
   refine (skip_yes c kj (bs stop) HST.out _ GL.out.1 hq).mono ?_; rintro e w1 ⟨rfl, hG⟩
   have G1 : Hid (Go1 c w w1 (kj + 1)) := ⟨hG.1, GL.out.2.trans hG.2⟩
   have HA1 := Lib.hid (HA.out.off hG.2 hbl)
   clear hG hq
   go_wp2_with fail
   go_ret
   obtain ⟨ho, S, h2, h3, h4⟩ := HA1.out
   exact ⟨.ok (bag kids, c.R (kj + 1)), by have := DL.out [] (c.R (kj + 1)) (D.mk0 fun m => by simp only [body, Q1.out, if_true, ret, R_tail]); rwa [List.append_nil] at this, kj + 1, _, vs, S, rfl, by omega, rfl, G1.out, ho, h2, h3, h4⟩
end Go.Proofs.YtnkfodelgpidkaaGreatDoor
namespace Go.Proofs.YtnkfodelgpidkaaGreatDoor
open Go.RowKit
theorem Acc.one {lo lo2 : Nat} {w : World} {x : Value} {t : Tr} (hx : IsT w (F lo2 w.heap.size) x t) (h2 : lo ≤ lo2) (hlo : lo ≤ w.heap.size) :
  Acc lo (w.alloc (.cells #[x] 59)) (.slice (some ⟨w.heap.size, 0, none⟩) 1 1) [x] [t] := by
 have hz : (w.alloc (.cells #[x] 59)).heap.size = w.heap.size + 1 := by simp
 refine ⟨⟨rfl, .inr ⟨w.heap.size, 1, #[x], rfl, hlo, ?_, Nat.le_refl _, by unfold maxLen; omega, rfl, rfl⟩⟩, F lo2 w.heap.size, IsTs.cons (hx.keep (fun _ h => h) fun i hi => Below.heap_alloc w _ i hi.2) (IsTs.nil _ _), fun i hi => ⟨Nat.le_trans h2 hi.1, by have := hi.2; omega⟩, fun g hg hs => ?_⟩
 ·show (w.heap.push _)[w.heap.size]? = _; simp
 ·have e : w.heap.size = g := by simpa [Value.ownBlock] using hg
  have := hs.2; omega
def PostLb (c : Cx) (nt : NT) (k : Nat) (w : World) (e : Ending) (w' : World) : Prop :=
 ∃ r, D c.E nt (c.R k) r ∧ match r with
  | .error p => e = sflt p ∧ Off c.b w w'
  | .ok (t, R1) => ∃ j v vs S, R1 = c.R j ∧ k < j ∧ e = .returned v ∧ Go1 c w w' j ∧ w'.ownsRow w.heap.size 59 1 v vs.length vs ∧ IsTs w' S vs t.kids ∧ (∀ i, S i → F w.heap.size w'.heap.size i) ∧ (∀ g, v.ownBlock = some g → ¬ S g) ∧ vs.length ≤ j
theorem postLb_err {c : Cx} {nt : NT} {k : Nat} {w w' : World} {e : Ending} {p : Int} (h : D c.E nt (c.R k) (.error p)) (he : e = sflt p) (ho : Off c.b w w') : PostLb c nt k w e w' := ⟨_, h, he, ho⟩
def OkLb (c : Cx) (nt : NT) (f : Nat) (args : Array Value) (k : Nat) : Prop := ∀ w, In c w k → Calls Tryz.prog f args w (PostLb c nt k w)
theorem OkLb.ok {c : Cx} {nt : NT} {f : Nat} {args : Array Value} {k : Nat} (h : OkLb c nt f args k) : OkL c nt f args k := fun w hi => (h w hi).mono (by
  rintro e w1 ⟨r, hD, hr⟩
  rcases r with p | ⟨t, R1⟩
  · exact ⟨.error p, hD, hr⟩
  · obtain ⟨j, v, vs, S, h1, h2, h3, h4, h5, h6, h7, h8, _⟩ := hr
    exact ⟨.ok (t, R1), hD, j, v, vs, S, h1, h2, h3, h4, h5, h6, h7, h8⟩)
theorem row_any (c : Cx) (k : Nat) (it : NT) (f : Nat) (EG : ∀ args w, (callFunc f args).run Tryz.prog w = .ok (.enter f args) w) (IH : ∀ j, k ≤ j → Ok c it f #[c.p] j) :
  OkLb c (.row it) 193 #[c.p, .func (.func f) #[c.p] #[]] k := by
 intro w h
 have hbl := h.lt
 have hfew := h.ok.few
 have hgl := h.ltg
 have h0l := h.base.size
 have G0 : Hid (Go1 c w w k) := ⟨h, Off.refl _ _⟩
 have IHH := Lib.hid IH
 have hkl := h.le
 clear h IH
 go_enter Tryz.func193, Tryz.ntmps193
 go_wp2_with fail
 refine (IHH.out k (Nat.le_refl _) _ G0.out.1).mono ?_; rintro e w1 ⟨r, hD, hr⟩
 rcases r with p | ⟨t1, R1⟩
 ·obtain ⟨rfl, hO⟩ := hr
  have HO := Lib.hid (G0.out.2.trans hO)
  have D1 := Lib.hid hD
  clear hD hO
  unfold sflt
  go_wp2_with fail
  exact bodyPost_panic rfl (postLb_err (show D c.E (.row it) (c.R k) (.error p) from D.mk1 D1.out fun m h0 => by simp only [body, bnd, h0]) rfl HO.out)
 ·obtain ⟨j1, vv, rfl, hj1, rfl, hG, hT⟩ := hr
  obtain ⟨a1, rfl⟩ := hT.ptr
  have hwl1 : w.heap.size ≤ w1.heap.size := hG.2.size
  have hB1 : Below w1.heap.size w1 (w1.alloc (.cells #[.pointer (some ⟨a1, 0, none⟩)] 59)) := (Below.refl _ _).alloc (Nat.le_refl _) _
  have G1 : Hid (Go1 c w (w1.alloc (.cells #[.pointer (some ⟨a1, 0, none⟩)] 59)) j1) := ⟨hG.1.below hB1, hG.2.below hB1⟩
  have HA0 := Lib.hid (Acc.one hT (Nat.le_refl _) hwl1)
  have D1 := Lib.hid hD
  have hj1l := hG.1.le
  have DE0 : Hid (∀ p, D c.E (.rowMore it) (c.R j1) (.error p) → D c.E (.row it) (c.R k) (.error p)) := fun p h => D.mk2 D1.out h fun m h0 h1 => by simp only [body, bnd, h0, h1]
  have DL0 : Hid (∀ l R', D c.E (.rowMore it) (c.R j1) (.ok (bag l, R')) → D c.E (.row it) (c.R k) (.ok (bag ([t1] ++ l), R'))) := fun l R' h => D.mk2 D1.out h fun m h0 h1 => by simp only [body, bnd, h0, h1, ret, Tr.kids]; rfl
  clear hD hG hT hB1
  go_wp2_with fail
  go_loopg [5] (c.ts.length - j1) (fun g l wr => ∃ (kj : Nat) (vs : List Value) (kids : List Tr), g = c.ts.length - kj ∧ k < kj ∧ vs.length ≤ kj ∧ Hid (Go1 c w wr kj) ∧ Hid (Acc w.heap.size wr l vs kids) ∧ Hid (∀ p, D c.E (.rowMore it) (c.R kj) (.error p) → D c.E (.row it) (c.R k) (.error p)) ∧ Hid (∀ l R', D c.E (.rowMore it) (c.R kj) (.ok (bag l, R')) → D c.E (.row it) (c.R k) (.ok (bag (kids ++ l), R'))))
  case atStart => exact ⟨j1, _, _, rfl, hj1, by show 1 ≤ j1; omega, G1.out, HA0.out, DE0.out, DL0.out⟩
  case round =>
   obtain ⟨kj, vs, kids, rfl, hkj, hvs, GL, HA, DE, DL⟩ := hrel
   obtain ⟨ao, cp, rfl⟩ := HA.out.slice
   have hkl2 := GL.out.1.le
   cases hq : isF c.E [44] (c.R kj)
   ·have Q1 := Lib.hid hq
    go_wp2_with fail
    refine (skip_no c kj ⟨#[44]⟩ _ GL.out.1 hq).mono ?_; rintro e w2 ⟨rfl, hB⟩
    have G2 : Hid (Go1 c w w2 kj) := ⟨GL.out.1.below hB, GL.out.2.below hB⟩
    have HA2 := Lib.hid (HA.out.off (Off.of_below hB) hbl)
    clear hB hq
    go_wp2_with fail
    go_ret
    obtain ⟨ho, S, h2, h3, h4⟩ := HA2.out
    exact ⟨.ok (bag kids, c.R kj), by have := DL.out [] (c.R kj) (D.mk0 fun m => by simp only [body, Q1.out, Bool.false_eq_true, if_false, ret]); rwa [List.append_nil] at this, kj, _, vs, S, rfl, hkj, rfl, G2.out, ho, h2, h3, h4, hvs⟩
   ·have Q1 := Lib.hid hq
    go_wp2_with fail
    refine (skip_yes c kj ⟨#[44]⟩ (by decide) _ GL.out.1 hq).mono ?_; rintro e w2 ⟨rfl, hG⟩
    have G2 : Hid (Go1 c w w2 (kj + 1)) := ⟨hG.1, GL.out.2.trans hG.2⟩
    have HA2 := Lib.hid (HA.out.off hG.2 hbl)
    clear hG hq
    go_wp2_with fail
    refine (IHH.out (kj + 1) (by omega) _ G2.out.1).mono ?_; rintro e w3 ⟨r, hD, hr⟩
    rcases r with p | ⟨t, R1⟩
    ·obtain ⟨rfl, hO⟩ := hr
     have HO := Lib.hid (G2.out.2.trans hO)
     have D2 := Lib.hid hD
     clear hD hO
     unfold sflt
     go_wp2_with fail
     exact bodyPost_panic rfl (postLb_err (DE.out p (D.mk1 D2.out fun m h0 => by simp only [body, Q1.out, if_true, R_tail, bnd, h0])) rfl HO.out)
    ·obtain ⟨j2, vv, rfl, hj2, rfl, hG, hT⟩ := hr
     obtain ⟨a2, rfl⟩ := hT.ptr
     have G3 : Hid (Go1 c w w3 j2) := ⟨hG.1, G2.out.2.trans hG.2⟩
     have HA3 := Lib.hid (HA2.out.off hG.2 hbl)
     have HT := Lib.hid hT
     have hown := HA3.out.1
     have D2 := Lib.hid hD
     have hold : Hid (∀ i, (Value.slice ao vs.length cp).ownBlock = some i → i < w2.heap.size) := fun i hi => (HA2.out.1.lt i hi).2
     have hwl : w.heap.size ≤ w3.heap.size := G3.out.2.size
     have hj2l := G3.out.1.le
     clear hD hG hT
     obtain ⟨i0, hi, hz0, hz1', hz2⟩ := info_parts info_ptr
     go_wp2_with (at_builtin; refine wpList_append_lies _ rfl _ _ 87 rfl w.heap.size 59 i0 _ 1 8 Tryz.underlying87 hi hz0 hz1' hz2 rfl (by decide) _ _ _ rfl (hown.alloc _) ⟨w3.heap.size, 0, none⟩ 1 1 [.pointer (some ⟨a2, 0, none⟩)] rfl rfl ?c1 ?c2 (by decide) ?c3 ?c4 ?c5 (w3.heap.size + 1) (by simp) ?_)
     case c1 =>
      intro j u hj
      match j, hj with
      | 0, hj => simp at hj; subst hj; simp [Addr.add]
     case c2 => intro u hu; simp at hu; subst hu; rfl
     case c3 => unfold maxLen; omega
     case c4 => omega
     case c5 => simp; omega
     intro g cap w4 hown4 hgrow hat hlt4
     have hbel := grown_old hown hwl hgrow
     have G4 : Hid (Go1 c w w4 j2) := G3.out.old hbel hgl hbl h0l
     have HA4 := Lib.hid (HA3.out.push HT.out (Nat.le_trans G2.out.2.size (Nat.le_refl _)) hold.out _ hown4 hgrow hat)
     have E2 : Hid (∀ p, D c.E (.rowMore it) (c.R j2) (.error p) → D c.E (.row it) (c.R k) (.error p)) := fun p h => DE.out p (D.mk2 D2.out h fun m h0 h1 => by simp only [body, Q1.out, if_true, R_tail, bnd, h0, h1])
     have L2 : Hid (∀ l R', D c.E (.rowMore it) (c.R j2) (.ok (bag l, R')) → D c.E (.row it) (c.R k) (.ok (bag (kids ++ [t] ++ l), R'))) := fun l R' h => by
      have := DL.out (t :: l) R' (D.mk2 D2.out h fun m h0 h1 => by simp only [body, Q1.out, if_true, R_tail, bnd, h0, h1, ret, Tr.kids])
      rwa [List.append_assoc]
     clear hown4 hgrow hat hlt4 hbel hown hi hz0 hz1' hz2
     go_wp2_with fail
     go_roundg (c.ts.length - j2)
     case measure => omega
     case rel => exact ⟨j2, vs ++ [.pointer (some ⟨a2, 0, none⟩)], kids ++ [t], rfl, by omega, by rw [List.length_append]; show vs.length + 1 ≤ j2; omega, G4.out, by have := HA4.out; rw [List.length_append] at this; exact this, E2.out, L2.out⟩
end Go.Proofs.YtnkfodelgpidkaaGreatDoor
namespace Go.Proofs.YtnkfodelgpidkaaGreatDoor
open Go.RowKit
theorem list_any (c : Cx) (k : Nat) (stop : List UInt8) (hst : stop ≠ []) (it : NT) (f : Nat) (IH : OkLb c (.row it) 193 #[c.p, .func (.func f) #[c.p] #[]] k) :
  OkLb c (.list stop it) 144 #[c.p, .string (bs stop), .func (.func f) #[c.p] #[]] k := by
 intro w h
 have hbl := h.lt
 have hfew := h.ok.few
 have G0 : Hid (Go1 c w w k) := ⟨h, Off.refl _ _⟩
 have IHH := Lib.hid IH
 have HST := Lib.hid hst
 have hkl := h.le
 clear h IH
 go_enter Tryz.func144, Tryz.ntmps144
 go_wp2_with fail
 cases hq : isF c.E stop (c.R k)
 ·have Q1 := Lib.hid hq
  refine (skip_no c k (bs stop) _ G0.out.1 hq).mono ?_; rintro e w1 ⟨rfl, hB⟩
  have G1 : Hid (Go1 c w w1 k) := ⟨G0.out.1.below hB, G0.out.2.below hB⟩
  have hz1 := Lib.hid hB.size
  clear hB hq
  go_wp2_with fail
  refine (IHH.out _ G1.out.1).mono ?_; rintro e w2 ⟨r, hD, hr⟩
  rcases r with p | ⟨t, R1⟩
  ·obtain ⟨rfl, hO⟩ := hr
   have HO := Lib.hid (G1.out.2.trans hO)
   have D1 := Lib.hid hD
   clear hD hO
   unfold sflt
   go_wp2_with fail
   exact bodyPost_panic rfl (postLb_err (show D c.E (.list stop it) (c.R k) (.error p) from D.mk1 D1.out fun m h0 => by simp only [body, Q1.out, Bool.false_eq_true, if_false, bnd, h0]) rfl HO.out)
  ·obtain ⟨j, v, vs, S, rfl, hj, rfl, hG, hW, hK, hS, hN, hvs⟩ := hr
   have G2 : Hid (Go1 c w w2 j) := ⟨hG.1, G1.out.2.trans hG.2⟩
   have HA : Hid (Acc w.heap.size w2 v vs t.kids) := ⟨own_mono hW hz1.out, S, hK, fun i hi => F.mono hz1.out (Nat.le_refl _) i (hS i hi), hN⟩
   have D1 := Lib.hid hD
   obtain ⟨ao, cp, rfl⟩ := own_slice hW
   clear hD hG hW hK hS hN
   go_wp2_with fail
   cases hq : isF c.E stop (c.R j)
   ·have Q2 := Lib.hid hq
    refine (need_no c j (bs stop) _ G2.out.1 hq).mono ?_; rintro e w3 ⟨rfl, hB⟩
    have HO := Lib.hid (G2.out.2.below hB)
    clear hB hq
    unfold sflt
    go_wp2_with fail
    exact bodyPost_panic rfl (postLb_err (show D c.E (.list stop it) (c.R k) (.error (c.T j).pos) from D.mk1 D1.out fun m h0 => by simp only [body, Q1.out, Q2.out, Bool.false_eq_true, if_false, bnd, h0, need, bad, R_hd]) rfl HO.out)
   ·have Q2 := Lib.hid hq
    refine (need_yes c j (bs stop) HST.out _ G2.out.1 hq).mono ?_; rintro e w3 ⟨rfl, hG⟩
    have G3 : Hid (Go1 c w w3 (j + 1)) := ⟨hG.1, G2.out.2.trans hG.2⟩
    have HA3 := Lib.hid (HA.out.off hG.2 hbl)
    clear hG hq
    go_wp2_with fail
    go_ret
    obtain ⟨ho, S, h2, h3, h4⟩ := HA3.out
    have hvs2 : vs.length ≤ j + 1 := Nat.le_trans hvs (Nat.le_succ _)
    exact ⟨.ok (bag t.kids, c.R (j + 1)), D.mk1 D1.out fun m h0 => by simp only [body, Q1.out, Q2.out, Bool.false_eq_true, if_false, if_true, bnd, h0, need, ret, R_tail], j + 1, _, vs, S, rfl, by omega, rfl, G3.out, ho, h2, h3, h4, hvs2⟩
 ·have Q1 := Lib.hid hq
  refine (skip_yes c k (bs stop) HST.out _ G0.out.1 hq).mono ?_; rintro e w1 ⟨rfl, hG⟩
  have G1 : Hid (Go1 c w w1 (k + 1)) := ⟨hG.1, G0.out.2.trans hG.2⟩
  clear hG hq
  go_wp2_with fail
  go_ret
  obtain ⟨ho, S, h2, h3, h4⟩ := Acc.nil w.heap.size w1
  exact ⟨.ok (bag [], c.R (k + 1)), D.mk0 fun m => by simp only [body, Q1.out, if_true, ret, R_tail], k + 1, _, [], S, rfl, by omega, rfl, G1.out, ho, h2, h3, h4, Nat.zero_le _⟩
end Go.Proofs.YtnkfodelgpidkaaGreatDoor
namespace Go.Proofs.YtnkfodelgpidkaaGreatDoor
open Go.RowKit
theorem own_one {b : Nat} {w : World} {x : Value} (hb : b ≤ w.heap.size) : (w.alloc (.cells #[x] 59)).ownsRow b 59 1 (.slice (some ⟨w.heap.size, 0, none⟩) 1 1) 1 [x] := by
 refine ⟨rfl, .inr ⟨w.heap.size, 1, #[x], rfl, hb, ?_, Nat.le_refl _, by unfold maxLen; omega, rfl, rfl⟩⟩
 show (w.heap.push _)[w.heap.size]? = _; simp
theorem Acc.join {lo lo2 : Nat} {w w3 : World} {v : Value} {vs us : List Value} {kids ks : List Tr} {S2 : Nat → Prop} {g cap : Nat} (h : Acc lo w v vs kids) (hx : IsTs w S2 us ks) (hS2 : ∀ i, S2 i → F lo2 w.heap.size i) (hlo : lo ≤ lo2)
  (hold : ∀ i, v.ownBlock = some i → i < lo2) (hown : w3.ownsRow lo 59 1 (.slice (some ⟨g, 0, none⟩) (vs.length + us.length) cap) (vs.length + us.length) (vs ++ us))
  (hgrow : w.grownBy w3 v.ownBlock) (hat : v.ownBlock = some g ∨ g = w.heap.size) :
  Acc lo w3 (.slice (some ⟨g, 0, none⟩) (vs ++ us).length cap) (vs ++ us) (kids ++ ks) := by
 obtain ⟨h1, S, h2, h3, h4⟩ := h
 have hz3 := hgrow.size
 have hS : ∀ i, S i ∨ S2 i → w3.heap[i]? = w.heap[i]? := by
  intro i hi
  have hlt : i < w.heap.size := by rcases hi with hi | hi; exact (h3 i hi).2; exact (hS2 i hi).2
  refine hgrow.block i hlt ?_
  intro e
  rcases hi with hi | hi
  ·exact h4 i e.symm hi
  ·have := hold i e.symm; have := (hS2 i hi).1; omega
 refine ⟨by rw [List.length_append]; exact hown, fun i => S i ∨ S2 i, ?_, ?_, ?_⟩
 ·exact IsTs.append (h2.keep (fun _ h => .inl h) fun i hi => hS i (.inl hi)) (hx.keep (fun _ h => .inr h) fun i hi => hS i (.inr hi))
 ·intro i hi
  rcases hi with hi | hi
  ·exact ⟨(h3 i hi).1, by have := (h3 i hi).2; omega⟩
  ·exact ⟨Nat.le_trans hlo (hS2 i hi).1, by have := (hS2 i hi).2; omega⟩
 ·intro i hi hs
  have e : g = i := by simpa [Value.ownBlock] using hi
  subst e
  rcases hat with hat | hat
  ·rcases hs with hs | hs
   ·exact h4 g hat hs
   ·have := hold g hat; have := (hS2 g hs).1; omega
  ·rcases hs with hs | hs
   ·have := (h3 g hs).2; omega
   ·have := (hS2 g hs).2; omega
theorem called_any (c : Cx) (k : Nat) (ihl : ∀ j, k < j → OkLb c (.list [41] .assign) 144 #[c.p, .string ⟨#[41]⟩, .func (.func 199) #[c.p] #[]] j) : OkXL c .called 255 k := by
 intro w lo v0 t0 hlo hbl hT0 h
 have hfew := h.ok.few
 have hgl := h.ltg
 have h0l := h.base.size
 have G0 : Hid (Go1 c w w k) := ⟨h, Off.refl _ _⟩
 have T0 := Lib.hid hT0
 have IHL := Lib.hid ihl
 have hkl := h.le
 clear h hT0 ihl
 go_enter Tryz.func255, Tryz.ntmps255
 go_wp2_with fail
 cases hq : isF c.E [40] (c.R k)
 ·refine (need_no c k ⟨#[40]⟩ _ G0.out.1 hq).mono ?_; rintro e w1 ⟨rfl, hB⟩
  have HO := Lib.hid (G0.out.2.below hB)
  have Q1 := Lib.hid hq
  clear hB hq
  unfold sflt
  go_wp2_with fail
  exact bodyPost_panic rfl ⟨_, (show D c.E (.called t0) (c.R k) (.error (c.T k).pos) from D.mk0 fun m => by simp only [body, Q1.out, need, Bool.false_eq_true, if_false, bad, R_hd]), rfl, HO.out⟩
 ·refine (need_yes c k ⟨#[40]⟩ (by decide) _ G0.out.1 hq).mono ?_; rintro e w1 ⟨rfl, hG⟩
  have G1 : Hid (Go1 c w w1 (k + 1)) := ⟨hG.1, G0.out.2.trans hG.2⟩
  have T1 := Lib.hid (T0.out.off hG.2 hbl)
  have Q1 := Lib.hid hq
  clear hG hq
  go_wp2_with fail
  have hwl1 : w.heap.size ≤ w1.heap.size := G1.out.2.size
  have hB1 : Below w1.heap.size w1 (w1.alloc (.cells #[.pointer (some ⟨v0, 0, none⟩)] 59)) := (Below.refl _ _).alloc (Nat.le_refl _) _
  have hz1 : (w1.alloc (.cells #[.pointer (some ⟨v0, 0, none⟩)] 59)).heap.size = w1.heap.size + 1 := by simp
  have G2 : Hid (Go1 c w (w1.alloc (.cells #[.pointer (some ⟨v0, 0, none⟩)] 59)) (k + 1)) := ⟨G1.out.1.below hB1, G1.out.2.below hB1⟩
  have HA2 := Lib.hid (Acc.one T1.out (Nat.le_refl _) (Nat.le_trans hlo hwl1))
  have HW2 : Hid ((w1.alloc (.cells #[.pointer (some ⟨v0, 0, none⟩)] 59)).ownsRow w.heap.size 59 1 (.slice (some ⟨w1.heap.size, 0, none⟩) 1 1) 1 [.pointer (some ⟨v0, 0, none⟩)]) := own_one hwl1
  have hbw : c.b < w.heap.size := G0.out.1.lt
  clear hB1
  generalize w1.alloc (.cells #[.pointer (some ⟨v0, 0, none⟩)] 59) = w2 at *
  refine (IHL.out (k + 1) (by omega) _ G2.out.1).mono ?_; rintro e w3 ⟨r, hD, hr⟩
  rcases r with p | ⟨t, R1⟩
  ·obtain ⟨rfl, hO⟩ := hr
   have HO := Lib.hid (G2.out.2.trans hO)
   have D1 := Lib.hid hD
   clear hD hO
   unfold sflt
   go_wp2_with fail
   exact bodyPost_panic rfl ⟨_, (show D c.E (.called t0) (c.R k) (.error p) from D.mk1 D1.out fun m h0 => by simp only [body, Q1.out, need, if_true, R_tail, bnd, h0]), rfl, HO.out⟩
  ·obtain ⟨j, v, vs, S, rfl, hj, rfl, hG, hW, hK, hS, hN, hvs⟩ := hr
   have G3 : Hid (Go1 c w w3 j) := ⟨hG.1, G2.out.2.trans hG.2⟩
   have HA3 := Lib.hid (HA2.out.off hG.2 hbl)
   have HW3 := Lib.hid (own_offN HW2.out hG.2 hbw)
   have hz3 := hG.2.size
   have D1 := Lib.hid hD
   have HK := Lib.hid hK
   have HS := Lib.hid hS
   have HDD : Hid (D c.E (.called t0) (c.R k) (.ok (bag (t0 :: t.kids), c.R j))) := D.mk1 D1.out fun m h0 => by simp only [body, Q1.out, need, if_true, R_tail, bnd, h0, ret]
   have hjl := G3.out.1.le
   obtain ⟨i0, hi, hz0, hz1', hz2⟩ := info_parts info_ptr
   by_cases hm : vs.length = 0
   ·have hv0 : vs = [] := List.eq_nil_of_length_eq_zero hm
    subst hv0
    have HKK : Hid (t.kids = []) := List.eq_nil_of_length_eq_zero (by have := hK.1; simpa using this.symm)
    have hsrc : ∃ ao cp, v = .slice ao 0 cp ∧ Src Tryz.prog 1 87 v 0 [] w3 := by
     rcases hW.2 with ⟨rfl, _⟩ | ⟨g, cp, cur, rfl, _⟩
     ·exact ⟨_, _, rfl, Src.ofNil _ Tryz.underlying87 _⟩
     ·exact ⟨_, _, rfl, Src.ofSlice _ Tryz.underlying87 _ _ _ [] rfl (fun j u h => by simp at h) (fun u h => by simp at h)⟩
    obtain ⟨ao, cp, rfl, hsrc⟩ := hsrc
    clear hD hG hW hK hS hN
    go_wp2_with (at_builtin; refine wpList_append_room1 w3 rfl _ _ 87 87 rfl 59 _ 8 Tryz.underlying87 info_ptr w1.heap.size 0 1 1 rfl _ rfl 0 [] hsrc (by decide) (fun j h => by cases h) (fun j h => by cases h) ?_)
    rw [show World.setCells w3 w1.heap.size (0 + 1) [] = w3 from rfl]
    clear hi hz0 hz1' hz2 hsrc
    go_wp2_with fail
    go_ret
    obtain ⟨ho, S, h2, h3, h4⟩ := HA3.out
    exact ⟨_, HDD.out, j, _, [.pointer (some ⟨v0, 0, none⟩)], S, rfl, by omega, rfl, G3.out, ho, by rw [HKK.out]; exact h2, h3, h4⟩
   ·obtain ⟨g2, cp2, rfl, hg2, hg2'⟩ := hW.form (by omega)
    have hcells : ∀ j u, vs[j]? = some u → w3.cell? ((⟨g2, 0, none⟩ : Addr).add j) = some u := fun j u hu => by
     have hj := (List.getElem?_eq_some_iff.1 hu).1
     rw [show (⟨g2, 0, none⟩ : Addr).add j = ⟨g2, j, none⟩ by unfold Addr.add; split <;> simp_all]
     exact (hW.cellAt j (by omega)).trans hu
    have hone : ∀ u ∈ vs, u.oneCell' = true := fun u hu => by
     obtain ⟨i, hi, rfl⟩ := List.mem_iff_getElem.1 hu
     have h2 : i < t.kids.length := by rw [← hK.1]; exact hi
     obtain ⟨a, ha⟩ := (hK.2 i hi h2).ptr
     rw [ha]; rfl
    have hold : Hid (∀ i, (Value.slice (some ⟨w1.heap.size, 0, none⟩) 1 1).ownBlock = some i → i < w2.heap.size) := fun i hi => (HW2.out.lt i hi).2
    have hown := HW3.out
    clear hD hG hK hS hN
    have hlo2 : lo ≤ w2.heap.size := by omega
    go_wp2_with (at_builtin; refine wpList_append_lies _ rfl _ _ 87 rfl w.heap.size 59 i0 _ 1 8 Tryz.underlying87 hi hz0 hz1' hz2 rfl (by decide) _ _ _ rfl hown ⟨g2, 0, none⟩ vs.length cp2 vs rfl (by rw [Nat.mul_one]) hcells hone ?c2 ?c3 ?c4 ?c5 w3.heap.size rfl ?_)
    case c2 => omega
    case c3 => unfold maxLen; omega
    case c4 => omega
    case c5 => omega
    intro g cap w4 hown4 hgrow hat hlt4
    have hbel : Below w.heap.size w3 w4 := (Below.refl _ _).grown hgrow (by omega) (fun k hk => (hown.lt k hk).1)
    have G4 : Hid (Go1 c w w4 j) := G3.out.old hbel hgl hbw h0l
    have HA4 := Lib.hid (HA3.out.join HK.out HS.out hlo2 hold.out (own_mono hown4 hlo) hgrow hat)
    clear hown4 hgrow hat hlt4 hbel hown hi hz0 hz1' hz2 hcells hone hW
    go_wp2_with fail
    go_ret
    obtain ⟨ho, S, h2, h3, h4⟩ := HA4.out
    have hl : ([Value.pointer (some ⟨v0, 0, none⟩)] ++ vs).length = 1 + vs.length := by rw [List.length_append]; rfl
    exact ⟨_, HDD.out, j, _, [Value.pointer (some ⟨v0, 0, none⟩)] ++ vs, S, rfl, by omega, rfl, G4.out, by have h5 := ho; rw [hl] at h5 ⊢; exact h5, h2, h3, by rw [hl] at h4; exact h4⟩
end Go.Proofs.YtnkfodelgpidkaaGreatDoor
namespace Go.Proofs.YtnkfodelgpidkaaGreatDoor
open Go.RowKit
theorem element_any (c : Cx) (k : Nat) (ihs : Ok c .statement 89 #[c.p] k) (ihg : ∀ j, k < j → ∀ x, Ok c (.function 18 x) 87 #[c.p, .int .i64 18, .string (bs x)] j) : Ok c .element 47 #[c.p] k := by
 intro w h
 have hbl := h.lt
 have hfew := h.ok.few
 have G0 : Hid (Go1 c w w k) := ⟨h, Off.refl _ _⟩
 have IHS := Lib.hid ihs
 have IHG := Lib.hid ihg
 clear h ihg ihs
 go_enter Tryz.func47, Tryz.ntmps47
 go_wp2_with fail
 cases hq : isF c.E [102, 117, 110, 99, 116, 105, 111, 110] (c.R k)
 ·refine (skip_no c k ⟨#[102, 117, 110, 99, 116, 105, 111, 110]⟩ _ G0.out.1 hq).mono ?_; rintro e w1 ⟨rfl, hB⟩
  have G2 : Hid (Go1 c w w1 k) := ⟨G0.out.1.below hB, G0.out.2.below hB⟩
  have Q1 := Lib.hid hq
  clear hB hq
  go_wp2_with fail
  refine (IHS.out _ G2.out.1).mono ?_; rintro e w3 ⟨r, hD, hr⟩
  rcases r with p | ⟨t3, R1⟩
  ·obtain ⟨rfl, hO⟩ := hr
   have HO := Lib.hid (G2.out.2.trans hO)
   have D3 := Lib.hid hD
   clear hD hO
   unfold sflt
   go_wp2_with fail
   exact bodyPost_panic rfl (post_err (show D c.E .element (c.R k) (.error p) from D.mk1 D3.out fun m h0 => by simp only [body, Bool.false_eq_true, if_false, Q1.out, h0]) rfl HO.out)
  ·obtain ⟨j3, v3, rfl, hj3, rfl, hG, hT⟩ := hr
   have G4 : Hid (Go1 c w w3 j3) := ⟨hG.1, G2.out.2.trans hG.2⟩
   have T3 := Lib.hid (hT.lower G2.out.2.size)
   have D3 := Lib.hid hD
   clear hD hG hT
   go_wp2_with fail
   go_ret
   exact post_ok (show D c.E .element (c.R k) (.ok (t3, c.R j3)) from D.mk1 D3.out fun m h0 => by simp only [body, Bool.false_eq_true, if_false, Q1.out, h0]) (by omega) rfl G4.out.1 G4.out.2 T3.out
 ·refine (skip_yes c k ⟨#[102, 117, 110, 99, 116, 105, 111, 110]⟩ (by decide) _ G0.out.1 hq).mono ?_; rintro e w1 ⟨rfl, hG⟩
  have G5 : Hid (Go1 c w w1 (k + 1)) := ⟨hG.1, G0.out.2.trans hG.2⟩
  have Q1 := Lib.hid hq
  clear hG hq
  go_wp2_with fail
  by_cases hq : (c.T (k + 1)).kind = 1
  ·refine (sname_yes c (k + 1) _ G5.out.1 hq).mono ?_; rintro e w6 ⟨rfl, hG⟩
   have G7 : Hid (Go1 c w w6 ((k + 1) + 1)) := ⟨hG.1, G5.out.2.trans hG.2⟩
   have Q6 := Lib.hid hq
   clear hG hq
   go_wp2_with fail
   refine (IHG.out ((k + 1) + 1) (by omega) (c.T (k + 1)).text _ G7.out.1).mono ?_; rintro e w8 ⟨r, hD, hr⟩
   rcases r with p | ⟨t8, R1⟩
   ·obtain ⟨rfl, hO⟩ := hr
    have HO := Lib.hid (G7.out.2.trans hO)
    have D8 := Lib.hid hD
    clear hD hO
    unfold sflt
    go_wp2_with fail
    exact bodyPost_panic rfl (post_err (show D c.E .element (c.R k) (.error p) from D.mk1 D8.out fun m h0 => by simp only [body, if_true, R_tail, nameK, R_hd, Q1.out, Q6.out, h0]) rfl HO.out)
   ·obtain ⟨j8, v8, rfl, hj8, rfl, hG, hT⟩ := hr
    have G9 : Hid (Go1 c w w8 j8) := ⟨hG.1, G7.out.2.trans hG.2⟩
    have T8 := Lib.hid (hT.lower G7.out.2.size)
    have D8 := Lib.hid hD
    clear hD hG hT
    go_wp2_with fail
    go_ret
    exact post_ok (show D c.E .element (c.R k) (.ok (t8, c.R j8)) from D.mk1 D8.out fun m h0 => by simp only [body, if_true, R_tail, nameK, R_hd, Q1.out, Q6.out, h0]) (by omega) rfl G9.out.1 G9.out.2 T8.out
  ·refine (sname_no c (k + 1) _ G5.out.1 hq).mono ?_; rintro e w6 ⟨rfl, hB⟩
   have HO := Lib.hid (G5.out.2.below hB)
   have Q6 := Lib.hid hq
   clear hB hq
   unfold sflt
   go_wp2_with fail
   exact bodyPost_panic rfl (post_err (show D c.E .element (c.R k) (.error (c.T (k + 1)).pos) from D.mk0 fun m => by simp only [body, if_true, R_tail, nameK, if_false, bad, R_hd, Q1.out, Q6.out]) rfl HO.out)
theorem leave_any (c : Cx) (k : Nat) (kind : Int) (hlt : k < c.ts.length)  : Ok c (.leave kind) 157 #[c.p, .int .i64 kind] k := by
 intro w h
 have hbl := h.lt
 have hfew := h.ok.few
 have G0 : Hid (Go1 c w w k) := ⟨h, Off.refl _ _⟩
 clear h
 have ac1 := G0.out.1.c1
 have af1 := G0.out.1.fz 1
 go_enter Tryz.func157, Tryz.ntmps157
 go_wp2_with fail
 clear ac1 af1
 have hG : Go1 c w (w.setCell ⟨c.b, 1, none⟩ (.int .i64 ((k : Int) + 1))) (k + 1) := ⟨G0.out.1.next (j := k + 1) (by omega), (Off.refl _ _).set 1 _⟩
 have G2 : Hid (Go1 c w (w.setCell ⟨c.b, 1, none⟩ (.int .i64 ((k : Int) + 1))) (k + 1)) := ⟨hG.1, G0.out.2.trans hG.2⟩
 clear hG
 have hz1 : (w.setCell ⟨c.b, 1, none⟩ (.int .i64 ((k : Int) + 1))).heap.size = w.heap.size := by simp [World.setCell]
 generalize w.setCell ⟨c.b, 1, none⟩ (.int .i64 ((k : Int) + 1)) = u1 at *
 refine (newNode_any _ _ _ _ _ _).mono ?_; rintro e w3 hm
 obtain ⟨a3, rfl, hT, hB⟩ := node_none (k := kind) (x := []) G2.out.2.size hm
 have G4 : Hid (Go1 c w w3 (k + 1)) := ⟨G2.out.1.below hB, G2.out.2.below hB⟩
 have T3 := Lib.hid hT
 clear hT hB hm
 go_wp2_with fail
 cases hq : isF c.E [59] (c.R (k + 1))
 ·refine (ended_no c (k + 1) _ _ G4.out.1 hq).mono ?_; rintro e w5 ⟨rfl, hB⟩
  have HO := Lib.hid (G4.out.2.below hB)
  have Q5 := Lib.hid hq
  clear hB hq
  unfold sflt
  go_wp2_with fail
  exact bodyPost_panic rfl (post_err (show D c.E (.leave kind) (c.R k) (.error (c.T (k + 1)).pos) from D.mk0 fun m => by simp only [body, R_tail, need, Bool.false_eq_true, if_false, bad, R_hd, Q5.out]) rfl HO.out)
 ·refine (ended_yes c (k + 1) _ _ G4.out.1 hq).mono ?_; rintro e w5 ⟨rfl, hG⟩
  have G6 : Hid (Go1 c w w5 ((k + 1) + 1)) := ⟨hG.1, G4.out.2.trans hG.2⟩
  have T7 := Lib.hid (T3.out.off hG.2 hbl)
  have Q5 := Lib.hid hq
  clear hG hq
  go_wp2_with fail
  go_ret
  exact post_ok (show D c.E (.leave kind) (c.R k) (.ok ((nd kind [] []), c.R ((k + 1) + 1))) from D.mk0 fun m => by simp only [body, R_tail, need, if_true, ret, Q5.out]) (by omega) rfl G6.out.1 G6.out.2 T7.out
theorem statement_any (c : Cx) (k : Nat) (ihk : Ok c .block 150 #[c.p] k) (ihv : Ok c .vars 152 #[c.p] k) (ihi : Ok c .ifElse 153 #[c.p] k) (ihw : Ok c .whileDo 154 #[c.p] k) (ihd : Ok c .doWhile 155 #[c.p] k) (ihf : Ok c .forLoop 156 #[c.p] k) (ihr : Ok c .giveBack 158 #[c.p] k) (iht : Ok c .throwIt 159 #[c.p] k) (ihy : Ok c .tryIt 160 #[c.p] k) (ihe : Ok c .expr 161 #[c.p] k) : Ok c .statement 89 #[c.p] k := by
 intro w h
 have hbl := h.lt
 have hfew := h.ok.few
 have G0 : Hid (Go1 c w w k) := ⟨h, Off.refl _ _⟩
 have IHK := Lib.hid ihk
 have IHV := Lib.hid ihv
 have IHI := Lib.hid ihi
 have IHW := Lib.hid ihw
 have IHD := Lib.hid ihd
 have IHF := Lib.hid ihf
 have IHR := Lib.hid ihr
 have IHT := Lib.hid iht
 have IHY := Lib.hid ihy
 have IHE := Lib.hid ihe
 clear h ihk ihv ihi ihw ihd ihf ihr iht ihy ihe
 go_enter Tryz.func89, Tryz.ntmps89
 go_wp2_with fail
 refine (fixed_any c k _ G0.out.1).mono ?_; rintro e w1 ⟨rfl, hB⟩
 have G2 : Hid (Go1 c w w1 k) := ⟨G0.out.1.below hB, G0.out.2.below hB⟩
 clear hB
 by_cases x1_0 : fx (c.T k) = [123]
 ·have n1_0 : ((bs (fx (c.T k))).toList == [123]) = true := gl_true (by rw [bs_list, x1_0])
  have Q1_0_0 : Hid (isF c.E [123] (c.R k) = true) := by show _ = _; rw [isF_T, x1_0]; rfl
  have hlt : k < c.ts.length := fx_in G2.out.1.le (by rw [x1_0]; decide)
  clear x1_0
  go_wp2_with fail
  refine (IHK.out _ G2.out.1).mono ?_; rintro e w3 ⟨r, hD, hr⟩
  rcases r with p | ⟨t3, R1⟩
  ·obtain ⟨rfl, hO⟩ := hr
   have HO := Lib.hid (G2.out.2.trans hO)
   have D3 := Lib.hid hD
   clear hD hO
   unfold sflt
   go_wp2_with fail
   exact bodyPost_panic rfl (post_err (show D c.E .statement (c.R k) (.error p) from D.mk1 D3.out fun m h0 => by simp only [body, if_true, Q1_0_0.out, h0]) rfl HO.out)
  ·obtain ⟨j3, v3, rfl, hj3, rfl, hG, hT⟩ := hr
   have G4 : Hid (Go1 c w w3 j3) := ⟨hG.1, G2.out.2.trans hG.2⟩
   have T3 := Lib.hid (hT.lower G2.out.2.size)
   have D3 := Lib.hid hD
   clear hD hG hT
   go_wp2_with fail
   go_ret
   exact post_ok (show D c.E .statement (c.R k) (.ok (t3, c.R j3)) from D.mk1 D3.out fun m h0 => by simp only [body, if_true, Q1_0_0.out, h0]) (by omega) rfl G4.out.1 G4.out.2 T3.out
 ·skip
  by_cases x1_1 : fx (c.T k) = [118, 97, 114]
  ·have n1_0 : ((bs (fx (c.T k))).toList == [123]) = false := gl_false (by rw [bs_list, x1_1]; decide)
   have Q1_1_0 : Hid (isF c.E [123] (c.R k) = false) := by show _ = _; rw [isF_T, x1_1]; rfl
   have n1_1 : ((bs (fx (c.T k))).toList == [118, 97, 114]) = true := gl_true (by rw [bs_list, x1_1])
   have Q1_1_1 : Hid (isF c.E [118, 97, 114] (c.R k) = true) := by show _ = _; rw [isF_T, x1_1]; rfl
   have hlt : k < c.ts.length := fx_in G2.out.1.le (by rw [x1_1]; decide)
   clear x1_0 x1_1
   go_wp2_with fail
   refine (IHV.out _ G2.out.1).mono ?_; rintro e w5 ⟨r, hD, hr⟩
   rcases r with p | ⟨t5, R1⟩
   ·obtain ⟨rfl, hO⟩ := hr
    have HO := Lib.hid (G2.out.2.trans hO)
    have D5 := Lib.hid hD
    clear hD hO
    unfold sflt
    go_wp2_with fail
    exact bodyPost_panic rfl (post_err (show D c.E .statement (c.R k) (.error p) from D.mk1 D5.out fun m h0 => by simp only [body, Bool.false_eq_true, if_false, if_true, bnd, Q1_1_0.out, Q1_1_1.out, h0]) rfl HO.out)
   ·obtain ⟨j5, vv, rfl, hj5, rfl, hG, hT⟩ := hr
    obtain ⟨v5, rfl⟩ := hT.ptr
    have G6 : Hid (Go1 c w w5 j5) := ⟨hG.1, G2.out.2.trans hG.2⟩
    have T5 := Lib.hid (hT.lower G2.out.2.size)
    have D5 := Lib.hid hD
    clear hD hG hT
    go_wp2_with fail
    cases hq : isF c.E [59] (c.R j5)
    ·refine (ended_no c j5 _ _ G6.out.1 hq).mono ?_; rintro e w7 ⟨rfl, hB⟩
     have HO := Lib.hid (G6.out.2.below hB)
     have Q7 := Lib.hid hq
     clear hB hq
     unfold sflt
     go_wp2_with fail
     exact bodyPost_panic rfl (post_err (show D c.E .statement (c.R k) (.error (c.T j5).pos) from D.mk1 D5.out fun m h0 => by simp only [body, Bool.false_eq_true, if_false, if_true, bnd, need, bad, R_hd, Q1_1_0.out, Q1_1_1.out, Q7.out, h0]) rfl HO.out)
    ·refine (ended_yes c j5 _ _ G6.out.1 hq).mono ?_; rintro e w7 ⟨rfl, hG⟩
     have G8 : Hid (Go1 c w w7 (j5 + 1)) := ⟨hG.1, G6.out.2.trans hG.2⟩
     have T9 := Lib.hid (T5.out.off hG.2 hbl)
     have Q7 := Lib.hid hq
     clear hG hq
     go_wp2_with fail
     go_ret
     exact post_ok (show D c.E .statement (c.R k) (.ok (t5, c.R (j5 + 1))) from D.mk1 D5.out fun m h0 => by simp only [body, Bool.false_eq_true, if_false, if_true, bnd, need, R_tail, ret, Q1_1_0.out, Q1_1_1.out, Q7.out, h0]) (by omega) rfl G8.out.1 G8.out.2 T9.out
  ·skip
   by_cases x1_2 : fx (c.T k) = [59]
   ·have n1_0 : ((bs (fx (c.T k))).toList == [123]) = false := gl_false (by rw [bs_list, x1_2]; decide)
    have Q1_2_0 : Hid (isF c.E [123] (c.R k) = false) := by show _ = _; rw [isF_T, x1_2]; rfl
    have n1_1 : ((bs (fx (c.T k))).toList == [118, 97, 114]) = false := gl_false (by rw [bs_list, x1_2]; decide)
    have Q1_2_1 : Hid (isF c.E [118, 97, 114] (c.R k) = false) := by show _ = _; rw [isF_T, x1_2]; rfl
    have n1_2 : ((bs (fx (c.T k))).toList == [59]) = true := gl_true (by rw [bs_list, x1_2])
    have Q1_2_2 : Hid (isF c.E [59] (c.R k) = true) := by show _ = _; rw [isF_T, x1_2]; rfl
    have hlt : k < c.ts.length := fx_in G2.out.1.le (by rw [x1_2]; decide)
    clear x1_0 x1_1 x1_2
    go_wp2_with fail
    refine (newNode_any _ _ _ _ _ _).mono ?_; rintro e w10 hm
    obtain ⟨a10, rfl, hT, hB⟩ := node_none (k := 5) (x := []) G2.out.2.size hm
    have G11 : Hid (Go1 c w w10 k) := ⟨G2.out.1.below hB, G2.out.2.below hB⟩
    have T10 := Lib.hid hT
    clear hT hB hm
    go_wp2_with fail
    refine (ended_yes c k _ _ G11.out.1 Q1_2_2.out).mono ?_; rintro e w12 ⟨rfl, hG⟩
    have G13 : Hid (Go1 c w w12 (k + 1)) := ⟨hG.1, G11.out.2.trans hG.2⟩
    have T14 := Lib.hid (T10.out.off hG.2 hbl)
    clear hG
    go_wp2_with fail
    go_ret
    exact post_ok (show D c.E .statement (c.R k) (.ok ((nd 5 [] []), c.R (k + 1))) from D.mk0 fun m => by simp only [body, Bool.false_eq_true, if_false, if_true, need, R_tail, ret, Q1_2_0.out, Q1_2_1.out, Q1_2_2.out]) (by omega) rfl G13.out.1 G13.out.2 T14.out
   ·skip
    by_cases x1_3 : fx (c.T k) = [105, 102]
    ·have n1_0 : ((bs (fx (c.T k))).toList == [123]) = false := gl_false (by rw [bs_list, x1_3]; decide)
     have Q1_3_0 : Hid (isF c.E [123] (c.R k) = false) := by show _ = _; rw [isF_T, x1_3]; rfl
     have n1_1 : ((bs (fx (c.T k))).toList == [118, 97, 114]) = false := gl_false (by rw [bs_list, x1_3]; decide)
     have Q1_3_1 : Hid (isF c.E [118, 97, 114] (c.R k) = false) := by show _ = _; rw [isF_T, x1_3]; rfl
     have n1_2 : ((bs (fx (c.T k))).toList == [59]) = false := gl_false (by rw [bs_list, x1_3]; decide)
     have Q1_3_2 : Hid (isF c.E [59] (c.R k) = false) := by show _ = _; rw [isF_T, x1_3]; rfl
     have n1_3 : ((bs (fx (c.T k))).toList == [105, 102]) = true := gl_true (by rw [bs_list, x1_3])
     have Q1_3_3 : Hid (isF c.E [105, 102] (c.R k) = true) := by show _ = _; rw [isF_T, x1_3]; rfl
     have hlt : k < c.ts.length := fx_in G2.out.1.le (by rw [x1_3]; decide)
     clear x1_0 x1_1 x1_2 x1_3
     go_wp2_with fail
     refine (IHI.out _ G2.out.1).mono ?_; rintro e w15 ⟨r, hD, hr⟩
     rcases r with p | ⟨t15, R1⟩
     ·obtain ⟨rfl, hO⟩ := hr
      have HO := Lib.hid (G2.out.2.trans hO)
      have D15 := Lib.hid hD
      clear hD hO
      unfold sflt
      go_wp2_with fail
      exact bodyPost_panic rfl (post_err (show D c.E .statement (c.R k) (.error p) from D.mk1 D15.out fun m h0 => by simp only [body, Bool.false_eq_true, if_false, if_true, Q1_3_0.out, Q1_3_1.out, Q1_3_2.out, Q1_3_3.out, h0]) rfl HO.out)
     ·obtain ⟨j15, v15, rfl, hj15, rfl, hG, hT⟩ := hr
      have G16 : Hid (Go1 c w w15 j15) := ⟨hG.1, G2.out.2.trans hG.2⟩
      have T15 := Lib.hid (hT.lower G2.out.2.size)
      have D15 := Lib.hid hD
      clear hD hG hT
      go_wp2_with fail
      go_ret
      exact post_ok (show D c.E .statement (c.R k) (.ok (t15, c.R j15)) from D.mk1 D15.out fun m h0 => by simp only [body, Bool.false_eq_true, if_false, if_true, Q1_3_0.out, Q1_3_1.out, Q1_3_2.out, Q1_3_3.out, h0]) (by omega) rfl G16.out.1 G16.out.2 T15.out
    ·skip
     by_cases x1_4 : fx (c.T k) = [119, 104, 105, 108, 101]
     ·have n1_0 : ((bs (fx (c.T k))).toList == [123]) = false := gl_false (by rw [bs_list, x1_4]; decide)
      have Q1_4_0 : Hid (isF c.E [123] (c.R k) = false) := by show _ = _; rw [isF_T, x1_4]; rfl
      have n1_1 : ((bs (fx (c.T k))).toList == [118, 97, 114]) = false := gl_false (by rw [bs_list, x1_4]; decide)
      have Q1_4_1 : Hid (isF c.E [118, 97, 114] (c.R k) = false) := by show _ = _; rw [isF_T, x1_4]; rfl
      have n1_2 : ((bs (fx (c.T k))).toList == [59]) = false := gl_false (by rw [bs_list, x1_4]; decide)
      have Q1_4_2 : Hid (isF c.E [59] (c.R k) = false) := by show _ = _; rw [isF_T, x1_4]; rfl
      have n1_3 : ((bs (fx (c.T k))).toList == [105, 102]) = false := gl_false (by rw [bs_list, x1_4]; decide)
      have Q1_4_3 : Hid (isF c.E [105, 102] (c.R k) = false) := by show _ = _; rw [isF_T, x1_4]; rfl
      have n1_4 : ((bs (fx (c.T k))).toList == [119, 104, 105, 108, 101]) = true := gl_true (by rw [bs_list, x1_4])
      have Q1_4_4 : Hid (isF c.E [119, 104, 105, 108, 101] (c.R k) = true) := by show _ = _; rw [isF_T, x1_4]; rfl
      have hlt : k < c.ts.length := fx_in G2.out.1.le (by rw [x1_4]; decide)
      clear x1_0 x1_1 x1_2 x1_3 x1_4
      go_wp2_with fail
      refine (IHW.out _ G2.out.1).mono ?_; rintro e w17 ⟨r, hD, hr⟩
      rcases r with p | ⟨t17, R1⟩
      ·obtain ⟨rfl, hO⟩ := hr
       have HO := Lib.hid (G2.out.2.trans hO)
       have D17 := Lib.hid hD
       clear hD hO
       unfold sflt
       go_wp2_with fail
       exact bodyPost_panic rfl (post_err (show D c.E .statement (c.R k) (.error p) from D.mk1 D17.out fun m h0 => by simp only [body, Bool.false_eq_true, if_false, if_true, Q1_4_0.out, Q1_4_1.out, Q1_4_2.out, Q1_4_3.out, Q1_4_4.out, h0]) rfl HO.out)
      ·obtain ⟨j17, v17, rfl, hj17, rfl, hG, hT⟩ := hr
       have G18 : Hid (Go1 c w w17 j17) := ⟨hG.1, G2.out.2.trans hG.2⟩
       have T17 := Lib.hid (hT.lower G2.out.2.size)
       have D17 := Lib.hid hD
       clear hD hG hT
       go_wp2_with fail
       go_ret
       exact post_ok (show D c.E .statement (c.R k) (.ok (t17, c.R j17)) from D.mk1 D17.out fun m h0 => by simp only [body, Bool.false_eq_true, if_false, if_true, Q1_4_0.out, Q1_4_1.out, Q1_4_2.out, Q1_4_3.out, Q1_4_4.out, h0]) (by omega) rfl G18.out.1 G18.out.2 T17.out
     ·skip
      by_cases x1_5 : fx (c.T k) = [100, 111]
      ·have n1_0 : ((bs (fx (c.T k))).toList == [123]) = false := gl_false (by rw [bs_list, x1_5]; decide)
       have Q1_5_0 : Hid (isF c.E [123] (c.R k) = false) := by show _ = _; rw [isF_T, x1_5]; rfl
       have n1_1 : ((bs (fx (c.T k))).toList == [118, 97, 114]) = false := gl_false (by rw [bs_list, x1_5]; decide)
       have Q1_5_1 : Hid (isF c.E [118, 97, 114] (c.R k) = false) := by show _ = _; rw [isF_T, x1_5]; rfl
       have n1_2 : ((bs (fx (c.T k))).toList == [59]) = false := gl_false (by rw [bs_list, x1_5]; decide)
       have Q1_5_2 : Hid (isF c.E [59] (c.R k) = false) := by show _ = _; rw [isF_T, x1_5]; rfl
       have n1_3 : ((bs (fx (c.T k))).toList == [105, 102]) = false := gl_false (by rw [bs_list, x1_5]; decide)
       have Q1_5_3 : Hid (isF c.E [105, 102] (c.R k) = false) := by show _ = _; rw [isF_T, x1_5]; rfl
       have n1_4 : ((bs (fx (c.T k))).toList == [119, 104, 105, 108, 101]) = false := gl_false (by rw [bs_list, x1_5]; decide)
       have Q1_5_4 : Hid (isF c.E [119, 104, 105, 108, 101] (c.R k) = false) := by show _ = _; rw [isF_T, x1_5]; rfl
       have n1_5 : ((bs (fx (c.T k))).toList == [100, 111]) = true := gl_true (by rw [bs_list, x1_5])
       have Q1_5_5 : Hid (isF c.E [100, 111] (c.R k) = true) := by show _ = _; rw [isF_T, x1_5]; rfl
       have hlt : k < c.ts.length := fx_in G2.out.1.le (by rw [x1_5]; decide)
       clear x1_0 x1_1 x1_2 x1_3 x1_4 x1_5
       go_wp2_with fail
       refine (IHD.out _ G2.out.1).mono ?_; rintro e w19 ⟨r, hD, hr⟩
       rcases r with p | ⟨t19, R1⟩
       ·obtain ⟨rfl, hO⟩ := hr
        have HO := Lib.hid (G2.out.2.trans hO)
        have D19 := Lib.hid hD
        clear hD hO
        unfold sflt
        go_wp2_with fail
        exact bodyPost_panic rfl (post_err (show D c.E .statement (c.R k) (.error p) from D.mk1 D19.out fun m h0 => by simp only [body, Bool.false_eq_true, if_false, if_true, Q1_5_0.out, Q1_5_1.out, Q1_5_2.out, Q1_5_3.out, Q1_5_4.out, Q1_5_5.out, h0]) rfl HO.out)
       ·obtain ⟨j19, v19, rfl, hj19, rfl, hG, hT⟩ := hr
        have G20 : Hid (Go1 c w w19 j19) := ⟨hG.1, G2.out.2.trans hG.2⟩
        have T19 := Lib.hid (hT.lower G2.out.2.size)
        have D19 := Lib.hid hD
        clear hD hG hT
        go_wp2_with fail
        go_ret
        exact post_ok (show D c.E .statement (c.R k) (.ok (t19, c.R j19)) from D.mk1 D19.out fun m h0 => by simp only [body, Bool.false_eq_true, if_false, if_true, Q1_5_0.out, Q1_5_1.out, Q1_5_2.out, Q1_5_3.out, Q1_5_4.out, Q1_5_5.out, h0]) (by omega) rfl G20.out.1 G20.out.2 T19.out
      ·skip
       by_cases x1_6 : fx (c.T k) = [102, 111, 114]
       ·have n1_0 : ((bs (fx (c.T k))).toList == [123]) = false := gl_false (by rw [bs_list, x1_6]; decide)
        have Q1_6_0 : Hid (isF c.E [123] (c.R k) = false) := by show _ = _; rw [isF_T, x1_6]; rfl
        have n1_1 : ((bs (fx (c.T k))).toList == [118, 97, 114]) = false := gl_false (by rw [bs_list, x1_6]; decide)
        have Q1_6_1 : Hid (isF c.E [118, 97, 114] (c.R k) = false) := by show _ = _; rw [isF_T, x1_6]; rfl
        have n1_2 : ((bs (fx (c.T k))).toList == [59]) = false := gl_false (by rw [bs_list, x1_6]; decide)
        have Q1_6_2 : Hid (isF c.E [59] (c.R k) = false) := by show _ = _; rw [isF_T, x1_6]; rfl
        have n1_3 : ((bs (fx (c.T k))).toList == [105, 102]) = false := gl_false (by rw [bs_list, x1_6]; decide)
        have Q1_6_3 : Hid (isF c.E [105, 102] (c.R k) = false) := by show _ = _; rw [isF_T, x1_6]; rfl
        have n1_4 : ((bs (fx (c.T k))).toList == [119, 104, 105, 108, 101]) = false := gl_false (by rw [bs_list, x1_6]; decide)
        have Q1_6_4 : Hid (isF c.E [119, 104, 105, 108, 101] (c.R k) = false) := by show _ = _; rw [isF_T, x1_6]; rfl
        have n1_5 : ((bs (fx (c.T k))).toList == [100, 111]) = false := gl_false (by rw [bs_list, x1_6]; decide)
        have Q1_6_5 : Hid (isF c.E [100, 111] (c.R k) = false) := by show _ = _; rw [isF_T, x1_6]; rfl
        have n1_6 : ((bs (fx (c.T k))).toList == [102, 111, 114]) = true := gl_true (by rw [bs_list, x1_6])
        have Q1_6_6 : Hid (isF c.E [102, 111, 114] (c.R k) = true) := by show _ = _; rw [isF_T, x1_6]; rfl
        have hlt : k < c.ts.length := fx_in G2.out.1.le (by rw [x1_6]; decide)
        clear x1_0 x1_1 x1_2 x1_3 x1_4 x1_5 x1_6
        go_wp2_with fail
        refine (IHF.out _ G2.out.1).mono ?_; rintro e w21 ⟨r, hD, hr⟩
        rcases r with p | ⟨t21, R1⟩
        ·obtain ⟨rfl, hO⟩ := hr
         have HO := Lib.hid (G2.out.2.trans hO)
         have D21 := Lib.hid hD
         clear hD hO
         unfold sflt
         go_wp2_with fail
         exact bodyPost_panic rfl (post_err (show D c.E .statement (c.R k) (.error p) from D.mk1 D21.out fun m h0 => by simp only [body, Bool.false_eq_true, if_false, if_true, Q1_6_0.out, Q1_6_1.out, Q1_6_2.out, Q1_6_3.out, Q1_6_4.out, Q1_6_5.out, Q1_6_6.out, h0]) rfl HO.out)
        ·obtain ⟨j21, v21, rfl, hj21, rfl, hG, hT⟩ := hr
         have G22 : Hid (Go1 c w w21 j21) := ⟨hG.1, G2.out.2.trans hG.2⟩
         have T21 := Lib.hid (hT.lower G2.out.2.size)
         have D21 := Lib.hid hD
         clear hD hG hT
         go_wp2_with fail
         go_ret
         exact post_ok (show D c.E .statement (c.R k) (.ok (t21, c.R j21)) from D.mk1 D21.out fun m h0 => by simp only [body, Bool.false_eq_true, if_false, if_true, Q1_6_0.out, Q1_6_1.out, Q1_6_2.out, Q1_6_3.out, Q1_6_4.out, Q1_6_5.out, Q1_6_6.out, h0]) (by omega) rfl G22.out.1 G22.out.2 T21.out
       ·skip
        by_cases x1_7 : fx (c.T k) = [98, 114, 101, 97, 107]
        ·have n1_0 : ((bs (fx (c.T k))).toList == [123]) = false := gl_false (by rw [bs_list, x1_7]; decide)
         have Q1_7_0 : Hid (isF c.E [123] (c.R k) = false) := by show _ = _; rw [isF_T, x1_7]; rfl
         have n1_1 : ((bs (fx (c.T k))).toList == [118, 97, 114]) = false := gl_false (by rw [bs_list, x1_7]; decide)
         have Q1_7_1 : Hid (isF c.E [118, 97, 114] (c.R k) = false) := by show _ = _; rw [isF_T, x1_7]; rfl
         have n1_2 : ((bs (fx (c.T k))).toList == [59]) = false := gl_false (by rw [bs_list, x1_7]; decide)
         have Q1_7_2 : Hid (isF c.E [59] (c.R k) = false) := by show _ = _; rw [isF_T, x1_7]; rfl
         have n1_3 : ((bs (fx (c.T k))).toList == [105, 102]) = false := gl_false (by rw [bs_list, x1_7]; decide)
         have Q1_7_3 : Hid (isF c.E [105, 102] (c.R k) = false) := by show _ = _; rw [isF_T, x1_7]; rfl
         have n1_4 : ((bs (fx (c.T k))).toList == [119, 104, 105, 108, 101]) = false := gl_false (by rw [bs_list, x1_7]; decide)
         have Q1_7_4 : Hid (isF c.E [119, 104, 105, 108, 101] (c.R k) = false) := by show _ = _; rw [isF_T, x1_7]; rfl
         have n1_5 : ((bs (fx (c.T k))).toList == [100, 111]) = false := gl_false (by rw [bs_list, x1_7]; decide)
         have Q1_7_5 : Hid (isF c.E [100, 111] (c.R k) = false) := by show _ = _; rw [isF_T, x1_7]; rfl
         have n1_6 : ((bs (fx (c.T k))).toList == [102, 111, 114]) = false := gl_false (by rw [bs_list, x1_7]; decide)
         have Q1_7_6 : Hid (isF c.E [102, 111, 114] (c.R k) = false) := by show _ = _; rw [isF_T, x1_7]; rfl
         have n1_7 : ((bs (fx (c.T k))).toList == [98, 114, 101, 97, 107]) = true := gl_true (by rw [bs_list, x1_7])
         have Q1_7_7 : Hid (isF c.E [98, 114, 101, 97, 107] (c.R k) = true) := by show _ = _; rw [isF_T, x1_7]; rfl
         have hlt : k < c.ts.length := fx_in G2.out.1.le (by rw [x1_7]; decide)
         clear x1_0 x1_1 x1_2 x1_3 x1_4 x1_5 x1_6 x1_7
         go_wp2_with fail
         refine (leave_any c k 11 hlt _ G2.out.1).mono ?_; rintro e w23 ⟨r, hD, hr⟩
         rcases r with p | ⟨t23, R1⟩
         ·obtain ⟨rfl, hO⟩ := hr
          have HO := Lib.hid (G2.out.2.trans hO)
          have D23 := Lib.hid hD
          clear hD hO
          unfold sflt
          go_wp2_with fail
          exact bodyPost_panic rfl (post_err (show D c.E .statement (c.R k) (.error p) from D.mk1 D23.out fun m h0 => by simp only [body, Bool.false_eq_true, if_false, if_true, Q1_7_0.out, Q1_7_1.out, Q1_7_2.out, Q1_7_3.out, Q1_7_4.out, Q1_7_5.out, Q1_7_6.out, Q1_7_7.out, h0]) rfl HO.out)
         ·obtain ⟨j23, v23, rfl, hj23, rfl, hG, hT⟩ := hr
          have G24 : Hid (Go1 c w w23 j23) := ⟨hG.1, G2.out.2.trans hG.2⟩
          have T23 := Lib.hid (hT.lower G2.out.2.size)
          have D23 := Lib.hid hD
          clear hD hG hT
          go_wp2_with fail
          go_ret
          exact post_ok (show D c.E .statement (c.R k) (.ok (t23, c.R j23)) from D.mk1 D23.out fun m h0 => by simp only [body, Bool.false_eq_true, if_false, if_true, Q1_7_0.out, Q1_7_1.out, Q1_7_2.out, Q1_7_3.out, Q1_7_4.out, Q1_7_5.out, Q1_7_6.out, Q1_7_7.out, h0]) (by omega) rfl G24.out.1 G24.out.2 T23.out
        ·skip
         by_cases x1_8 : fx (c.T k) = [99, 111, 110, 116, 105, 110, 117, 101]
         ·have n1_0 : ((bs (fx (c.T k))).toList == [123]) = false := gl_false (by rw [bs_list, x1_8]; decide)
          have Q1_8_0 : Hid (isF c.E [123] (c.R k) = false) := by show _ = _; rw [isF_T, x1_8]; rfl
          have n1_1 : ((bs (fx (c.T k))).toList == [118, 97, 114]) = false := gl_false (by rw [bs_list, x1_8]; decide)
          have Q1_8_1 : Hid (isF c.E [118, 97, 114] (c.R k) = false) := by show _ = _; rw [isF_T, x1_8]; rfl
          have n1_2 : ((bs (fx (c.T k))).toList == [59]) = false := gl_false (by rw [bs_list, x1_8]; decide)
          have Q1_8_2 : Hid (isF c.E [59] (c.R k) = false) := by show _ = _; rw [isF_T, x1_8]; rfl
          have n1_3 : ((bs (fx (c.T k))).toList == [105, 102]) = false := gl_false (by rw [bs_list, x1_8]; decide)
          have Q1_8_3 : Hid (isF c.E [105, 102] (c.R k) = false) := by show _ = _; rw [isF_T, x1_8]; rfl
          have n1_4 : ((bs (fx (c.T k))).toList == [119, 104, 105, 108, 101]) = false := gl_false (by rw [bs_list, x1_8]; decide)
          have Q1_8_4 : Hid (isF c.E [119, 104, 105, 108, 101] (c.R k) = false) := by show _ = _; rw [isF_T, x1_8]; rfl
          have n1_5 : ((bs (fx (c.T k))).toList == [100, 111]) = false := gl_false (by rw [bs_list, x1_8]; decide)
          have Q1_8_5 : Hid (isF c.E [100, 111] (c.R k) = false) := by show _ = _; rw [isF_T, x1_8]; rfl
          have n1_6 : ((bs (fx (c.T k))).toList == [102, 111, 114]) = false := gl_false (by rw [bs_list, x1_8]; decide)
          have Q1_8_6 : Hid (isF c.E [102, 111, 114] (c.R k) = false) := by show _ = _; rw [isF_T, x1_8]; rfl
          have n1_7 : ((bs (fx (c.T k))).toList == [98, 114, 101, 97, 107]) = false := gl_false (by rw [bs_list, x1_8]; decide)
          have Q1_8_7 : Hid (isF c.E [98, 114, 101, 97, 107] (c.R k) = false) := by show _ = _; rw [isF_T, x1_8]; rfl
          have n1_8 : ((bs (fx (c.T k))).toList == [99, 111, 110, 116, 105, 110, 117, 101]) = true := gl_true (by rw [bs_list, x1_8])
          have Q1_8_8 : Hid (isF c.E [99, 111, 110, 116, 105, 110, 117, 101] (c.R k) = true) := by show _ = _; rw [isF_T, x1_8]; rfl
          have hlt : k < c.ts.length := fx_in G2.out.1.le (by rw [x1_8]; decide)
          clear x1_0 x1_1 x1_2 x1_3 x1_4 x1_5 x1_6 x1_7 x1_8
          go_wp2_with fail
          refine (leave_any c k 12 hlt _ G2.out.1).mono ?_; rintro e w25 ⟨r, hD, hr⟩
          rcases r with p | ⟨t25, R1⟩
          ·obtain ⟨rfl, hO⟩ := hr
           have HO := Lib.hid (G2.out.2.trans hO)
           have D25 := Lib.hid hD
           clear hD hO
           unfold sflt
           go_wp2_with fail
           exact bodyPost_panic rfl (post_err (show D c.E .statement (c.R k) (.error p) from D.mk1 D25.out fun m h0 => by simp only [body, Bool.false_eq_true, if_false, if_true, Q1_8_0.out, Q1_8_1.out, Q1_8_2.out, Q1_8_3.out, Q1_8_4.out, Q1_8_5.out, Q1_8_6.out, Q1_8_7.out, Q1_8_8.out, h0]) rfl HO.out)
          ·obtain ⟨j25, v25, rfl, hj25, rfl, hG, hT⟩ := hr
           have G26 : Hid (Go1 c w w25 j25) := ⟨hG.1, G2.out.2.trans hG.2⟩
           have T25 := Lib.hid (hT.lower G2.out.2.size)
           have D25 := Lib.hid hD
           clear hD hG hT
           go_wp2_with fail
           go_ret
           exact post_ok (show D c.E .statement (c.R k) (.ok (t25, c.R j25)) from D.mk1 D25.out fun m h0 => by simp only [body, Bool.false_eq_true, if_false, if_true, Q1_8_0.out, Q1_8_1.out, Q1_8_2.out, Q1_8_3.out, Q1_8_4.out, Q1_8_5.out, Q1_8_6.out, Q1_8_7.out, Q1_8_8.out, h0]) (by omega) rfl G26.out.1 G26.out.2 T25.out
         ·skip
          by_cases x1_9 : fx (c.T k) = [114, 101, 116, 117, 114, 110]
          ·have n1_0 : ((bs (fx (c.T k))).toList == [123]) = false := gl_false (by rw [bs_list, x1_9]; decide)
           have Q1_9_0 : Hid (isF c.E [123] (c.R k) = false) := by show _ = _; rw [isF_T, x1_9]; rfl
           have n1_1 : ((bs (fx (c.T k))).toList == [118, 97, 114]) = false := gl_false (by rw [bs_list, x1_9]; decide)
           have Q1_9_1 : Hid (isF c.E [118, 97, 114] (c.R k) = false) := by show _ = _; rw [isF_T, x1_9]; rfl
           have n1_2 : ((bs (fx (c.T k))).toList == [59]) = false := gl_false (by rw [bs_list, x1_9]; decide)
           have Q1_9_2 : Hid (isF c.E [59] (c.R k) = false) := by show _ = _; rw [isF_T, x1_9]; rfl
           have n1_3 : ((bs (fx (c.T k))).toList == [105, 102]) = false := gl_false (by rw [bs_list, x1_9]; decide)
           have Q1_9_3 : Hid (isF c.E [105, 102] (c.R k) = false) := by show _ = _; rw [isF_T, x1_9]; rfl
           have n1_4 : ((bs (fx (c.T k))).toList == [119, 104, 105, 108, 101]) = false := gl_false (by rw [bs_list, x1_9]; decide)
           have Q1_9_4 : Hid (isF c.E [119, 104, 105, 108, 101] (c.R k) = false) := by show _ = _; rw [isF_T, x1_9]; rfl
           have n1_5 : ((bs (fx (c.T k))).toList == [100, 111]) = false := gl_false (by rw [bs_list, x1_9]; decide)
           have Q1_9_5 : Hid (isF c.E [100, 111] (c.R k) = false) := by show _ = _; rw [isF_T, x1_9]; rfl
           have n1_6 : ((bs (fx (c.T k))).toList == [102, 111, 114]) = false := gl_false (by rw [bs_list, x1_9]; decide)
           have Q1_9_6 : Hid (isF c.E [102, 111, 114] (c.R k) = false) := by show _ = _; rw [isF_T, x1_9]; rfl
           have n1_7 : ((bs (fx (c.T k))).toList == [98, 114, 101, 97, 107]) = false := gl_false (by rw [bs_list, x1_9]; decide)
           have Q1_9_7 : Hid (isF c.E [98, 114, 101, 97, 107] (c.R k) = false) := by show _ = _; rw [isF_T, x1_9]; rfl
           have n1_8 : ((bs (fx (c.T k))).toList == [99, 111, 110, 116, 105, 110, 117, 101]) = false := gl_false (by rw [bs_list, x1_9]; decide)
           have Q1_9_8 : Hid (isF c.E [99, 111, 110, 116, 105, 110, 117, 101] (c.R k) = false) := by show _ = _; rw [isF_T, x1_9]; rfl
           have n1_9 : ((bs (fx (c.T k))).toList == [114, 101, 116, 117, 114, 110]) = true := gl_true (by rw [bs_list, x1_9])
           have Q1_9_9 : Hid (isF c.E [114, 101, 116, 117, 114, 110] (c.R k) = true) := by show _ = _; rw [isF_T, x1_9]; rfl
           have hlt : k < c.ts.length := fx_in G2.out.1.le (by rw [x1_9]; decide)
           clear x1_0 x1_1 x1_2 x1_3 x1_4 x1_5 x1_6 x1_7 x1_8 x1_9
           go_wp2_with fail
           refine (IHR.out _ G2.out.1).mono ?_; rintro e w27 ⟨r, hD, hr⟩
           rcases r with p | ⟨t27, R1⟩
           ·obtain ⟨rfl, hO⟩ := hr
            have HO := Lib.hid (G2.out.2.trans hO)
            have D27 := Lib.hid hD
            clear hD hO
            unfold sflt
            go_wp2_with fail
            exact bodyPost_panic rfl (post_err (show D c.E .statement (c.R k) (.error p) from D.mk1 D27.out fun m h0 => by simp only [body, Bool.false_eq_true, if_false, if_true, Q1_9_0.out, Q1_9_1.out, Q1_9_2.out, Q1_9_3.out, Q1_9_4.out, Q1_9_5.out, Q1_9_6.out, Q1_9_7.out, Q1_9_8.out, Q1_9_9.out, h0]) rfl HO.out)
           ·obtain ⟨j27, v27, rfl, hj27, rfl, hG, hT⟩ := hr
            have G28 : Hid (Go1 c w w27 j27) := ⟨hG.1, G2.out.2.trans hG.2⟩
            have T27 := Lib.hid (hT.lower G2.out.2.size)
            have D27 := Lib.hid hD
            clear hD hG hT
            go_wp2_with fail
            go_ret
            exact post_ok (show D c.E .statement (c.R k) (.ok (t27, c.R j27)) from D.mk1 D27.out fun m h0 => by simp only [body, Bool.false_eq_true, if_false, if_true, Q1_9_0.out, Q1_9_1.out, Q1_9_2.out, Q1_9_3.out, Q1_9_4.out, Q1_9_5.out, Q1_9_6.out, Q1_9_7.out, Q1_9_8.out, Q1_9_9.out, h0]) (by omega) rfl G28.out.1 G28.out.2 T27.out
          ·skip
           by_cases x1_10 : fx (c.T k) = [116, 104, 114, 111, 119]
           ·have n1_0 : ((bs (fx (c.T k))).toList == [123]) = false := gl_false (by rw [bs_list, x1_10]; decide)
            have Q1_10_0 : Hid (isF c.E [123] (c.R k) = false) := by show _ = _; rw [isF_T, x1_10]; rfl
            have n1_1 : ((bs (fx (c.T k))).toList == [118, 97, 114]) = false := gl_false (by rw [bs_list, x1_10]; decide)
            have Q1_10_1 : Hid (isF c.E [118, 97, 114] (c.R k) = false) := by show _ = _; rw [isF_T, x1_10]; rfl
            have n1_2 : ((bs (fx (c.T k))).toList == [59]) = false := gl_false (by rw [bs_list, x1_10]; decide)
            have Q1_10_2 : Hid (isF c.E [59] (c.R k) = false) := by show _ = _; rw [isF_T, x1_10]; rfl
            have n1_3 : ((bs (fx (c.T k))).toList == [105, 102]) = false := gl_false (by rw [bs_list, x1_10]; decide)
            have Q1_10_3 : Hid (isF c.E [105, 102] (c.R k) = false) := by show _ = _; rw [isF_T, x1_10]; rfl
            have n1_4 : ((bs (fx (c.T k))).toList == [119, 104, 105, 108, 101]) = false := gl_false (by rw [bs_list, x1_10]; decide)
            have Q1_10_4 : Hid (isF c.E [119, 104, 105, 108, 101] (c.R k) = false) := by show _ = _; rw [isF_T, x1_10]; rfl
            have n1_5 : ((bs (fx (c.T k))).toList == [100, 111]) = false := gl_false (by rw [bs_list, x1_10]; decide)
            have Q1_10_5 : Hid (isF c.E [100, 111] (c.R k) = false) := by show _ = _; rw [isF_T, x1_10]; rfl
            have n1_6 : ((bs (fx (c.T k))).toList == [102, 111, 114]) = false := gl_false (by rw [bs_list, x1_10]; decide)
            have Q1_10_6 : Hid (isF c.E [102, 111, 114] (c.R k) = false) := by show _ = _; rw [isF_T, x1_10]; rfl
            have n1_7 : ((bs (fx (c.T k))).toList == [98, 114, 101, 97, 107]) = false := gl_false (by rw [bs_list, x1_10]; decide)
            have Q1_10_7 : Hid (isF c.E [98, 114, 101, 97, 107] (c.R k) = false) := by show _ = _; rw [isF_T, x1_10]; rfl
            have n1_8 : ((bs (fx (c.T k))).toList == [99, 111, 110, 116, 105, 110, 117, 101]) = false := gl_false (by rw [bs_list, x1_10]; decide)
            have Q1_10_8 : Hid (isF c.E [99, 111, 110, 116, 105, 110, 117, 101] (c.R k) = false) := by show _ = _; rw [isF_T, x1_10]; rfl
            have n1_9 : ((bs (fx (c.T k))).toList == [114, 101, 116, 117, 114, 110]) = false := gl_false (by rw [bs_list, x1_10]; decide)
            have Q1_10_9 : Hid (isF c.E [114, 101, 116, 117, 114, 110] (c.R k) = false) := by show _ = _; rw [isF_T, x1_10]; rfl
            have n1_10 : ((bs (fx (c.T k))).toList == [116, 104, 114, 111, 119]) = true := gl_true (by rw [bs_list, x1_10])
            have Q1_10_10 : Hid (isF c.E [116, 104, 114, 111, 119] (c.R k) = true) := by show _ = _; rw [isF_T, x1_10]; rfl
            have hlt : k < c.ts.length := fx_in G2.out.1.le (by rw [x1_10]; decide)
            clear x1_0 x1_1 x1_2 x1_3 x1_4 x1_5 x1_6 x1_7 x1_8 x1_9 x1_10
            go_wp2_with fail
            refine (IHT.out _ G2.out.1).mono ?_; rintro e w29 ⟨r, hD, hr⟩
            rcases r with p | ⟨t29, R1⟩
            ·obtain ⟨rfl, hO⟩ := hr
             have HO := Lib.hid (G2.out.2.trans hO)
             have D29 := Lib.hid hD
             clear hD hO
             unfold sflt
             go_wp2_with fail
             exact bodyPost_panic rfl (post_err (show D c.E .statement (c.R k) (.error p) from D.mk1 D29.out fun m h0 => by simp only [body, Bool.false_eq_true, if_false, if_true, Q1_10_0.out, Q1_10_1.out, Q1_10_2.out, Q1_10_3.out, Q1_10_4.out, Q1_10_5.out, Q1_10_6.out, Q1_10_7.out, Q1_10_8.out, Q1_10_9.out, Q1_10_10.out, h0]) rfl HO.out)
            ·obtain ⟨j29, v29, rfl, hj29, rfl, hG, hT⟩ := hr
             have G30 : Hid (Go1 c w w29 j29) := ⟨hG.1, G2.out.2.trans hG.2⟩
             have T29 := Lib.hid (hT.lower G2.out.2.size)
             have D29 := Lib.hid hD
             clear hD hG hT
             go_wp2_with fail
             go_ret
             exact post_ok (show D c.E .statement (c.R k) (.ok (t29, c.R j29)) from D.mk1 D29.out fun m h0 => by simp only [body, Bool.false_eq_true, if_false, if_true, Q1_10_0.out, Q1_10_1.out, Q1_10_2.out, Q1_10_3.out, Q1_10_4.out, Q1_10_5.out, Q1_10_6.out, Q1_10_7.out, Q1_10_8.out, Q1_10_9.out, Q1_10_10.out, h0]) (by omega) rfl G30.out.1 G30.out.2 T29.out
           ·skip
            by_cases x1_11 : fx (c.T k) = [116, 114, 121]
            ·have n1_0 : ((bs (fx (c.T k))).toList == [123]) = false := gl_false (by rw [bs_list, x1_11]; decide)
             have Q1_11_0 : Hid (isF c.E [123] (c.R k) = false) := by show _ = _; rw [isF_T, x1_11]; rfl
             have n1_1 : ((bs (fx (c.T k))).toList == [118, 97, 114]) = false := gl_false (by rw [bs_list, x1_11]; decide)
             have Q1_11_1 : Hid (isF c.E [118, 97, 114] (c.R k) = false) := by show _ = _; rw [isF_T, x1_11]; rfl
             have n1_2 : ((bs (fx (c.T k))).toList == [59]) = false := gl_false (by rw [bs_list, x1_11]; decide)
             have Q1_11_2 : Hid (isF c.E [59] (c.R k) = false) := by show _ = _; rw [isF_T, x1_11]; rfl
             have n1_3 : ((bs (fx (c.T k))).toList == [105, 102]) = false := gl_false (by rw [bs_list, x1_11]; decide)
             have Q1_11_3 : Hid (isF c.E [105, 102] (c.R k) = false) := by show _ = _; rw [isF_T, x1_11]; rfl
             have n1_4 : ((bs (fx (c.T k))).toList == [119, 104, 105, 108, 101]) = false := gl_false (by rw [bs_list, x1_11]; decide)
             have Q1_11_4 : Hid (isF c.E [119, 104, 105, 108, 101] (c.R k) = false) := by show _ = _; rw [isF_T, x1_11]; rfl
             have n1_5 : ((bs (fx (c.T k))).toList == [100, 111]) = false := gl_false (by rw [bs_list, x1_11]; decide)
             have Q1_11_5 : Hid (isF c.E [100, 111] (c.R k) = false) := by show _ = _; rw [isF_T, x1_11]; rfl
             have n1_6 : ((bs (fx (c.T k))).toList == [102, 111, 114]) = false := gl_false (by rw [bs_list, x1_11]; decide)
             have Q1_11_6 : Hid (isF c.E [102, 111, 114] (c.R k) = false) := by show _ = _; rw [isF_T, x1_11]; rfl
             have n1_7 : ((bs (fx (c.T k))).toList == [98, 114, 101, 97, 107]) = false := gl_false (by rw [bs_list, x1_11]; decide)
             have Q1_11_7 : Hid (isF c.E [98, 114, 101, 97, 107] (c.R k) = false) := by show _ = _; rw [isF_T, x1_11]; rfl
             have n1_8 : ((bs (fx (c.T k))).toList == [99, 111, 110, 116, 105, 110, 117, 101]) = false := gl_false (by rw [bs_list, x1_11]; decide)
             have Q1_11_8 : Hid (isF c.E [99, 111, 110, 116, 105, 110, 117, 101] (c.R k) = false) := by show _ = _; rw [isF_T, x1_11]; rfl
             have n1_9 : ((bs (fx (c.T k))).toList == [114, 101, 116, 117, 114, 110]) = false := gl_false (by rw [bs_list, x1_11]; decide)
             have Q1_11_9 : Hid (isF c.E [114, 101, 116, 117, 114, 110] (c.R k) = false) := by show _ = _; rw [isF_T, x1_11]; rfl
             have n1_10 : ((bs (fx (c.T k))).toList == [116, 104, 114, 111, 119]) = false := gl_false (by rw [bs_list, x1_11]; decide)
             have Q1_11_10 : Hid (isF c.E [116, 104, 114, 111, 119] (c.R k) = false) := by show _ = _; rw [isF_T, x1_11]; rfl
             have n1_11 : ((bs (fx (c.T k))).toList == [116, 114, 121]) = true := gl_true (by rw [bs_list, x1_11])
             have Q1_11_11 : Hid (isF c.E [116, 114, 121] (c.R k) = true) := by show _ = _; rw [isF_T, x1_11]; rfl
             have hlt : k < c.ts.length := fx_in G2.out.1.le (by rw [x1_11]; decide)
             clear x1_0 x1_1 x1_2 x1_3 x1_4 x1_5 x1_6 x1_7 x1_8 x1_9 x1_10 x1_11
             go_wp2_with fail
             refine (IHY.out _ G2.out.1).mono ?_; rintro e w31 ⟨r, hD, hr⟩
             rcases r with p | ⟨t31, R1⟩
             ·obtain ⟨rfl, hO⟩ := hr
              have HO := Lib.hid (G2.out.2.trans hO)
              have D31 := Lib.hid hD
              clear hD hO
              unfold sflt
              go_wp2_with fail
              exact bodyPost_panic rfl (post_err (show D c.E .statement (c.R k) (.error p) from D.mk1 D31.out fun m h0 => by simp only [body, Bool.false_eq_true, if_false, if_true, Q1_11_0.out, Q1_11_1.out, Q1_11_2.out, Q1_11_3.out, Q1_11_4.out, Q1_11_5.out, Q1_11_6.out, Q1_11_7.out, Q1_11_8.out, Q1_11_9.out, Q1_11_10.out, Q1_11_11.out, h0]) rfl HO.out)
             ·obtain ⟨j31, v31, rfl, hj31, rfl, hG, hT⟩ := hr
              have G32 : Hid (Go1 c w w31 j31) := ⟨hG.1, G2.out.2.trans hG.2⟩
              have T31 := Lib.hid (hT.lower G2.out.2.size)
              have D31 := Lib.hid hD
              clear hD hG hT
              go_wp2_with fail
              go_ret
              exact post_ok (show D c.E .statement (c.R k) (.ok (t31, c.R j31)) from D.mk1 D31.out fun m h0 => by simp only [body, Bool.false_eq_true, if_false, if_true, Q1_11_0.out, Q1_11_1.out, Q1_11_2.out, Q1_11_3.out, Q1_11_4.out, Q1_11_5.out, Q1_11_6.out, Q1_11_7.out, Q1_11_8.out, Q1_11_9.out, Q1_11_10.out, Q1_11_11.out, h0]) (by omega) rfl G32.out.1 G32.out.2 T31.out
            ·skip
             by_cases x1_12 : fx (c.T k) = [102, 117, 110, 99, 116, 105, 111, 110]
             ·have n1_0 : ((bs (fx (c.T k))).toList == [123]) = false := gl_false (by rw [bs_list, x1_12]; decide)
              have Q1_12_0 : Hid (isF c.E [123] (c.R k) = false) := by show _ = _; rw [isF_T, x1_12]; rfl
              have n1_1 : ((bs (fx (c.T k))).toList == [118, 97, 114]) = false := gl_false (by rw [bs_list, x1_12]; decide)
              have Q1_12_1 : Hid (isF c.E [118, 97, 114] (c.R k) = false) := by show _ = _; rw [isF_T, x1_12]; rfl
              have n1_2 : ((bs (fx (c.T k))).toList == [59]) = false := gl_false (by rw [bs_list, x1_12]; decide)
              have Q1_12_2 : Hid (isF c.E [59] (c.R k) = false) := by show _ = _; rw [isF_T, x1_12]; rfl
              have n1_3 : ((bs (fx (c.T k))).toList == [105, 102]) = false := gl_false (by rw [bs_list, x1_12]; decide)
              have Q1_12_3 : Hid (isF c.E [105, 102] (c.R k) = false) := by show _ = _; rw [isF_T, x1_12]; rfl
              have n1_4 : ((bs (fx (c.T k))).toList == [119, 104, 105, 108, 101]) = false := gl_false (by rw [bs_list, x1_12]; decide)
              have Q1_12_4 : Hid (isF c.E [119, 104, 105, 108, 101] (c.R k) = false) := by show _ = _; rw [isF_T, x1_12]; rfl
              have n1_5 : ((bs (fx (c.T k))).toList == [100, 111]) = false := gl_false (by rw [bs_list, x1_12]; decide)
              have Q1_12_5 : Hid (isF c.E [100, 111] (c.R k) = false) := by show _ = _; rw [isF_T, x1_12]; rfl
              have n1_6 : ((bs (fx (c.T k))).toList == [102, 111, 114]) = false := gl_false (by rw [bs_list, x1_12]; decide)
              have Q1_12_6 : Hid (isF c.E [102, 111, 114] (c.R k) = false) := by show _ = _; rw [isF_T, x1_12]; rfl
              have n1_7 : ((bs (fx (c.T k))).toList == [98, 114, 101, 97, 107]) = false := gl_false (by rw [bs_list, x1_12]; decide)
              have Q1_12_7 : Hid (isF c.E [98, 114, 101, 97, 107] (c.R k) = false) := by show _ = _; rw [isF_T, x1_12]; rfl
              have n1_8 : ((bs (fx (c.T k))).toList == [99, 111, 110, 116, 105, 110, 117, 101]) = false := gl_false (by rw [bs_list, x1_12]; decide)
              have Q1_12_8 : Hid (isF c.E [99, 111, 110, 116, 105, 110, 117, 101] (c.R k) = false) := by show _ = _; rw [isF_T, x1_12]; rfl
              have n1_9 : ((bs (fx (c.T k))).toList == [114, 101, 116, 117, 114, 110]) = false := gl_false (by rw [bs_list, x1_12]; decide)
              have Q1_12_9 : Hid (isF c.E [114, 101, 116, 117, 114, 110] (c.R k) = false) := by show _ = _; rw [isF_T, x1_12]; rfl
              have n1_10 : ((bs (fx (c.T k))).toList == [116, 104, 114, 111, 119]) = false := gl_false (by rw [bs_list, x1_12]; decide)
              have Q1_12_10 : Hid (isF c.E [116, 104, 114, 111, 119] (c.R k) = false) := by show _ = _; rw [isF_T, x1_12]; rfl
              have n1_11 : ((bs (fx (c.T k))).toList == [116, 114, 121]) = false := gl_false (by rw [bs_list, x1_12]; decide)
              have Q1_12_11 : Hid (isF c.E [116, 114, 121] (c.R k) = false) := by show _ = _; rw [isF_T, x1_12]; rfl
              have n1_12 : ((bs (fx (c.T k))).toList == [102, 117, 110, 99, 116, 105, 111, 110]) = true := gl_true (by rw [bs_list, x1_12])
              have Q1_12_12 : Hid (isF c.E [102, 117, 110, 99, 116, 105, 111, 110] (c.R k) = true) := by show _ = _; rw [isF_T, x1_12]; rfl
              have hlt : k < c.ts.length := fx_in G2.out.1.le (by rw [x1_12]; decide)
              clear x1_0 x1_1 x1_2 x1_3 x1_4 x1_5 x1_6 x1_7 x1_8 x1_9 x1_10 x1_11 x1_12
              go_wp2_with fail
              refine (sgiveUp_any c k _ G2.out.1).mono ?_; rintro e w33 ⟨rfl, hB⟩
              have HO := Lib.hid (G2.out.2.below hB)
              clear hB
              unfold sflt
              go_wp2_with fail
              exact bodyPost_panic rfl (post_err (show D c.E .statement (c.R k) (.error (c.T k).pos) from D.mk0 fun m => by simp only [body, Bool.false_eq_true, if_false, if_true, bad, R_hd, Q1_12_0.out, Q1_12_1.out, Q1_12_2.out, Q1_12_3.out, Q1_12_4.out, Q1_12_5.out, Q1_12_6.out, Q1_12_7.out, Q1_12_8.out, Q1_12_9.out, Q1_12_10.out, Q1_12_11.out, Q1_12_12.out]) rfl HO.out)
             ·have n1_0 : ((bs (fx (c.T k))).toList == [123]) = false := gl_false (by rw [bs_list]; exact x1_0)
              have Q1_d_0 : Hid (isF c.E [123] (c.R k) = false) := by show _ = _; rw [isF_T, beq_eq_false_iff_ne]; exact x1_0
              have n1_1 : ((bs (fx (c.T k))).toList == [118, 97, 114]) = false := gl_false (by rw [bs_list]; exact x1_1)
              have Q1_d_1 : Hid (isF c.E [118, 97, 114] (c.R k) = false) := by show _ = _; rw [isF_T, beq_eq_false_iff_ne]; exact x1_1
              have n1_2 : ((bs (fx (c.T k))).toList == [59]) = false := gl_false (by rw [bs_list]; exact x1_2)
              have Q1_d_2 : Hid (isF c.E [59] (c.R k) = false) := by show _ = _; rw [isF_T, beq_eq_false_iff_ne]; exact x1_2
              have n1_3 : ((bs (fx (c.T k))).toList == [105, 102]) = false := gl_false (by rw [bs_list]; exact x1_3)
              have Q1_d_3 : Hid (isF c.E [105, 102] (c.R k) = false) := by show _ = _; rw [isF_T, beq_eq_false_iff_ne]; exact x1_3
              have n1_4 : ((bs (fx (c.T k))).toList == [119, 104, 105, 108, 101]) = false := gl_false (by rw [bs_list]; exact x1_4)
              have Q1_d_4 : Hid (isF c.E [119, 104, 105, 108, 101] (c.R k) = false) := by show _ = _; rw [isF_T, beq_eq_false_iff_ne]; exact x1_4
              have n1_5 : ((bs (fx (c.T k))).toList == [100, 111]) = false := gl_false (by rw [bs_list]; exact x1_5)
              have Q1_d_5 : Hid (isF c.E [100, 111] (c.R k) = false) := by show _ = _; rw [isF_T, beq_eq_false_iff_ne]; exact x1_5
              have n1_6 : ((bs (fx (c.T k))).toList == [102, 111, 114]) = false := gl_false (by rw [bs_list]; exact x1_6)
              have Q1_d_6 : Hid (isF c.E [102, 111, 114] (c.R k) = false) := by show _ = _; rw [isF_T, beq_eq_false_iff_ne]; exact x1_6
              have n1_7 : ((bs (fx (c.T k))).toList == [98, 114, 101, 97, 107]) = false := gl_false (by rw [bs_list]; exact x1_7)
              have Q1_d_7 : Hid (isF c.E [98, 114, 101, 97, 107] (c.R k) = false) := by show _ = _; rw [isF_T, beq_eq_false_iff_ne]; exact x1_7
              have n1_8 : ((bs (fx (c.T k))).toList == [99, 111, 110, 116, 105, 110, 117, 101]) = false := gl_false (by rw [bs_list]; exact x1_8)
              have Q1_d_8 : Hid (isF c.E [99, 111, 110, 116, 105, 110, 117, 101] (c.R k) = false) := by show _ = _; rw [isF_T, beq_eq_false_iff_ne]; exact x1_8
              have n1_9 : ((bs (fx (c.T k))).toList == [114, 101, 116, 117, 114, 110]) = false := gl_false (by rw [bs_list]; exact x1_9)
              have Q1_d_9 : Hid (isF c.E [114, 101, 116, 117, 114, 110] (c.R k) = false) := by show _ = _; rw [isF_T, beq_eq_false_iff_ne]; exact x1_9
              have n1_10 : ((bs (fx (c.T k))).toList == [116, 104, 114, 111, 119]) = false := gl_false (by rw [bs_list]; exact x1_10)
              have Q1_d_10 : Hid (isF c.E [116, 104, 114, 111, 119] (c.R k) = false) := by show _ = _; rw [isF_T, beq_eq_false_iff_ne]; exact x1_10
              have n1_11 : ((bs (fx (c.T k))).toList == [116, 114, 121]) = false := gl_false (by rw [bs_list]; exact x1_11)
              have Q1_d_11 : Hid (isF c.E [116, 114, 121] (c.R k) = false) := by show _ = _; rw [isF_T, beq_eq_false_iff_ne]; exact x1_11
              have n1_12 : ((bs (fx (c.T k))).toList == [102, 117, 110, 99, 116, 105, 111, 110]) = false := gl_false (by rw [bs_list]; exact x1_12)
              have Q1_d_12 : Hid (isF c.E [102, 117, 110, 99, 116, 105, 111, 110] (c.R k) = false) := by show _ = _; rw [isF_T, beq_eq_false_iff_ne]; exact x1_12
              clear x1_0 x1_1 x1_2 x1_3 x1_4 x1_5 x1_6 x1_7 x1_8 x1_9 x1_10 x1_11 x1_12
              go_wp2_with fail
              refine (IHE.out _ G2.out.1).mono ?_; rintro e w34 ⟨r, hD, hr⟩
              rcases r with p | ⟨t34, R1⟩
              ·obtain ⟨rfl, hO⟩ := hr
               have HO := Lib.hid (G2.out.2.trans hO)
               have D34 := Lib.hid hD
               clear hD hO
               unfold sflt
               go_wp2_with fail
               exact bodyPost_panic rfl (post_err (show D c.E .statement (c.R k) (.error p) from D.mk1 D34.out fun m h0 => by simp only [body, Bool.false_eq_true, if_false, bnd, Q1_d_0.out, Q1_d_1.out, Q1_d_2.out, Q1_d_3.out, Q1_d_4.out, Q1_d_5.out, Q1_d_6.out, Q1_d_7.out, Q1_d_8.out, Q1_d_9.out, Q1_d_10.out, Q1_d_11.out, Q1_d_12.out, h0]) rfl HO.out)
              ·obtain ⟨j34, vv, rfl, hj34, rfl, hG, hT⟩ := hr
               obtain ⟨v34, rfl⟩ := hT.ptr
               have G35 : Hid (Go1 c w w34 j34) := ⟨hG.1, G2.out.2.trans hG.2⟩
               have T34 := Lib.hid (hT.lower G2.out.2.size)
               have D34 := Lib.hid hD
               clear hD hG hT
               go_wp2_with fail
               refine (newNode_any _ _ _ _ _ _).mono ?_; rintro e w36 hm
               obtain ⟨a36, rfl, hT, hB⟩ := node_kids (k := 6) (x := []) (vs := [(.pointer (some ⟨v34, 0, none⟩))]) (kids := [t34]) (IsTs.cons T34.out (IsTs.nil _ _)) G35.out.2.size hm
               have G37 : Hid (Go1 c w w36 j34) := ⟨G35.out.1.below hB, G35.out.2.below hB⟩
               have T36 := Lib.hid hT
               clear hT hB hm
               go_wp2_with fail
               cases hq : isF c.E [59] (c.R j34)
               ·refine (ended_no c j34 _ _ G37.out.1 hq).mono ?_; rintro e w39 ⟨rfl, hB⟩
                have HO := Lib.hid (G37.out.2.below hB)
                have Q39 := Lib.hid hq
                clear hB hq
                unfold sflt
                go_wp2_with fail
                exact bodyPost_panic rfl (post_err (show D c.E .statement (c.R k) (.error (c.T j34).pos) from D.mk1 D34.out fun m h0 => by simp only [body, Bool.false_eq_true, if_false, bnd, need, bad, R_hd, Q1_d_0.out, Q1_d_1.out, Q1_d_2.out, Q1_d_3.out, Q1_d_4.out, Q1_d_5.out, Q1_d_6.out, Q1_d_7.out, Q1_d_8.out, Q1_d_9.out, Q1_d_10.out, Q1_d_11.out, Q1_d_12.out, Q39.out, h0]) rfl HO.out)
               ·refine (ended_yes c j34 _ _ G37.out.1 hq).mono ?_; rintro e w39 ⟨rfl, hG⟩
                have G40 : Hid (Go1 c w w39 (j34 + 1)) := ⟨hG.1, G37.out.2.trans hG.2⟩
                have T42 := Lib.hid (T36.out.off hG.2 hbl)
                have Q39 := Lib.hid hq
                clear hG hq
                go_wp2_with fail
                go_ret
                exact post_ok (show D c.E .statement (c.R k) (.ok ((nd 6 [] [t34]), c.R (j34 + 1))) from D.mk1 D34.out fun m h0 => by simp only [body, Bool.false_eq_true, if_false, bnd, need, if_true, R_tail, ret, Q1_d_0.out, Q1_d_1.out, Q1_d_2.out, Q1_d_3.out, Q1_d_4.out, Q1_d_5.out, Q1_d_6.out, Q1_d_7.out, Q1_d_8.out, Q1_d_9.out, Q1_d_10.out, Q1_d_11.out, Q1_d_12.out, Q39.out, h0]) (by omega) rfl G40.out.1 G40.out.2 T42.out
end Go.Proofs.YtnkfodelgpidkaaGreatDoor
