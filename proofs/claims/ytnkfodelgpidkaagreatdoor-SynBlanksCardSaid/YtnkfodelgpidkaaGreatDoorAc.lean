/- Rows of trees that grow, in memory. -/
import Derived.Test.YtnkfodelgpidkaaGreatDoorG7
namespace Go.Proofs.YtnkfodelgpidkaaGreatDoor
open Go.RowKit
set_option linter.unusedVariables false

/-- A row of the call's own, from block lo on, over trees that lie beside it. -/
def Acc (lo : Nat) (w : World) (v : Value) (vs : List Value) (kids : List Tr) : Prop :=
  w.ownsRow lo 59 1 v vs.length vs ∧ ∃ S : Nat → Prop, IsTs w S vs kids ∧ (∀ i, S i → F lo w.heap.size i) ∧ ∀ g, v.ownBlock = some g → ¬ S g
theorem Acc.nil (lo : Nat) (w : World) : Acc lo w (.slice none 0 0) [] [] :=
  ⟨World.ownsRow_nil _ _ _ _, fun _ => False, IsTs.nil _ _, fun _ h => h.elim, fun _ _ h => h⟩
theorem own_offN {b lo : Nat} {w w' : World} {v : Value} {n : Nat} {xs : List Value} (h : w.ownsRow lo 59 1 v n xs) (ho : Off b w w') (hb : b < lo) : w'.ownsRow lo 59 1 v n xs := by
  refine h.kept (row := some b) ⟨ho.os, ho.tape, ho.output, ho.size, fun k hk hr => ho.block k hk (fun e => hr (by rw [e]))⟩ ?_
  cases hv : v.ownBlock with
  | none => exact .inl rfl
  | some g => exact .inr (fun e => by injection e with e; have := (h.lt g hv).1; omega)
theorem Acc.off {b lo : Nat} {w w' : World} {v : Value} {vs : List Value} {kids : List Tr} (h : Acc lo w v vs kids) (ho : Off b w w') (hb : b < lo) : Acc lo w' v vs kids := by
  obtain ⟨h1, S, h2, h3, h4⟩ := h
  exact ⟨own_offN h1 ho hb, S, h2.keep (fun _ h => h) fun i hi => ho.block i (h3 i hi).2 (by have := (h3 i hi).1; omega), fun i hi => F.mono (Nat.le_refl _) ho.size i (h3 i hi), h4⟩
theorem Acc.len {lo : Nat} {w : World} {v : Value} {vs : List Value} {kids : List Tr} (h : Acc lo w v vs kids) : vs.length = kids.length := by obtain ⟨_, _, h, _⟩ := h; exact h.1
theorem Acc.slice {lo : Nat} {w : World} {v : Value} {vs : List Value} {kids : List Tr} (h : Acc lo w v vs kids) : ∃ ao cp, v = .slice ao vs.length cp := own_slice h.1
/-- One more. -/
theorem Acc.push {lo lo2 : Nat} {w w3 : World} {v x : Value} {vs : List Value} {kids : List Tr} {t : Tr} {g cap : Nat} (h : Acc lo w v vs kids) (hx : IsT w (F lo2 w.heap.size) x t) (hlo : lo ≤ lo2)
    (hold : ∀ i, v.ownBlock = some i → i < lo2) (T : TypeId) (hown : w3.ownsRow lo 59 1 (.slice (some ⟨g, 0, none⟩) (vs.length + 1) cap) (vs.length + 1) (vs ++ [x]))
    (hgrow : (w.alloc (.cells #[x] T)).grownBy w3 v.ownBlock) (hat : v.ownBlock = some g ∨ g = w.heap.size + 1) :
    Acc lo w3 (.slice (some ⟨g, 0, none⟩) (vs ++ [x]).length cap) (vs ++ [x]) (kids ++ [t]) := by
  obtain ⟨h1, S, h2, h3, h4⟩ := h
  have hz : (w.alloc (.cells #[x] T)).heap.size = w.heap.size + 1 := by simp
  have hz3 := hgrow.size
  have hS : ∀ i, S i ∨ F lo2 w.heap.size i → w3.heap[i]? = w.heap[i]? := by
    intro i hi
    have hlt : i < w.heap.size := by rcases hi with hi | hi; exact (h3 i hi).2; exact hi.2
    refine (hgrow.block i (by omega) ?_).trans (Below.heap_alloc w _ i hlt)
    intro e
    rcases hi with hi | hi
    · exact h4 i e.symm hi
    · have := hold i e.symm; have := hi.1; omega
  refine ⟨by rw [List.length_append]; exact hown, fun i => S i ∨ F lo2 w.heap.size i, ?_, ?_, ?_⟩
  · exact IsTs.append (h2.keep (fun _ h => .inl h) fun i hi => hS i (.inl hi)) (IsTs.cons (hx.keep (fun _ h => .inr h) fun i hi => hS i (.inr hi)) (IsTs.nil _ _))
  · intro i hi
    rcases hi with hi | hi
    · exact ⟨(h3 i hi).1, by have := (h3 i hi).2; omega⟩
    · exact ⟨Nat.le_trans hlo hi.1, by have := hi.2; omega⟩
  · intro i hi hs
    have e : g = i := by simpa [Value.ownBlock] using hi
    subst e
    rcases hat with hat | hat
    · rcases hs with hs | hs
      · exact h4 g hat hs
      · have := hold g hat; have := hs.1; omega
    · rcases hs with hs | hs
      · have := (h3 g hs).2; omega
      · have := hs.2; omega
theorem Go1.old {c : Cx} {w w' w'' : World} {k : Nat} (h : Go1 c w w' k) (hb : Below w.heap.size w' w'') (hg : c.g < w.heap.size) (hl : c.b < w.heap.size) (h0 : c.w0.heap.size ≤ w.heap.size) : Go1 c w w'' k :=
  ⟨⟨(hb.block _ hl).trans h.1.rd, (hb.block _ hg).trans h.1.row, h.1.le, h.1.ok, h.1.base.trans (hb.mono h0)⟩, h.2.belowAt hb⟩
theorem info_ptr : (Tryz.prog.info? 59).map (fun i => (i.zero, i.size, i.bytes)) = some (some (.pointer none), 1, 8) := by kernel_rfl
/-- What is behind an append to a row of the call's own. -/
theorem grown_old {lo : Nat} {w w3 : World} {v x : Value} {n : Nat} {xs : List Value} {T : TypeId} (hown : w.ownsRow lo 59 1 v n xs) (hlo : lo ≤ w.heap.size) (hgrow : (w.alloc (.cells #[x] T)).grownBy w3 v.ownBlock) : Below lo w w3 :=
  ((Below.refl lo w).alloc hlo _).grown hgrow (by simp; omega) (fun k hk => (hown.lt k hk).1)

set_option maxRecDepth 100000 in
set_option maxHeartbeats 1000000 in
theorem until_any (c : Cx) (k : Nat) (stop : List UInt8) (hst : stop ≠ []) (it : NT) (f : Nat) (EG : ∀ args w, (callFunc f args).run Tryz.prog w = .ok (.enter f args) w) (IH : ∀ j, k ≤ j → Ok c it f #[c.p] j) :
    OkL c (.untl stop it) 146 #[c.p, .string (bs stop), .func (.func f) #[c.p] #[]] k := by
  intro w h
  have hbl := h.lt
  have hfew := h.ok.few
  have hgl := h.ltg
  have h0l := h.base.size
  have G0 : Hid (Go1 c w w k) := ⟨h, Off.refl _ _⟩
  have IHH := Lib.hid IH
  have hkl := h.le
  clear h IH
  go_enter Tryz.func146, Tryz.ntmps146
  go_wp2_with fail
  have HST := Lib.hid hst
  go_loopg [7] (c.ts.length - k) (fun g l wr => ∃ (kj : Nat) (vs : List Value) (kids : List Tr), g = c.ts.length - kj ∧ k ≤ kj ∧ vs.length ≤ kj ∧ Hid (Go1 c w wr kj) ∧ Hid (Acc w.heap.size wr l vs kids) ∧ Hid (∀ p, D c.E (.untl stop it) (c.R kj) (.error p) → D c.E (.untl stop it) (c.R k) (.error p)) ∧ Hid (∀ l R', D c.E (.untl stop it) (c.R kj) (.ok (bag l, R')) → D c.E (.untl stop it) (c.R k) (.ok (bag (kids ++ l), R'))))
  case atStart => exact ⟨k, [], [], rfl, Nat.le_refl _, Nat.zero_le _, G0.out, Acc.nil _ _, fun p h => h, fun l R' h => h⟩
  case round =>
    obtain ⟨kj, vs, kids, rfl, hkj, hvs, GL, HA, DE, DL⟩ := hrel
    obtain ⟨ao, cp, rfl⟩ := HA.out.slice
    have hkl2 := GL.out.1.le
    cases hq : isF c.E stop (c.R kj)
    · have Q1 := Lib.hid hq
      go_wp2_with fail
      refine (skip_no c kj (bs stop) _ GL.out.1 hq).mono ?_; rintro e w1 ⟨rfl, hB⟩
      have G1 : Hid (Go1 c w w1 kj) := ⟨GL.out.1.below hB, GL.out.2.below hB⟩
      have HA1 := Lib.hid (HA.out.off (Off.of_below hB) hbl)
      have hz1 := Lib.hid hB.size
      clear hB hq
      go_wp2_with fail
      refine (IHH.out kj hkj _ G1.out.1).mono ?_; rintro e w2 ⟨r, hD, hr⟩
      rcases r with p | ⟨t, R1⟩
      · obtain ⟨rfl, hO⟩ := hr
        have HO := Lib.hid (G1.out.2.trans hO)
        have D1 := Lib.hid hD
        clear hD hO
        unfold sflt
        go_wp2_with fail
        exact bodyPost_panic rfl (postL_err (DE.out p (D.mk1 D1.out fun m h0 => by simp only [body, Q1.out, Bool.false_eq_true, if_false, bnd, h0])) rfl HO.out)
      · obtain ⟨j2, vv, rfl, hj2, rfl, hG, hT⟩ := hr
        obtain ⟨a2, rfl⟩ := hT.ptr
        have G2 : Hid (Go1 c w w2 j2) := ⟨hG.1, G1.out.2.trans hG.2⟩
        have HA2 := Lib.hid (HA1.out.off hG.2 hbl)
        have HT := Lib.hid hT
        have hz2' := Lib.hid hG.2.size
        have hown := HA2.out.1
        have D1 := Lib.hid hD
        have hold : Hid (∀ i, (Value.slice ao vs.length cp).ownBlock = some i → i < w1.heap.size) := fun i hi => (HA1.out.1.lt i hi).2
        have hwl : w.heap.size ≤ w2.heap.size := G2.out.2.size
        have hj2l := G2.out.1.le
        clear hD hG hT
        obtain ⟨i0, hi, hz0, hz1', hz2⟩ := info_parts info_ptr
        go_wp2_with (at_builtin; refine wpList_append_lies _ rfl _ _ 87 rfl w.heap.size 59 i0 _ 1 8 Tryz.underlying87 hi hz0 hz1' hz2 rfl (by decide) _ _ _ rfl (hown.alloc _) ⟨w2.heap.size, 0, none⟩ 1 1 [.pointer (some ⟨a2, 0, none⟩)] rfl rfl ?c1 ?c2 (by decide) ?c3 ?c4 ?c5 (w2.heap.size + 1) (by simp) ?_)
        case c1 =>
          intro j u hj
          match j, hj with
          | 0, hj => simp at hj; subst hj; simp [Addr.add]
        case c2 => intro u hu; simp at hu; subst hu; rfl
        case c3 => unfold maxLen; omega
        case c4 => omega
        case c5 => simp; omega
        intro g cap w3 hown3 hgrow hat hlt3
        have hbel := grown_old hown hwl hgrow
        have G3 : Hid (Go1 c w w3 j2) := G2.out.old hbel hgl hbl h0l
        have HA3 := Lib.hid (HA2.out.push HT.out (Nat.le_trans G1.out.2.size (Nat.le_refl _)) hold.out _ hown3 hgrow hat)
        have D2 : Hid (∀ p, D c.E (.untl stop it) (c.R j2) (.error p) → D c.E (.untl stop it) (c.R k) (.error p)) := fun p h => DE.out p (D.mk2 D1.out h fun m h0 h1 => by simp only [body, Q1.out, Bool.false_eq_true, if_false, bnd, h0, h1])
        have D3 : Hid (∀ l R', D c.E (.untl stop it) (c.R j2) (.ok (bag l, R')) → D c.E (.untl stop it) (c.R k) (.ok (bag (kids ++ [t] ++ l), R'))) := fun l R' h => by
          have := DL.out (t :: l) R' (D.mk2 D1.out h fun m h0 h1 => by simp only [body, Q1.out, Bool.false_eq_true, if_false, bnd, h0, h1, ret, Tr.kids])
          rwa [List.append_assoc]
        clear hown3 hgrow hat hlt3 hbel hown hi hz0 hz1' hz2
        go_wp2_with fail
        go_roundg (c.ts.length - j2)
        case measure => omega
        case rel => exact ⟨j2, vs ++ [.pointer (some ⟨a2, 0, none⟩)], kids ++ [t], rfl, by omega, by rw [List.length_append]; show vs.length + 1 ≤ j2; omega, G3.out, by have := HA3.out; rw [List.length_append] at this; exact this, D2.out, D3.out⟩
    · have Q1 := Lib.hid hq
      go_wp2_with fail
      refine (skip_yes c kj (bs stop) HST.out _ GL.out.1 hq).mono ?_; rintro e w1 ⟨rfl, hG⟩
      have G1 : Hid (Go1 c w w1 (kj + 1)) := ⟨hG.1, GL.out.2.trans hG.2⟩
      have HA1 := Lib.hid (HA.out.off hG.2 hbl)
      clear hG hq
      go_wp2_with fail
      go_ret
      obtain ⟨ho, S, h2, h3, h4⟩ := HA1.out
      exact ⟨.ok (bag kids, c.R (kj + 1)), by have := DL.out [] (c.R (kj + 1)) (D.mk0 fun m => by simp only [body, Q1.out, if_true, ret, R_tail]); rwa [List.append_nil] at this, kj + 1, _, vs, S, rfl, by omega, rfl, G1.out, ho, h2, h3, h4⟩
end Go.Proofs.YtnkfodelgpidkaaGreatDoor
