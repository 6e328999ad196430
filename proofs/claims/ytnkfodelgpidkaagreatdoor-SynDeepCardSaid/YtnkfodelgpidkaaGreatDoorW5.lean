/- Part of a proof that the program keeps SynDeep: contracts of its functions and of the document's. -/
import Derived.Test.YtnkfodelgpidkaaGreatDoorW4
import Derived.Deep.RegionLaw
import Derived.Test.YtnkfodelgpidkaaGreatDoorW1
import Derived.Test.YtnkfodelgpidkaaGreatDoorW2
import Derived.Test.YtnkfodelgpidkaaGreatDoorW3
import Derived.Conc.MuLone
set_option maxRecDepth 100000
set_option maxHeartbeats 4000000
set_option linter.unusedVariables false
set_option linter.unusedSimpArgs false
namespace Go.Proofs.YtnkfodelgpidkaaGreatDoor
open Go.RowKit
def Opn (lo : Nat) (w : World) (a : Nat) (k : Int) (x : List UInt8) (v : Value) (vs : List Value) (kids : List Tr) : Prop :=
 lo ≤ a ∧ w.heap[a]? = some (.cells #[.int .i64 k, .string (bs x), .int .u64 0, v] 89 (0, 0)) ∧ w.ownsRow lo 59 1 v vs.length vs ∧ v.ownBlock ≠ some a ∧
 ∃ S : Nat → Prop, IsTs w S vs kids ∧ (∀ i, S i → F lo w.heap.size i) ∧ (∀ g, v.ownBlock = some g → ¬ S g) ∧ ¬ S a
section
variable {lo a : Nat} {w w' : World} {k : Int} {x : List UInt8} {v : Value} {vs : List Value} {kids : List Tr}
theorem Opn.lt (h : Opn lo w a k x v vs kids) : a < w.heap.size := lt_of_get h.2.1
theorem Opn.c3 (h : Opn lo w a k x v vs kids) : w.cell? ⟨a, 3, none⟩ = some v := by have := h.2.1; simp [World.cell?, this]
theorem Opn.slice (h : Opn lo w a k x v vs kids) : ∃ ao cp, v = .slice ao vs.length cp := own_slice h.2.2.1
theorem Opn.off {b : Nat} (h : Opn lo w a k x v vs kids) (ho : Off b w w') (hb : b < lo) : Opn lo w' a k x v vs kids := by
 have hl := h.lt
 obtain ⟨h1, h2, h3, h4, S, h5, h6, h7, h8⟩ := h
 exact ⟨h1, (ho.block a hl (by omega)).trans h2, own_offN h3 ho hb, h4, S, h5.keep (fun _ h => h) fun i hi => ho.block i (h6 i hi).2 (by have := (h6 i hi).1; omega), fun i hi => F.mono (Nat.le_refl _) ho.size i (h6 i hi), h7, h8⟩
theorem own_stay (h : w.ownsRow lo 59 1 v vs.length vs) (hb : Below w.heap.size w w') : w'.ownsRow lo 59 1 v vs.length vs := by
 refine h.kept (row := none) ⟨hb.os, hb.tape, hb.output, hb.size, fun k hk _ => hb.block k hk⟩ ?_
 cases hv : v.ownBlock with
 | none => exact .inl rfl
 | some g => exact .inr (by simp)
theorem Opn.stay (h : Opn lo w a k x v vs kids) (hb : Below w.heap.size w w') : Opn lo w' a k x v vs kids := by
 have hl := h.lt
 obtain ⟨h1, h2, h3, h4, S, h5, h6, h7, h8⟩ := h
 exact ⟨h1, (hb.block a hl).trans h2, own_stay h3 hb, h4, S, h5.keep (fun _ h => h) fun i hi => hb.block i (h6 i hi).2, fun i hi => F.mono (Nat.le_refl _) hb.size i (h6 i hi), h7, h8⟩
theorem Opn.isT (h : Opn lo w a k x v vs kids) : IsT w (F lo w.heap.size) (.pointer (some ⟨a, 0, none⟩)) (nd k x kids) := by
 have hl := h.lt
 obtain ⟨h1, h2, h3, h4, S, h5, h6, h7, h8⟩ := h
 refine isT_made ⟨h1, hl⟩ h2 (vs := vs) ?_ (h5.keep h6 fun _ _ => rfl)
 by_cases h0 : vs.length = 0
 ·obtain ⟨ao, cp, rfl⟩ := own_slice h3
  have : vs = [] := List.eq_nil_of_length_eq_zero h0
  subst this
  exact .inl ⟨rfl, ao, cp, rfl⟩
 ·obtain ⟨g, cp, rfl, hg1, hg2⟩ := h3.form (by omega)
  refine .inr ⟨g, cp, ⟨hg1, hg2⟩, rfl, fun i hi => (h3.cellAt i (by omega)).trans ?_⟩
  rw [List.getElem?_eq_getElem hi]
end
theorem opn_none {wN w5 : World} {lo : Nat} {k : Int} {x : List UInt8} {e : Ending} (hlo : lo ≤ wN.heap.size) (hm : Made wN k (bs x) (.slice none 0 0) e w5) :
  ∃ a, e = .returned (.pointer (some ⟨a, 0, none⟩)) ∧ Opn lo w5 a k x (.slice none 0 0) [] [] ∧ Below wN.heap.size wN w5 := by
 obtain ⟨a, rfl, ha, hh, hB⟩ := hm
 exact ⟨a, rfl, ⟨by omega, hh, World.ownsRow_nil _ _ _ _, (fun h => by cases h), fun _ => False, IsTs.nil _ _, fun _ h => h.elim, fun _ _ h => h, fun h => h⟩, hB⟩
theorem opn_kids {wN w5 : World} {lo : Nat} {vs : List Value} {kids : List Tr} {k : Int} {x : List UInt8} {e : Ending} (hn : 0 < vs.length) (hn2 : vs.length ≤ 8) (hk : IsTs wN (F lo wN.heap.size) vs kids) (hlo : lo ≤ wN.heap.size)
  (hm : Made (wN.alloc (.cells vs.toArray 59)) k (bs x) (.slice (some ⟨wN.heap.size, 0, none⟩) vs.length vs.length) e w5) :
  ∃ a, e = .returned (.pointer (some ⟨a, 0, none⟩)) ∧ Opn lo w5 a k x (.slice (some ⟨wN.heap.size, 0, none⟩) vs.length vs.length) vs kids ∧ Below wN.heap.size wN w5 := by
 obtain ⟨a, rfl, ha, hh, hB⟩ := hm
 have h1 : Below wN.heap.size wN (wN.alloc (.cells vs.toArray 59)) := (Below.refl _ _).alloc (Nat.le_refl _) _
 have h2 := below_trans h1 hB h1.size
 have hz : (wN.alloc (.cells vs.toArray 59)).heap.size = wN.heap.size + 1 := by simp
 have hrow : w5.heap[wN.heap.size]? = some (.cells vs.toArray 59 (0, 0)) := (hB.block _ (by omega)).trans (heap_alloc_new wN _)
 refine ⟨a, rfl, ⟨by omega, hh, ⟨by rw [Nat.mul_one], .inr ⟨wN.heap.size, vs.length, vs.toArray, rfl, hlo, hrow, Nat.le_refl _, by unfold maxLen; omega, by simp, by simp⟩⟩, fun h => ?_, F lo wN.heap.size, hk.keep (fun _ h => h) fun i hi => h2.block i hi.2, F.mono (Nat.le_refl _) h2.size, fun g hg hs => ?_, fun hs => ?_⟩, h2⟩
 ·have e : wN.heap.size = a := by simpa [Value.ownBlock] using h
  omega
 ·have e : wN.heap.size = g := by simpa [Value.ownBlock] using hg
  have := hs.2; omega
 ·have := hs.2; omega
theorem opn_row {wN w5 : World} {lo : Nat} {v : Value} {S : Nat → Prop} {vs : List Value} {kids : List Tr} {k : Int} {x : List UInt8} {e : Ending} (hk : IsTs wN S vs kids) (hS : ∀ i, S i → F lo wN.heap.size i) (hN : ∀ g, v.ownBlock = some g → ¬ S g) (hlo : lo ≤ wN.heap.size)
  (ho : wN.ownsRow lo 59 1 v vs.length vs) (hm : Made wN k (bs x) v e w5) :
  ∃ a, e = .returned (.pointer (some ⟨a, 0, none⟩)) ∧ Opn lo w5 a k x v vs kids ∧ Below wN.heap.size wN w5 := by
 obtain ⟨a, rfl, ha, hh, hB⟩ := hm
 exact ⟨a, rfl, ⟨by omega, hh, own_stay ho hB, fun h => by have := (ho.lt a h).2; omega, S, hk.keep (fun _ h => h) fun i hi => hB.block i (hS i hi).2, fun i hi => F.mono (Nat.le_refl _) hB.size i (hS i hi), hN, fun hs => by have := (hS a hs).2; omega⟩, hB⟩
theorem Opn.grown {lo a : Nat} {w w3 : World} {k : Int} {x : List UInt8} {v xv : Value} {vs : List Value} {kids : List Tr} {T : TypeId} (h : Opn lo w a k x v vs kids) (hgrow : (w.alloc (.cells #[xv] T)).grownBy w3 v.ownBlock) :
  w3.cell? ⟨a, 3, none⟩ = some v ∧ w3.frozen? ⟨a, 3, none⟩ = false := by
 have hl := h.lt
 have hz : (w.alloc (.cells #[xv] T)).heap.size = w.heap.size + 1 := by simp
 have ha3 : w3.heap[a]? = some (.cells #[.int .i64 k, .string (bs x), .int .u64 0, v] 89 (0, 0)) := ((hgrow.block a (by omega) (fun e => h.2.2.2.1 e.symm)).trans (Below.heap_alloc w _ a hl)).trans h.2.1
 exact ⟨by simp [World.cell?, ha3], by simp [World.frozen?, ha3]⟩
theorem Opn.push {lo lo2 a : Nat} {w w3 : World} {k : Int} {x : List UInt8} {v xv : Value} {vs : List Value} {kids : List Tr} {t : Tr} {g cap : Nat} {T : TypeId} (h : Opn lo w a k x v vs kids) (hx : IsT w (F lo2 w.heap.size) xv t) (hlo : lo ≤ lo2) (hal : a < lo2)
  (hold : ∀ i, v.ownBlock = some i → i < lo2) (hown : w3.ownsRow lo 59 1 (.slice (some ⟨g, 0, none⟩) (vs.length + 1) cap) (vs.length + 1) (vs ++ [xv]))
  (hgrow : (w.alloc (.cells #[xv] T)).grownBy w3 v.ownBlock) (hat : v.ownBlock = some g ∨ g = w.heap.size + 1) :
  Opn lo (w3.setCell ⟨a, 3, none⟩ (.slice (some ⟨g, 0, none⟩) (vs.length + 1) cap)) a k x (.slice (some ⟨g, 0, none⟩) (vs.length + 1) cap) (vs ++ [xv]) (kids ++ [t]) := by
 have hl := h.lt
 obtain ⟨h1, h2, h3, h4, S, h5, h6, h7, h8⟩ := h
 have hA : Acc lo w v vs kids := ⟨h3, S, h5, h6, h7⟩
 have hz : (w.alloc (.cells #[xv] T)).heap.size = w.heap.size + 1 := by simp
 have hz3 := hgrow.size
 have hga : g ≠ a := by
  intro e; subst e
  rcases hat with hat | hat
  ·exact h4 hat
  ·omega
 have hS : ∀ i, S i ∨ F lo2 w.heap.size i → w3.heap[i]? = w.heap[i]? := by
  intro i hi
  have hlt : i < w.heap.size := by rcases hi with hi | hi; exact (h6 i hi).2; exact hi.2
  refine (hgrow.block i (by omega) ?_).trans (Below.heap_alloc w _ i hlt)
  intro e
  rcases hi with hi | hi
  ·exact h7 i e.symm hi
  ·have := hold i e.symm; have := hi.1; omega
 have ha3 : w3.heap[a]? = w.heap[a]? := (hgrow.block a (by omega) (fun e => h4 e.symm)).trans (Below.heap_alloc w _ a hl)
 have hset : ∀ i, i ≠ a → (w3.setCell ⟨a, 3, none⟩ (.slice (some ⟨g, 0, none⟩) (vs.length + 1) cap)).heap[i]? = w3.heap[i]? := fun i hi => Below.heap_setCell w3 _ _ i hi
 have hzs : (w3.setCell ⟨a, 3, none⟩ (.slice (some ⟨g, 0, none⟩) (vs.length + 1) cap)).heap.size = w3.heap.size := by simp [World.setCell]
 have hNa : ¬ (S a ∨ F lo2 w.heap.size a) := by rintro (h | h); exact h8 h; have := h.1; omega
 have hSa : ∀ i, S i ∨ F lo2 w.heap.size i → i ≠ a := fun i hi e => hNa (e ▸ hi)
 refine ⟨h1, ?_, ?_, fun e => hga (by simpa [Value.ownBlock] using e), fun i => S i ∨ F lo2 w.heap.size i, ?_, ?_, ?_, hNa⟩
 ·simp [World.setCell, Array.getElem?_modify, ha3, h2]
 ·rw [List.length_append]
  exact ownsRow_setCell_other hown (fun e => hga (by simpa [Value.ownBlock] using e)) _
 ·exact IsTs.append (h5.keep (fun _ h => .inl h) fun i hi => (hset i (hSa i (.inl hi))).trans (hS i (.inl hi))) (IsTs.cons (hx.keep (fun _ h => .inr h) fun i hi => (hset i (hSa i (.inr hi))).trans (hS i (.inr hi))) (IsTs.nil _ _))
 ·intro i hi
  rw [hzs]
  rcases hi with hi | hi
  ·exact ⟨(h6 i hi).1, by have := (h6 i hi).2; omega⟩
  ·exact ⟨Nat.le_trans hlo hi.1, by have := hi.2; omega⟩
 ·intro i hi hs
  have e : g = i := by simpa [Value.ownBlock] using hi
  subst e
  rcases hat with hat | hat
  ·rcases hs with hs | hs
   ·exact h7 g hat hs
   ·have := hold g hat; have := hs.1; omega
  ·rcases hs with hs | hs
   ·have := (h6 g hs).2; omega
   ·have := hs.2; omega
end Go.Proofs.YtnkfodelgpidkaaGreatDoor
namespace Go.Proofs.YtnkfodelgpidkaaGreatDoor
open Go.RowKit
theorem news_one (w : World) (v : Value) : ∀ j u, [v][j]? = some u → (w.alloc (.cells #[v] 59)).cell? ((⟨w.heap.size, 0, none⟩ : Addr).add j) = some u := by
 intro j u hj
 match j, hj with
 | 0, hj => simp at hj; subst hj; simp [Addr.add]
theorem decl_any (c : Cx) (k : Nat) (iha : ∀ j, k < j → Ok c .assign 199 #[c.p] j) : Ok c .decl 194 #[c.p] k := by
  intro w h
  have hbl := h.lt
  have hfew := h.ok.few
  have G0 : Hid (Go1 c w w k) := ⟨h, Off.refl _ _⟩
  have IHA := Lib.hid iha
  clear h iha
  have hgl : c.g < w.heap.size := G0.out.1.ltg
  have h0l : c.w0.heap.size ≤ w.heap.size := G0.out.1.base.size
  go_enter Tryz.func194, Tryz.ntmps194
  go_wp2_with fail
  by_cases hq : (c.T k).kind = 1
  · refine (sname_yes c k _ G0.out.1 hq).mono ?_; rintro e w1 ⟨rfl, hG⟩
    have G2 : Hid (Go1 c w w1 (k + 1)) := ⟨hG.1, G0.out.2.trans hG.2⟩
    have Q1 := Lib.hid hq
    clear hG hq
    go_wp2_with fail
    refine (newNode_any _ _ _ _ _ _).mono ?_; rintro e w3 hm
    obtain ⟨a3, rfl, hO, hB⟩ := opn_none (k := 4) (x := (c.T k).text) G2.out.2.size hm
    have G4 : Hid (Go1 c w w3 (k + 1)) := ⟨G2.out.1.below hB, G2.out.2.below hB⟩
    have O3 := Lib.hid hO
    clear hO hB hm
    go_wp2_with fail
    cases hq : isF c.E [61] (c.R (k + 1))
    · refine (skip_no c (k + 1) ⟨#[61]⟩ _ G4.out.1 hq).mono ?_; rintro e w5 ⟨rfl, hB⟩
      have G6 : Hid (Go1 c w w5 (k + 1)) := ⟨G4.out.1.below hB, G4.out.2.below hB⟩
      have O7 := Lib.hid (O3.out.stay hB)
      have Q5 := Lib.hid hq
      clear hB hq
      go_wp2_with fail
      go_ret
      exact post_ok (show D c.E .decl (c.R k) (.ok (nd 4 (c.T k).text [], c.R (k + 1))) from D.mk0 fun m => by simp only [body, nameK, if_true, R_tail, R_hd, Bool.false_eq_true, if_false, ret, List.nil_append, List.cons_append, Q1.out, Q5.out]) (by omega) rfl G6.out.1 G6.out.2 O7.out.isT
    · refine (skip_yes c (k + 1) ⟨#[61]⟩ (by decide) _ G4.out.1 hq).mono ?_; rintro e w5 ⟨rfl, hG⟩
      have G8 : Hid (Go1 c w w5 ((k + 1) + 1)) := ⟨hG.1, G4.out.2.trans hG.2⟩
      have O9 := Lib.hid (O3.out.off hG.2 hbl)
      have Q5 := Lib.hid hq
      clear hG hq
      go_wp2_with fail
      have hBd : Below w5.heap.size w5 w5.drew := (Below.refl _ _).drew
      have G13 : Hid (Go1 c w w5.drew ((k + 1) + 1)) := ⟨G8.out.1.below hBd, G8.out.2.below hBd⟩
      have O14 := Lib.hid (O9.out.stay hBd)
      have oS := O14.out.c3
      have hal11 : a3 < w5.drew.heap.size := O14.out.lt
      have hol11 := Lib.hid (fun i hi => (O14.out.2.2.1.lt i hi).2)
      have hlw11 : w.heap.size ≤ w5.drew.heap.size := G13.out.2.size
      obtain ⟨i0, hi, hz0, hz1', hz2⟩ := info_parts info_ptr
      clear hBd
      go_region_law
        (first | (go_simp
                  go_at_call 199
                  refine (IHA.out ((k + 1) + 1) (by omega) _ G13.out.1).mono ?_
                  rintro e w11 ⟨r, hD, hr⟩
                  rcases r with p | ⟨t11, R1⟩
                  · obtain ⟨rfl, hO⟩ := hr
                    have HO := Lib.hid (G13.out.2.trans hO)
                    have D11 := Lib.hid hD
                    clear hD hO
                    unfold sflt
                    exact bodyPost_panic rfl (post_err (show D c.E .decl (c.R k) (.error p) from D.mk1 D11.out fun m h0 => by simp only [body, nameK, if_true, R_tail, R_hd, bnd, Q1.out, Q5.out, h0]) rfl HO.out)
                  obtain ⟨j11, vv, rfl, hj11, rfl, hG, hT⟩ := hr
                  obtain ⟨v11, rfl⟩ := hT.ptr
                  have G15 : Hid (Go1 c w w11 j11) := ⟨hG.1, G13.out.2.trans hG.2⟩
                  have O16 := Lib.hid (O14.out.off hG.2 hbl)
                  have T11 := Lib.hid hT
                  have D11 := Lib.hid hD
                  have hown11 := O16.out.2.2.1
                  have hwl11 : w.heap.size ≤ w11.heap.size := G15.out.2.size
                  have oS11 := O16.out.c3
                  have oT11 := cell_alloc oS11 (.cells #[.pointer (some ⟨v11, 0, none⟩)] 59)
                  have hdl := hG.2.size
                  clear hD hG hT)
               | (refine step_append_lies _ rfl _ _ 87 rfl w.heap.size 59 i0 _ 1 8 Tryz.underlying87 hi hz0 hz1' hz2 rfl (by decide) _ _ _ rfl (hown11.alloc _) ⟨w11.heap.size, 0, none⟩ 1 1 [.pointer (some ⟨v11, 0, none⟩)] rfl rfl (news_one _ _) (fun u hu => by simp at hu; subst hu; rfl) (by decide) (by unfold maxLen; simp) (by simp) (by simp; omega) (w11.heap.size + 1) (by simp) ?_
                  intro g cap w'' hown'' hgrow hat hlt''
                  have O12 := Lib.hid (O16.out.push T11.out hlw11 hal11 hol11.out hown'' hgrow hat)
                  have hbel := grown_old hown11 hwl11 hgrow
                  have GO12 : Hid (Go1 c w w'' j11) := G15.out.old hbel hgl hbl h0l
                  have oc := (O16.out.grown hgrow).1
                  have of := (O16.out.grown hgrow).2
                  clear hown'' hgrow hat hlt'' hbel))
      all_goals
        have hlo12 : w.heap.size ≤ a3 := O12.out.1
        have GP12 := Lib.hid (GO12.out.set (p := ⟨a3, 3, none⟩) hlo12 hgl hbl h0l (.slice (some ⟨g, 0, none⟩) 1 cap))
        generalize hw12 : World.setCell w'' _ _ = u12
        have OP12 : Hid (Opn w.heap.size u12 a3 4 (c.T k).text (.slice (some ⟨g, 0, none⟩) 1 cap) ([] ++ [.pointer (some ⟨v11, 0, none⟩)]) ([] ++ [t11])) := by rw [← hw12]; exact O12
        have G12 : Hid (Go1 c w u12 j11) := by rw [← hw12]; exact GP12
        clear hi hz0 hz1' hz2 oc of oS hdl hown11 oS11 oT11 GO12 GP12 O12 hw12
        go_wp2_with fail
        go_ret
        exact post_ok (show D c.E .decl (c.R k) (.ok (nd 4 (c.T k).text ([] ++ [t11]), c.R j11)) from D.mk1 D11.out fun m h0 => by simp only [body, nameK, if_true, R_tail, R_hd, bnd, ret, List.nil_append, List.cons_append, Q1.out, Q5.out, h0]) (by omega) rfl G12.out.1 G12.out.2 OP12.out.isT
  · refine (sname_no c k _ G0.out.1 hq).mono ?_; rintro e w1 ⟨rfl, hB⟩
    have HO := Lib.hid (G0.out.2.below hB)
    have Q1 := Lib.hid hq
    clear hB hq
    unfold sflt
    go_wp2_with fail
    exact bodyPost_panic rfl (post_err (show D c.E .decl (c.R k) (.error (c.T k).pos) from D.mk0 fun m => by simp only [body, nameK, if_false, bad, R_hd, Q1.out]) rfl HO.out)
theorem ifElse_any (c : Cx) (k : Nat) (ihb : ∀ j, k < j → Ok c .bracketed 195 #[c.p] j) (ihs : ∀ j, k < j → Ok c .statement 89 #[c.p] j) : Ok c .ifElse 153 #[c.p] k := by
  intro w h
  have hbl := h.lt
  have hfew := h.ok.few
  have G0 : Hid (Go1 c w w k) := ⟨h, Off.refl _ _⟩
  have IHB := Lib.hid ihb
  have IHS := Lib.hid ihs
  clear h ihb ihs
  have hgl : c.g < w.heap.size := G0.out.1.ltg
  have h0l : c.w0.heap.size ≤ w.heap.size := G0.out.1.base.size
  go_enter Tryz.func153, Tryz.ntmps153
  go_wp2_with fail
  cases hq : isF c.E [105, 102] (c.R k)
  · refine (need_no c k ⟨#[105, 102]⟩ _ G0.out.1 hq).mono ?_; rintro e w1 ⟨rfl, hB⟩
    have HO := Lib.hid (G0.out.2.below hB)
    have Q1 := Lib.hid hq
    clear hB hq
    unfold sflt
    go_wp2_with fail
    exact bodyPost_panic rfl (post_err (show D c.E .ifElse (c.R k) (.error (c.T k).pos) from D.mk0 fun m => by simp only [body, need, Bool.false_eq_true, if_false, bad, R_hd, Q1.out]) rfl HO.out)
  · refine (need_yes c k ⟨#[105, 102]⟩ (by decide) _ G0.out.1 hq).mono ?_; rintro e w1 ⟨rfl, hG⟩
    have G2 : Hid (Go1 c w w1 (k + 1)) := ⟨hG.1, G0.out.2.trans hG.2⟩
    have Q1 := Lib.hid hq
    clear hG hq
    go_wp2_with fail
    refine (IHB.out (k + 1) (by omega) _ G2.out.1).mono ?_; rintro e w3 ⟨r, hD, hr⟩
    rcases r with p | ⟨t3, R1⟩
    · obtain ⟨rfl, hO⟩ := hr
      have HO := Lib.hid (G2.out.2.trans hO)
      have D3 := Lib.hid hD
      clear hD hO
      unfold sflt
      go_wp2_with fail
      exact bodyPost_panic rfl (post_err (show D c.E .ifElse (c.R k) (.error p) from D.mk1 D3.out fun m h0 => by simp only [body, need, if_true, R_tail, bnd, Q1.out, h0]) rfl HO.out)
    · obtain ⟨j3, vv, rfl, hj3, rfl, hG, hT⟩ := hr
      obtain ⟨v3, rfl⟩ := hT.ptr
      have G4 : Hid (Go1 c w w3 j3) := ⟨hG.1, G2.out.2.trans hG.2⟩
      have T3 := Lib.hid (hT.lower G2.out.2.size)
      have D3 := Lib.hid hD
      clear hD hG hT
      go_wp2_with fail
      refine (IHS.out j3 (by omega) _ G4.out.1).mono ?_; rintro e w5 ⟨r, hD, hr⟩
      rcases r with p | ⟨t5, R1⟩
      · obtain ⟨rfl, hO⟩ := hr
        have HO := Lib.hid (G4.out.2.trans hO)
        have D5 := Lib.hid hD
        clear hD hO
        unfold sflt
        go_wp2_with fail
        exact bodyPost_panic rfl (post_err (show D c.E .ifElse (c.R k) (.error p) from D.mk2 D3.out D5.out fun m h0 h1 => by simp only [body, need, if_true, R_tail, bnd, Q1.out, h0, h1]) rfl HO.out)
      · obtain ⟨j5, vv, rfl, hj5, rfl, hG, hT⟩ := hr
        obtain ⟨v5, rfl⟩ := hT.ptr
        have G6 : Hid (Go1 c w w5 j5) := ⟨hG.1, G4.out.2.trans hG.2⟩
        have T7 := Lib.hid (T3.out.off hG.2 hbl)
        have T5 := Lib.hid (hT.lower G4.out.2.size)
        have D5 := Lib.hid hD
        clear hD hG hT
        go_wp2_with fail
        refine (newNode_any _ _ _ _ _ _).mono ?_; rintro e w8 hm
        obtain ⟨a8, rfl, hO, hB⟩ := opn_kids (k := 7) (x := []) (vs := [(.pointer (some ⟨v3, 0, none⟩)), (.pointer (some ⟨v5, 0, none⟩))]) (kids := [t3, t5]) (by simp) (by simp) (IsTs.cons T7.out (IsTs.cons T5.out (IsTs.nil _ _))) G6.out.2.size hm
        have G9 : Hid (Go1 c w w8 j5) := ⟨G6.out.1.below hB, G6.out.2.below hB⟩
        have O8 := Lib.hid hO
        obtain ⟨ov8, hov8⟩ : ∃ v, v = Value.slice (some ⟨w5.heap.size, 0, none⟩) 2 2 := ⟨_, rfl⟩
        clear hO hB hm
        go_wp2_with fail
        cases hq : isF c.E [101, 108, 115, 101] (c.R j5)
        · refine (skip_no c j5 ⟨#[101, 108, 115, 101]⟩ _ G9.out.1 hq).mono ?_; rintro e w10 ⟨rfl, hB⟩
          have G11 : Hid (Go1 c w w10 j5) := ⟨G9.out.1.below hB, G9.out.2.below hB⟩
          have O12 := Lib.hid (O8.out.stay hB)
          have Q10 := Lib.hid hq
          clear hB hq
          go_wp2_with fail
          go_ret
          exact post_ok (show D c.E .ifElse (c.R k) (.ok (nd 7 [] [t3, t5], c.R j5)) from D.mk2 D3.out D5.out fun m h0 h1 => by simp only [body, need, if_true, R_tail, bnd, Bool.false_eq_true, if_false, ret, List.nil_append, List.cons_append, Q1.out, Q10.out, h0, h1]) (by omega) rfl G11.out.1 G11.out.2 O12.out.isT
        · refine (skip_yes c j5 ⟨#[101, 108, 115, 101]⟩ (by decide) _ G9.out.1 hq).mono ?_; rintro e w10 ⟨rfl, hG⟩
          have G13 : Hid (Go1 c w w10 (j5 + 1)) := ⟨hG.1, G9.out.2.trans hG.2⟩
          have O14 := Lib.hid (O8.out.off hG.2 hbl)
          have Q10 := Lib.hid hq
          clear hG hq
          go_wp2_with fail
          have hBd : Below w10.heap.size w10 w10.drew := (Below.refl _ _).drew
          have G18 : Hid (Go1 c w w10.drew (j5 + 1)) := ⟨G13.out.1.below hBd, G13.out.2.below hBd⟩
          have O19 := Lib.hid (O14.out.stay hBd)
          have oS := O19.out.c3
          have hal16 : a8 < w10.drew.heap.size := O19.out.lt
          have hol16 := Lib.hid (fun i hi => (O19.out.2.2.1.lt i hi).2)
          have hlw16 : w.heap.size ≤ w10.drew.heap.size := G18.out.2.size
          obtain ⟨i0, hi, hz0, hz1', hz2⟩ := info_parts info_ptr
          clear hBd
          go_region_law
            (first | (go_simp
                      go_at_call 89
                      refine (IHS.out (j5 + 1) (by omega) _ G18.out.1).mono ?_
                      rintro e w16 ⟨r, hD, hr⟩
                      rcases r with p | ⟨t16, R1⟩
                      · obtain ⟨rfl, hO⟩ := hr
                        have HO := Lib.hid (G18.out.2.trans hO)
                        have D16 := Lib.hid hD
                        clear hD hO
                        unfold sflt
                        exact bodyPost_panic rfl (post_err (show D c.E .ifElse (c.R k) (.error p) from D.mk3 D3.out D5.out D16.out fun m h0 h1 h2 => by simp only [body, need, if_true, R_tail, bnd, Q1.out, Q10.out, h0, h1, h2]) rfl HO.out)
                      obtain ⟨j16, vv, rfl, hj16, rfl, hG, hT⟩ := hr
                      obtain ⟨v16, rfl⟩ := hT.ptr
                      have G20 : Hid (Go1 c w w16 j16) := ⟨hG.1, G18.out.2.trans hG.2⟩
                      have O21 := Lib.hid (O19.out.off hG.2 hbl)
                      have T16 := Lib.hid hT
                      have D16 := Lib.hid hD
                      have hown16 := O21.out.2.2.1
                      have hwl16 : w.heap.size ≤ w16.heap.size := G20.out.2.size
                      have oS16 := O21.out.c3
                      have oT16 := cell_alloc oS16 (.cells #[.pointer (some ⟨v16, 0, none⟩)] 59)
                      have hdl := hG.2.size
                      clear hD hG hT)
                   | (refine step_append_lies _ rfl _ _ 87 rfl w.heap.size 59 i0 _ 1 8 Tryz.underlying87 hi hz0 hz1' hz2 rfl (by decide) _ _ _ rfl (hown16.alloc _) ⟨w16.heap.size, 0, none⟩ 1 1 [.pointer (some ⟨v16, 0, none⟩)] rfl rfl (news_one _ _) (fun u hu => by simp at hu; subst hu; rfl) (by decide) (by unfold maxLen; simp) (by simp) (by simp; omega) (w16.heap.size + 1) (by simp) ?_
                      intro g cap w'' hown'' hgrow hat hlt''
                      have O17 := Lib.hid (O21.out.push T16.out hlw16 hal16 hol16.out hown'' hgrow hat)
                      have hbel := grown_old hown16 hwl16 hgrow
                      have GO17 : Hid (Go1 c w w'' j16) := G20.out.old hbel hgl hbl h0l
                      have oc := (O21.out.grown hgrow).1
                      have of := (O21.out.grown hgrow).2
                      clear hown'' hgrow hat hlt'' hbel))
          all_goals
            have hlo17 : w.heap.size ≤ a8 := O17.out.1
            have GP17 := Lib.hid (GO17.out.set (p := ⟨a8, 3, none⟩) hlo17 hgl hbl h0l (.slice (some ⟨g, 0, none⟩) 3 cap))
            generalize hw17 : World.setCell w'' _ _ = u17
            have OP17 : Hid (Opn w.heap.size u17 a8 7 [] (.slice (some ⟨g, 0, none⟩) 3 cap) ([(.pointer (some ⟨v3, 0, none⟩)), (.pointer (some ⟨v5, 0, none⟩))] ++ [.pointer (some ⟨v16, 0, none⟩)]) ([t3, t5] ++ [t16])) := by rw [← hw17]; exact O17
            have G17 : Hid (Go1 c w u17 j16) := by rw [← hw17]; exact GP17
            clear hi hz0 hz1' hz2 oc of oS hdl hown16 oS16 oT16 GO17 GP17 O17 hw17
            go_wp2_with fail
            go_ret
            exact post_ok (show D c.E .ifElse (c.R k) (.ok (nd 7 [] ([t3, t5] ++ [t16]), c.R j16)) from D.mk3 D3.out D5.out D16.out fun m h0 h1 h2 => by simp only [body, need, if_true, R_tail, bnd, ret, List.nil_append, List.cons_append, Q1.out, Q10.out, h0, h1, h2]) (by omega) rfl G17.out.1 G17.out.2 OP17.out.isT
theorem giveBack_any (c : Cx) (k : Nat) (ihe : ∀ j, k < j → Ok c .expr 161 #[c.p] j) : Ok c .giveBack 158 #[c.p] k := by
  intro w h
  have hbl := h.lt
  have hfew := h.ok.few
  have G0 : Hid (Go1 c w w k) := ⟨h, Off.refl _ _⟩
  have IHE := Lib.hid ihe
  clear h ihe
  have hgl : c.g < w.heap.size := G0.out.1.ltg
  have h0l : c.w0.heap.size ≤ w.heap.size := G0.out.1.base.size
  go_enter Tryz.func158, Tryz.ntmps158
  go_wp2_with fail
  cases hq : isF c.E [114, 101, 116, 117, 114, 110] (c.R k)
  · refine (need_no c k ⟨#[114, 101, 116, 117, 114, 110]⟩ _ G0.out.1 hq).mono ?_; rintro e w1 ⟨rfl, hB⟩
    have HO := Lib.hid (G0.out.2.below hB)
    have Q1 := Lib.hid hq
    clear hB hq
    unfold sflt
    go_wp2_with fail
    exact bodyPost_panic rfl (post_err (show D c.E .giveBack (c.R k) (.error (c.T k).pos) from D.mk0 fun m => by simp only [body, need, Bool.false_eq_true, if_false, bad, R_hd, Q1.out]) rfl HO.out)
  · refine (need_yes c k ⟨#[114, 101, 116, 117, 114, 110]⟩ (by decide) _ G0.out.1 hq).mono ?_; rintro e w1 ⟨rfl, hG⟩
    have G2 : Hid (Go1 c w w1 (k + 1)) := ⟨hG.1, G0.out.2.trans hG.2⟩
    have Q1 := Lib.hid hq
    clear hG hq
    go_wp2_with fail
    refine (newNode_any _ _ _ _ _ _).mono ?_; rintro e w3 hm
    obtain ⟨a3, rfl, hO, hB⟩ := opn_none (k := 13) (x := []) G2.out.2.size hm
    have G4 : Hid (Go1 c w w3 (k + 1)) := ⟨G2.out.1.below hB, G2.out.2.below hB⟩
    have O3 := Lib.hid hO
    clear hO hB hm
    go_wp2_with fail
    cases hq : isF c.E [59] (c.R (k + 1))
    · refine (is_at c (k + 1) ⟨#[59]⟩ _ G4.out.1 hq).mono ?_; rintro e w5 ⟨rfl, hB⟩
      have G6 : Hid (Go1 c w w5 (k + 1)) := ⟨G4.out.1.below hB, G4.out.2.below hB⟩
      have O7 := Lib.hid (O3.out.stay hB)
      have Q5 := Lib.hid hq
      clear hB hq
      go_wp2_with fail
      have hBd : Below w5.heap.size w5 w5.drew := (Below.refl _ _).drew
      have G11 : Hid (Go1 c w w5.drew (k + 1)) := ⟨G6.out.1.below hBd, G6.out.2.below hBd⟩
      have O12 := Lib.hid (O7.out.stay hBd)
      have oS := O12.out.c3
      have hal9 : a3 < w5.drew.heap.size := O12.out.lt
      have hol9 := Lib.hid (fun i hi => (O12.out.2.2.1.lt i hi).2)
      have hlw9 : w.heap.size ≤ w5.drew.heap.size := G11.out.2.size
      obtain ⟨i0, hi, hz0, hz1', hz2⟩ := info_parts info_ptr
      clear hBd
      go_region_law
        (first | (go_simp
                  go_at_call 161
                  refine (IHE.out (k + 1) (by omega) _ G11.out.1).mono ?_
                  rintro e w9 ⟨r, hD, hr⟩
                  rcases r with p | ⟨t9, R1⟩
                  · obtain ⟨rfl, hO⟩ := hr
                    have HO := Lib.hid (G11.out.2.trans hO)
                    have D9 := Lib.hid hD
                    clear hD hO
                    unfold sflt
                    exact bodyPost_panic rfl (post_err (show D c.E .giveBack (c.R k) (.error p) from D.mk1 D9.out fun m h0 => by simp only [body, need, if_true, R_tail, Bool.false_eq_true, if_false, bnd, Q1.out, Q5.out, h0]) rfl HO.out)
                  obtain ⟨j9, vv, rfl, hj9, rfl, hG, hT⟩ := hr
                  obtain ⟨v9, rfl⟩ := hT.ptr
                  have G13 : Hid (Go1 c w w9 j9) := ⟨hG.1, G11.out.2.trans hG.2⟩
                  have O14 := Lib.hid (O12.out.off hG.2 hbl)
                  have T9 := Lib.hid hT
                  have D9 := Lib.hid hD
                  have hown9 := O14.out.2.2.1
                  have hwl9 : w.heap.size ≤ w9.heap.size := G13.out.2.size
                  have oS9 := O14.out.c3
                  have oT9 := cell_alloc oS9 (.cells #[.pointer (some ⟨v9, 0, none⟩)] 59)
                  have hdl := hG.2.size
                  clear hD hG hT)
               | (refine step_append_lies _ rfl _ _ 87 rfl w.heap.size 59 i0 _ 1 8 Tryz.underlying87 hi hz0 hz1' hz2 rfl (by decide) _ _ _ rfl (hown9.alloc _) ⟨w9.heap.size, 0, none⟩ 1 1 [.pointer (some ⟨v9, 0, none⟩)] rfl rfl (news_one _ _) (fun u hu => by simp at hu; subst hu; rfl) (by decide) (by unfold maxLen; simp) (by simp) (by simp; omega) (w9.heap.size + 1) (by simp) ?_
                  intro g cap w'' hown'' hgrow hat hlt''
                  have O10 := Lib.hid (O14.out.push T9.out hlw9 hal9 hol9.out hown'' hgrow hat)
                  have hbel := grown_old hown9 hwl9 hgrow
                  have GO10 : Hid (Go1 c w w'' j9) := G13.out.old hbel hgl hbl h0l
                  have oc := (O14.out.grown hgrow).1
                  have of := (O14.out.grown hgrow).2
                  clear hown'' hgrow hat hlt'' hbel))
      all_goals
        have hlo10 : w.heap.size ≤ a3 := O10.out.1
        have GP10 := Lib.hid (GO10.out.set (p := ⟨a3, 3, none⟩) hlo10 hgl hbl h0l (.slice (some ⟨g, 0, none⟩) 1 cap))
        generalize hw10 : World.setCell w'' _ _ = u10
        have OP10 : Hid (Opn w.heap.size u10 a3 13 [] (.slice (some ⟨g, 0, none⟩) 1 cap) ([] ++ [.pointer (some ⟨v9, 0, none⟩)]) ([] ++ [t9])) := by rw [← hw10]; exact O10
        have G10 : Hid (Go1 c w u10 j9) := by rw [← hw10]; exact GP10
        clear hi hz0 hz1' hz2 oc of oS hdl hown9 oS9 oT9 GO10 GP10 O10 hw10
        go_wp2_with fail
        cases hq : isF c.E [59] (c.R j9)
        · refine (ended_no c j9 _ _ G10.out.1 hq).mono ?_; rintro e w15 ⟨rfl, hB⟩
          have HO := Lib.hid (G10.out.2.below hB)
          have Q15 := Lib.hid hq
          clear hB hq
          unfold sflt
          go_wp2_with fail
          exact bodyPost_panic rfl (post_err (show D c.E .giveBack (c.R k) (.error (c.T j9).pos) from D.mk1 D9.out fun m h0 => by simp only [body, need, if_true, R_tail, Bool.false_eq_true, if_false, bnd, bad, R_hd, Q1.out, Q5.out, Q15.out, h0]) rfl HO.out)
        · refine (ended_yes c j9 _ _ G10.out.1 hq).mono ?_; rintro e w15 ⟨rfl, hG⟩
          have G16 : Hid (Go1 c w w15 (j9 + 1)) := ⟨hG.1, G10.out.2.trans hG.2⟩
          have O17 := Lib.hid (OP10.out.off hG.2 hbl)
          have Q15 := Lib.hid hq
          clear hG hq
          go_wp2_with fail
          go_ret
          exact post_ok (show D c.E .giveBack (c.R k) (.ok (nd 13 [] ([] ++ [t9]), c.R (j9 + 1))) from D.mk1 D9.out fun m h0 => by simp only [body, need, if_true, R_tail, Bool.false_eq_true, if_false, bnd, ret, List.nil_append, List.cons_append, Q1.out, Q5.out, Q15.out, h0]) (by omega) rfl G16.out.1 G16.out.2 O17.out.isT
    · refine (is_at c (k + 1) ⟨#[59]⟩ _ G4.out.1 hq).mono ?_; rintro e w5 ⟨rfl, hB⟩
      have G18 : Hid (Go1 c w w5 (k + 1)) := ⟨G4.out.1.below hB, G4.out.2.below hB⟩
      have O19 := Lib.hid (O3.out.stay hB)
      have Q5 := Lib.hid hq
      clear hB hq
      go_wp2_with fail
      refine (ended_yes c (k + 1) _ _ G18.out.1 Q5.out).mono ?_; rintro e w20 ⟨rfl, hG⟩
      have G21 : Hid (Go1 c w w20 ((k + 1) + 1)) := ⟨hG.1, G18.out.2.trans hG.2⟩
      have O22 := Lib.hid (O19.out.off hG.2 hbl)
      clear hG
      go_wp2_with fail
      go_ret
      exact post_ok (show D c.E .giveBack (c.R k) (.ok (nd 13 [] [], c.R ((k + 1) + 1))) from D.mk0 fun m => by simp only [body, need, if_true, R_tail, ret, List.nil_append, List.cons_append, Q1.out, Q5.out]) (by omega) rfl G21.out.1 G21.out.2 O22.out.isT
end Go.Proofs.YtnkfodelgpidkaaGreatDoor
namespace Go.Proofs.YtnkfodelgpidkaaGreatDoor
open Go.RowKit
theorem tryIt_any (c : Cx) (k : Nat) (ihk : ∀ j, k < j → Ok c .block 150 #[c.p] j) (ihc : ∀ j, k < j → Ok c .catchIt 198 #[c.p] j) : Ok c .tryIt 160 #[c.p] k := by
  intro w h
  have hbl := h.lt
  have hfew := h.ok.few
  have G0 : Hid (Go1 c w w k) := ⟨h, Off.refl _ _⟩
  have IHK := Lib.hid ihk
  have IHC := Lib.hid ihc
  clear h ihk ihc
  have hgl : c.g < w.heap.size := G0.out.1.ltg
  have h0l : c.w0.heap.size ≤ w.heap.size := G0.out.1.base.size
  go_enter Tryz.func160, Tryz.ntmps160
  go_wp2_with fail
  cases hq : isF c.E [116, 114, 121] (c.R k)
  · refine (need_no c k ⟨#[116, 114, 121]⟩ _ G0.out.1 hq).mono ?_; rintro e w1 ⟨rfl, hB⟩
    have HO := Lib.hid (G0.out.2.below hB)
    have Q1 := Lib.hid hq
    clear hB hq
    unfold sflt
    go_wp2_with fail
    exact bodyPost_panic rfl (post_err (show D c.E .tryIt (c.R k) (.error (c.T k).pos) from D.mk0 fun m => by simp only [body, need, Bool.false_eq_true, if_false, bad, R_hd, Q1.out]) rfl HO.out)
  · refine (need_yes c k ⟨#[116, 114, 121]⟩ (by decide) _ G0.out.1 hq).mono ?_; rintro e w1 ⟨rfl, hG⟩
    have G2 : Hid (Go1 c w w1 (k + 1)) := ⟨hG.1, G0.out.2.trans hG.2⟩
    have Q1 := Lib.hid hq
    clear hG hq
    go_wp2_with fail
    refine (IHK.out (k + 1) (by omega) _ G2.out.1).mono ?_; rintro e w3 ⟨r, hD, hr⟩
    rcases r with p | ⟨t3, R1⟩
    · obtain ⟨rfl, hO⟩ := hr
      have HO := Lib.hid (G2.out.2.trans hO)
      have D3 := Lib.hid hD
      clear hD hO
      unfold sflt
      go_wp2_with fail
      exact bodyPost_panic rfl (post_err (show D c.E .tryIt (c.R k) (.error p) from D.mk1 D3.out fun m h0 => by simp only [body, need, if_true, R_tail, bnd, Q1.out, h0]) rfl HO.out)
    · obtain ⟨j3, vv, rfl, hj3, rfl, hG, hT⟩ := hr
      obtain ⟨v3, rfl⟩ := hT.ptr
      have G4 : Hid (Go1 c w w3 j3) := ⟨hG.1, G2.out.2.trans hG.2⟩
      have T3 := Lib.hid (hT.lower G2.out.2.size)
      have D3 := Lib.hid hD
      clear hD hG hT
      go_wp2_with fail
      refine (newNode_any _ _ _ _ _ _).mono ?_; rintro e w5 hm
      obtain ⟨a5, rfl, hO, hB⟩ := opn_kids (k := 15) (x := []) (vs := [(.pointer (some ⟨v3, 0, none⟩))]) (kids := [t3]) (by simp) (by simp) (IsTs.cons T3.out (IsTs.nil _ _)) G4.out.2.size hm
      have G6 : Hid (Go1 c w w5 j3) := ⟨G4.out.1.below hB, G4.out.2.below hB⟩
      have O5 := Lib.hid hO
      obtain ⟨ov5, hov5⟩ : ∃ v, v = Value.slice (some ⟨w3.heap.size, 0, none⟩) 1 1 := ⟨_, rfl⟩
      clear hO hB hm
      go_wp2_with fail
      cases hq : isF c.E [99, 97, 116, 99, 104] (c.R j3)
      · refine (is_at c j3 ⟨#[99, 97, 116, 99, 104]⟩ _ G6.out.1 hq).mono ?_; rintro e w7 ⟨rfl, hB⟩
        have G8 : Hid (Go1 c w w7 j3) := ⟨G6.out.1.below hB, G6.out.2.below hB⟩
        have O9 := Lib.hid (O5.out.stay hB)
        have Q7 := Lib.hid hq
        clear hB hq
        go_wp2_with fail
        cases hq : isF c.E [102, 105, 110, 97, 108, 108, 121] (c.R j3)
        · refine (skip_no c j3 ⟨#[102, 105, 110, 97, 108, 108, 121]⟩ _ G8.out.1 hq).mono ?_; rintro e w10 ⟨rfl, hB⟩
          have G11 : Hid (Go1 c w w10 j3) := ⟨G8.out.1.below hB, G8.out.2.below hB⟩
          have O12 := Lib.hid (O9.out.stay hB)
          have Q10 := Lib.hid hq
          clear hB hq
          have oq := O12.out.c3
          go_wp2_with fail
          clear oq
          refine (sgiveUp_any c j3 _ G11.out.1).mono ?_; rintro e w13 ⟨rfl, hB⟩
          have HO := Lib.hid (G11.out.2.below hB)
          clear hB
          unfold sflt
          go_wp2_with fail
          exact bodyPost_panic rfl (post_err (show D c.E .tryIt (c.R k) (.error (c.T j3).pos) from D.mk1 D3.out fun m h0 => by simp only [body, need, if_true, R_tail, bnd, Bool.false_eq_true, if_false, bad, R_hd, Q1.out, Q7.out, Q10.out, h0]) rfl HO.out)
        · refine (skip_yes c j3 ⟨#[102, 105, 110, 97, 108, 108, 121]⟩ (by decide) _ G8.out.1 hq).mono ?_; rintro e w10 ⟨rfl, hG⟩
          have G14 : Hid (Go1 c w w10 (j3 + 1)) := ⟨hG.1, G8.out.2.trans hG.2⟩
          have O15 := Lib.hid (O9.out.off hG.2 hbl)
          have Q10 := Lib.hid hq
          clear hG hq
          go_wp2_with fail
          have hBd : Below w10.heap.size w10 w10.drew := (Below.refl _ _).drew
          have G19 : Hid (Go1 c w w10.drew (j3 + 1)) := ⟨G14.out.1.below hBd, G14.out.2.below hBd⟩
          have O20 := Lib.hid (O15.out.stay hBd)
          have oS := O20.out.c3
          have hal17 : a5 < w10.drew.heap.size := O20.out.lt
          have hol17 := Lib.hid (fun i hi => (O20.out.2.2.1.lt i hi).2)
          have hlw17 : w.heap.size ≤ w10.drew.heap.size := G19.out.2.size
          obtain ⟨i0, hi, hz0, hz1', hz2⟩ := info_parts info_ptr
          clear hBd
          go_region_law
            (first | (go_simp
                      go_at_call 150
                      refine (IHK.out (j3 + 1) (by omega) _ G19.out.1).mono ?_
                      rintro e w17 ⟨r, hD, hr⟩
                      rcases r with p | ⟨t17, R1⟩
                      · obtain ⟨rfl, hO⟩ := hr
                        have HO := Lib.hid (G19.out.2.trans hO)
                        have D17 := Lib.hid hD
                        clear hD hO
                        unfold sflt
                        exact bodyPost_panic rfl (post_err (show D c.E .tryIt (c.R k) (.error p) from D.mk2 D3.out D17.out fun m h0 h1 => by simp only [body, need, if_true, R_tail, bnd, Bool.false_eq_true, if_false, Q1.out, Q7.out, Q10.out, h0, h1]) rfl HO.out)
                      obtain ⟨j17, vv, rfl, hj17, rfl, hG, hT⟩ := hr
                      obtain ⟨v17, rfl⟩ := hT.ptr
                      have G21 : Hid (Go1 c w w17 j17) := ⟨hG.1, G19.out.2.trans hG.2⟩
                      have O22 := Lib.hid (O20.out.off hG.2 hbl)
                      have T17 := Lib.hid hT
                      have D17 := Lib.hid hD
                      have hown17 := O22.out.2.2.1
                      have hwl17 : w.heap.size ≤ w17.heap.size := G21.out.2.size
                      have oS17 := O22.out.c3
                      have oT17 := cell_alloc oS17 (.cells #[.pointer (some ⟨v17, 0, none⟩)] 59)
                      have hdl := hG.2.size
                      clear hD hG hT)
                   | (go_simp
                      go_at_call 46
                      refine (newNode_any _ _ _ _ _ _).mono ?_
                      rintro e w23 hm
                      obtain ⟨v23, rfl, hT, hB⟩ := node_kids (k := 17) (x := []) (vs := [.pointer (some ⟨v17, 0, none⟩)]) (kids := [t17]) (IsTs.cons T17.out (IsTs.nil _ _)) hdl hm
                      have G24 : Hid (Go1 c w w23 j17) := ⟨G21.out.1.below hB, G21.out.2.below hB⟩
                      have O25 := Lib.hid (O22.out.stay hB)
                      have T23 := Lib.hid hT
                      have hown23 := O25.out.2.2.1
                      have hwl23 : w.heap.size ≤ w23.heap.size := G24.out.2.size
                      have oS23 := O25.out.c3
                      have oT23 := cell_alloc oS23 (.cells #[.pointer (some ⟨v23, 0, none⟩)] 59)
                      clear hT hB hm)
                   | (refine step_append_lies _ rfl _ _ 87 rfl w.heap.size 59 i0 _ 1 8 Tryz.underlying87 hi hz0 hz1' hz2 rfl (by decide) _ _ _ rfl (hown23.alloc _) ⟨w23.heap.size, 0, none⟩ 1 1 [.pointer (some ⟨v23, 0, none⟩)] rfl rfl (news_one _ _) (fun u hu => by simp at hu; subst hu; rfl) (by decide) (by unfold maxLen; simp) (by simp) (by simp; omega) (w23.heap.size + 1) (by simp) ?_
                      intro g cap w'' hown'' hgrow hat hlt''
                      have O18 := Lib.hid (O25.out.push T23.out hlw17 hal17 hol17.out hown'' hgrow hat)
                      have hbel := grown_old hown23 hwl23 hgrow
                      have GO18 : Hid (Go1 c w w'' j17) := G24.out.old hbel hgl hbl h0l
                      have oc := (O25.out.grown hgrow).1
                      have of := (O25.out.grown hgrow).2
                      clear hown'' hgrow hat hlt'' hbel))
          all_goals
            have hlo18 : w.heap.size ≤ a5 := O18.out.1
            have GP18 := Lib.hid (GO18.out.set (p := ⟨a5, 3, none⟩) hlo18 hgl hbl h0l (.slice (some ⟨g, 0, none⟩) 2 cap))
            generalize hw18 : World.setCell w'' _ _ = u18
            have OP18 : Hid (Opn w.heap.size u18 a5 15 [] (.slice (some ⟨g, 0, none⟩) 2 cap) ([(.pointer (some ⟨v3, 0, none⟩))] ++ [.pointer (some ⟨v23, 0, none⟩)]) ([t3] ++ [(nd 17 [] [t17])])) := by rw [← hw18]; exact O18
            have G18 : Hid (Go1 c w u18 j17) := by rw [← hw18]; exact GP18
            clear hi hz0 hz1' hz2 oc of oS hdl hown17 oS17 oT17 GO18 GP18 O18 hw18 hown23 oS23 oT23
            have oq := OP18.out.c3
            go_wp2_with fail
            clear oq
            go_ret
            exact post_ok (show D c.E .tryIt (c.R k) (.ok (nd 15 [] ([t3] ++ [(nd 17 [] [t17])]), c.R j17)) from D.mk2 D3.out D17.out fun m h0 h1 => by simp only [body, need, if_true, R_tail, bnd, Bool.false_eq_true, if_false, ret, List.nil_append, List.cons_append, Q1.out, Q7.out, Q10.out, h0, h1]) (by omega) rfl G18.out.1 G18.out.2 OP18.out.isT
      · refine (is_at c j3 ⟨#[99, 97, 116, 99, 104]⟩ _ G6.out.1 hq).mono ?_; rintro e w7 ⟨rfl, hB⟩
        have G26 : Hid (Go1 c w w7 j3) := ⟨G6.out.1.below hB, G6.out.2.below hB⟩
        have O27 := Lib.hid (O5.out.stay hB)
        have Q7 := Lib.hid hq
        clear hB hq
        go_wp2_with fail
        have hBd : Below w7.heap.size w7 w7.drew := (Below.refl _ _).drew
        have G31 : Hid (Go1 c w w7.drew j3) := ⟨G26.out.1.below hBd, G26.out.2.below hBd⟩
        have O32 := Lib.hid (O27.out.stay hBd)
        have oS := O32.out.c3
        have hal29 : a5 < w7.drew.heap.size := O32.out.lt
        have hol29 := Lib.hid (fun i hi => (O32.out.2.2.1.lt i hi).2)
        have hlw29 : w.heap.size ≤ w7.drew.heap.size := G31.out.2.size
        obtain ⟨i0, hi, hz0, hz1', hz2⟩ := info_parts info_ptr
        clear hBd
        go_region_law
          (first | (go_simp
                    go_at_call 198
                    refine (IHC.out j3 (by omega) _ G31.out.1).mono ?_
                    rintro e w29 ⟨r, hD, hr⟩
                    rcases r with p | ⟨t29, R1⟩
                    · obtain ⟨rfl, hO⟩ := hr
                      have HO := Lib.hid (G31.out.2.trans hO)
                      have D29 := Lib.hid hD
                      clear hD hO
                      unfold sflt
                      exact bodyPost_panic rfl (post_err (show D c.E .tryIt (c.R k) (.error p) from D.mk2 D3.out D29.out fun m h0 h1 => by simp only [body, need, if_true, R_tail, bnd, Q1.out, Q7.out, h0, h1]) rfl HO.out)
                    obtain ⟨j29, vv, rfl, hj29, rfl, hG, hT⟩ := hr
                    obtain ⟨v29, rfl⟩ := hT.ptr
                    have G33 : Hid (Go1 c w w29 j29) := ⟨hG.1, G31.out.2.trans hG.2⟩
                    have O34 := Lib.hid (O32.out.off hG.2 hbl)
                    have T29 := Lib.hid hT
                    have D29 := Lib.hid hD
                    have hown29 := O34.out.2.2.1
                    have hwl29 : w.heap.size ≤ w29.heap.size := G33.out.2.size
                    have oS29 := O34.out.c3
                    have oT29 := cell_alloc oS29 (.cells #[.pointer (some ⟨v29, 0, none⟩)] 59)
                    have hdl := hG.2.size
                    clear hD hG hT)
                 | (refine step_append_lies _ rfl _ _ 87 rfl w.heap.size 59 i0 _ 1 8 Tryz.underlying87 hi hz0 hz1' hz2 rfl (by decide) _ _ _ rfl (hown29.alloc _) ⟨w29.heap.size, 0, none⟩ 1 1 [.pointer (some ⟨v29, 0, none⟩)] rfl rfl (news_one _ _) (fun u hu => by simp at hu; subst hu; rfl) (by decide) (by unfold maxLen; simp) (by simp) (by simp; omega) (w29.heap.size + 1) (by simp) ?_
                    intro g cap w'' hown'' hgrow hat hlt''
                    have O30 := Lib.hid (O34.out.push T29.out hlw29 hal29 hol29.out hown'' hgrow hat)
                    have hbel := grown_old hown29 hwl29 hgrow
                    have GO30 : Hid (Go1 c w w'' j29) := G33.out.old hbel hgl hbl h0l
                    have oc := (O34.out.grown hgrow).1
                    have of := (O34.out.grown hgrow).2
                    clear hown'' hgrow hat hlt'' hbel))
        all_goals
          have hlo30 : w.heap.size ≤ a5 := O30.out.1
          have GP30 := Lib.hid (GO30.out.set (p := ⟨a5, 3, none⟩) hlo30 hgl hbl h0l (.slice (some ⟨g, 0, none⟩) 2 cap))
          generalize hw30 : World.setCell w'' _ _ = u30
          have OP30 : Hid (Opn w.heap.size u30 a5 15 [] (.slice (some ⟨g, 0, none⟩) 2 cap) ([(.pointer (some ⟨v3, 0, none⟩))] ++ [.pointer (some ⟨v29, 0, none⟩)]) ([t3] ++ [t29])) := by rw [← hw30]; exact O30
          have G30 : Hid (Go1 c w u30 j29) := by rw [← hw30]; exact GP30
          clear hi hz0 hz1' hz2 oc of oS hdl hown29 oS29 oT29 GO30 GP30 O30 hw30
          go_wp2_with fail
          cases hq : isF c.E [102, 105, 110, 97, 108, 108, 121] (c.R j29)
          · refine (skip_no c j29 ⟨#[102, 105, 110, 97, 108, 108, 121]⟩ _ G30.out.1 hq).mono ?_; rintro e w35 ⟨rfl, hB⟩
            have G36 : Hid (Go1 c w w35 j29) := ⟨G30.out.1.below hB, G30.out.2.below hB⟩
            have O37 := Lib.hid (OP30.out.stay hB)
            have Q35 := Lib.hid hq
            clear hB hq
            have oq := O37.out.c3
            go_wp2_with fail
            clear oq
            go_ret
            exact post_ok (show D c.E .tryIt (c.R k) (.ok (nd 15 [] ([t3] ++ [t29]), c.R j29)) from D.mk2 D3.out D29.out fun m h0 h1 => by simp only [body, need, if_true, R_tail, bnd, Bool.false_eq_true, if_false, ret, List.nil_append, List.cons_append, Q1.out, Q7.out, Q35.out, h0, h1]) (by omega) rfl G36.out.1 G36.out.2 O37.out.isT
          · refine (skip_yes c j29 ⟨#[102, 105, 110, 97, 108, 108, 121]⟩ (by decide) _ G30.out.1 hq).mono ?_; rintro e w35 ⟨rfl, hG⟩
            have G38 : Hid (Go1 c w w35 (j29 + 1)) := ⟨hG.1, G30.out.2.trans hG.2⟩
            have O39 := Lib.hid (OP30.out.off hG.2 hbl)
            have Q35 := Lib.hid hq
            clear hG hq
            go_wp2_with fail
            have hBd : Below w35.heap.size w35 w35.drew := (Below.refl _ _).drew
            have G43 : Hid (Go1 c w w35.drew (j29 + 1)) := ⟨G38.out.1.below hBd, G38.out.2.below hBd⟩
            have O44 := Lib.hid (O39.out.stay hBd)
            have oS := O44.out.c3
            have hal41 : a5 < w35.drew.heap.size := O44.out.lt
            have hol41 := Lib.hid (fun i hi => (O44.out.2.2.1.lt i hi).2)
            have hlw41 : w.heap.size ≤ w35.drew.heap.size := G43.out.2.size
            obtain ⟨i0, hi, hz0, hz1', hz2⟩ := info_parts info_ptr
            clear hBd
            go_region_law
              (first | (go_simp
                        go_at_call 150
                        refine (IHK.out (j29 + 1) (by omega) _ G43.out.1).mono ?_
                        rintro e w41 ⟨r, hD, hr⟩
                        rcases r with p | ⟨t41, R1⟩
                        · obtain ⟨rfl, hO⟩ := hr
                          have HO := Lib.hid (G43.out.2.trans hO)
                          have D41 := Lib.hid hD
                          clear hD hO
                          unfold sflt
                          exact bodyPost_panic rfl (post_err (show D c.E .tryIt (c.R k) (.error p) from D.mk3 D3.out D29.out D41.out fun m h0 h1 h2 => by simp only [body, need, if_true, R_tail, bnd, Q1.out, Q7.out, Q35.out, h0, h1, h2]) rfl HO.out)
                        obtain ⟨j41, vv, rfl, hj41, rfl, hG, hT⟩ := hr
                        obtain ⟨v41, rfl⟩ := hT.ptr
                        have G45 : Hid (Go1 c w w41 j41) := ⟨hG.1, G43.out.2.trans hG.2⟩
                        have O46 := Lib.hid (O44.out.off hG.2 hbl)
                        have T41 := Lib.hid hT
                        have D41 := Lib.hid hD
                        have hown41 := O46.out.2.2.1
                        have hwl41 : w.heap.size ≤ w41.heap.size := G45.out.2.size
                        have oS41 := O46.out.c3
                        have oT41 := cell_alloc oS41 (.cells #[.pointer (some ⟨v41, 0, none⟩)] 59)
                        have hdl := hG.2.size
                        clear hD hG hT)
                     | (go_simp
                        go_at_call 46
                        refine (newNode_any _ _ _ _ _ _).mono ?_
                        rintro e w47 hm
                        obtain ⟨v47, rfl, hT, hB⟩ := node_kids (k := 17) (x := []) (vs := [.pointer (some ⟨v41, 0, none⟩)]) (kids := [t41]) (IsTs.cons T41.out (IsTs.nil _ _)) hdl hm
                        have G48 : Hid (Go1 c w w47 j41) := ⟨G45.out.1.below hB, G45.out.2.below hB⟩
                        have O49 := Lib.hid (O46.out.stay hB)
                        have T47 := Lib.hid hT
                        have hown47 := O49.out.2.2.1
                        have hwl47 : w.heap.size ≤ w47.heap.size := G48.out.2.size
                        have oS47 := O49.out.c3
                        have oT47 := cell_alloc oS47 (.cells #[.pointer (some ⟨v47, 0, none⟩)] 59)
                        clear hT hB hm)
                     | (refine step_append_lies _ rfl _ _ 87 rfl w.heap.size 59 i0 _ 1 8 Tryz.underlying87 hi hz0 hz1' hz2 rfl (by decide) _ _ _ rfl (hown47.alloc _) ⟨w47.heap.size, 0, none⟩ 1 1 [.pointer (some ⟨v47, 0, none⟩)] rfl rfl (news_one _ _) (fun u hu => by simp at hu; subst hu; rfl) (by decide) (by unfold maxLen; simp) (by simp) (by simp; omega) (w47.heap.size + 1) (by simp) ?_
                        intro g cap w'' hown'' hgrow hat hlt''
                        have O42 := Lib.hid (O49.out.push T47.out hlw41 hal41 hol41.out hown'' hgrow hat)
                        have hbel := grown_old hown47 hwl47 hgrow
                        have GO42 : Hid (Go1 c w w'' j41) := G48.out.old hbel hgl hbl h0l
                        have oc := (O49.out.grown hgrow).1
                        have of := (O49.out.grown hgrow).2
                        clear hown'' hgrow hat hlt'' hbel))
            all_goals
              have hlo42 : w.heap.size ≤ a5 := O42.out.1
              have GP42 := Lib.hid (GO42.out.set (p := ⟨a5, 3, none⟩) hlo42 hgl hbl h0l (.slice (some ⟨g, 0, none⟩) 3 cap))
              generalize hw42 : World.setCell w'' _ _ = u42
              have OP42 : Hid (Opn w.heap.size u42 a5 15 [] (.slice (some ⟨g, 0, none⟩) 3 cap) (([(.pointer (some ⟨v3, 0, none⟩))] ++ [.pointer (some ⟨v29, 0, none⟩)]) ++ [.pointer (some ⟨v47, 0, none⟩)]) (([t3] ++ [t29]) ++ [(nd 17 [] [t41])])) := by rw [← hw42]; exact O42
              have G42 : Hid (Go1 c w u42 j41) := by rw [← hw42]; exact GP42
              clear hi hz0 hz1' hz2 oc of oS hdl hown41 oS41 oT41 GO42 GP42 O42 hw42 hown47 oS47 oT47
              have oq := OP42.out.c3
              go_wp2_with fail
              clear oq
              go_ret
              exact post_ok (show D c.E .tryIt (c.R k) (.ok (nd 15 [] (([t3] ++ [t29]) ++ [(nd 17 [] [t41])]), c.R j41)) from D.mk3 D3.out D29.out D41.out fun m h0 h1 h2 => by simp only [body, need, if_true, R_tail, bnd, ret, List.nil_append, List.cons_append, Q1.out, Q7.out, Q35.out, h0, h1, h2]) (by omega) rfl G42.out.1 G42.out.2 OP42.out.isT
end Go.Proofs.YtnkfodelgpidkaaGreatDoor
namespace Go.Proofs.YtnkfodelgpidkaaGreatDoor
open Go.RowKit
theorem function_any (c : Cx) (k : Nat) (kind : Int) (name : List UInt8) (ihu : ∀ j, k < j → OkL c (.untl [125] .element) 146 #[c.p, .string ⟨#[125]⟩, .func (.func 47) #[c.p] #[]] j) (ihl : ∀ j, k < j → OkLb c (.list [41] .param) 144 #[c.p, .string ⟨#[41]⟩, .func (.func 145) #[c.p] #[]] j) : Ok c (.function kind name) 87 #[c.p, .int .i64 kind, .string (bs name)] k := by
 intro w h
 have hbl := h.lt
 have hfew := h.ok.few
 have G0 : Hid (Go1 c w w k) := ⟨h, Off.refl _ _⟩
 have IHU := Lib.hid ihu
 have IHL := Lib.hid ihl
 clear h ihl ihu
 have hgl : c.g < w.heap.size := G0.out.1.ltg
 have h0l : c.w0.heap.size ≤ w.heap.size := G0.out.1.base.size
 go_enter Tryz.func87, Tryz.ntmps87
 go_wp2_with fail
 cases hq : isF c.E [40] (c.R k)
 ·refine (need_no c k ⟨#[40]⟩ _ G0.out.1 hq).mono ?_; rintro e w1 ⟨rfl, hB⟩
  have HO := Lib.hid (G0.out.2.below hB)
  have Q1 := Lib.hid hq
  clear hB hq
  unfold sflt
  go_wp2_with fail
  exact bodyPost_panic rfl (post_err (show D c.E (.function kind name) (c.R k) (.error (c.T k).pos) from D.mk0 fun m => by simp only [body, need, Bool.false_eq_true, if_false, bad, R_hd, Q1.out]) rfl HO.out)
 ·refine (need_yes c k ⟨#[40]⟩ (by decide) _ G0.out.1 hq).mono ?_; rintro e w1 ⟨rfl, hG⟩
  have G2 : Hid (Go1 c w w1 (k + 1)) := ⟨hG.1, G0.out.2.trans hG.2⟩
  have Q1 := Lib.hid hq
  clear hG hq
  go_wp2_with fail
  refine (IHL.out (k + 1) (by omega) _ G2.out.1).mono ?_; rintro e w3 ⟨r, hD, hr⟩
  rcases r with p | ⟨t3, R1⟩
  ·obtain ⟨rfl, hO⟩ := hr
   have HO := Lib.hid (G2.out.2.trans hO)
   have D3 := Lib.hid hD
   clear hD hO
   unfold sflt
   go_wp2_with fail
   exact bodyPost_panic rfl (post_err (show D c.E (.function kind name) (c.R k) (.error p) from D.mk1 D3.out fun m h0 => by simp only [body, need, if_true, R_tail, bnd, Q1.out, h0]) rfl HO.out)
  ·obtain ⟨j3, v3, vs3, S3, rfl, hj3, rfl, hG, hW, hK, hS, hN, hvs⟩ := hr
   have hvl3 : Hid (vs3.length ≤ 5000) := Nat.le_trans hvs (Nat.le_trans hG.1.le hfew)
   clear hvs
   have G4 : Hid (Go1 c w w3 j3) := ⟨hG.1, G2.out.2.trans hG.2⟩
   have HW3 := Lib.hid (own_mono hW G2.out.2.size)
   have HK3 := Lib.hid hK
   have HN3 := Lib.hid hN
   have HS3 : Hid (∀ i, S3 i → F w.heap.size w3.heap.size i) := fun i hi => F.mono G2.out.2.size (Nat.le_refl _) i (hS i hi)
   obtain ⟨ao3, cp3, rfl⟩ := own_slice hW
   have D3 := Lib.hid hD
   clear hD hG hW hK hS hN
   go_wp2_with fail
   refine (newNode_any _ _ _ _ _ _).mono ?_; rintro e w5 hm
   obtain ⟨a5, rfl, hO, hB⟩ := opn_row (k := kind) (x := name) HK3.out HS3.out HN3.out G4.out.2.size HW3.out hm
   have G6 : Hid (Go1 c w w5 j3) := ⟨G4.out.1.below hB, G4.out.2.below hB⟩
   have O5 := Lib.hid hO
   clear hO hB hm
   go_wp2_with fail
   cases hq : isF c.E [123] (c.R j3)
   ·refine (need_no c j3 ⟨#[123]⟩ _ G6.out.1 hq).mono ?_; rintro e w7 ⟨rfl, hB⟩
    have HO := Lib.hid (G6.out.2.below hB)
    have Q7 := Lib.hid hq
    clear hB hq
    unfold sflt
    go_wp2_with fail
    exact bodyPost_panic rfl (post_err (show D c.E (.function kind name) (c.R k) (.error (c.T j3).pos) from D.mk1 D3.out fun m h0 => by simp only [body, need, if_true, R_tail, bnd, Bool.false_eq_true, if_false, bad, R_hd, Q1.out, Q7.out, h0]) rfl HO.out)
   ·refine (need_yes c j3 ⟨#[123]⟩ (by decide) _ G6.out.1 hq).mono ?_; rintro e w7 ⟨rfl, hG⟩
    have G8 : Hid (Go1 c w w7 (j3 + 1)) := ⟨hG.1, G6.out.2.trans hG.2⟩
    have O9 := Lib.hid (O5.out.off hG.2 hbl)
    have Q7 := Lib.hid hq
    clear hG hq
    go_wp2_with fail
    refine (IHU.out (j3 + 1) (by omega) _ G8.out.1).mono ?_; rintro e w10 ⟨r, hD, hr⟩
    rcases r with p | ⟨t10, R1⟩
    ·obtain ⟨rfl, hO⟩ := hr
     have HO := Lib.hid (G8.out.2.trans hO)
     have D10 := Lib.hid hD
     clear hD hO
     unfold sflt
     go_wp2_with fail
     exact bodyPost_panic rfl (post_err (show D c.E (.function kind name) (c.R k) (.error p) from D.mk2 D3.out D10.out fun m h0 h1 => by simp only [body, need, if_true, R_tail, bnd, Q1.out, Q7.out, h0, h1]) rfl HO.out)
    ·obtain ⟨j10, v10, vs10, S10, rfl, hj10, rfl, hG, hW, hK, hS, hN⟩ := hr
     have G11 : Hid (Go1 c w w10 j10) := ⟨hG.1, G8.out.2.trans hG.2⟩
     have O12 := Lib.hid (O9.out.off hG.2 hbl)
     have HW10 := Lib.hid hW
     have hrl10 := hG.2.size
     have hlw10 : w.heap.size ≤ w7.heap.size := G8.out.2.size
     have hal10 : a5 < w7.heap.size := O9.out.lt
     have hol10 := Lib.hid (fun i hi => (O9.out.2.2.1.lt i hi).2)
     have HK10 := Lib.hid hK
     have HS10 := Lib.hid hS
     obtain ⟨ao10, cp10, rfl⟩ := own_slice hW
     have D10 := Lib.hid hD
     clear hD hG hW hK hS hN
     go_wp2_with fail
     refine (newNode_any _ _ _ _ _ _).mono ?_; rintro e w13 hm
     obtain ⟨a13, rfl, hT, hB⟩ := node_row (k := 20) (x := []) HK10.out HS10.out hrl10 HW10.out hm
     have G14 : Hid (Go1 c w w13 j10) := ⟨G11.out.1.below hB, G11.out.2.below hB⟩
     have O15 := Lib.hid (O12.out.stay hB)
     have T13 := Lib.hid hT
     clear hT hB hm
     have oS := O15.out.c3
     have hown := O15.out.2.2.1
     have hwl : w.heap.size ≤ w13.heap.size := G14.out.2.size
     obtain ⟨i0, hi, hz0, hz1', hz2⟩ := info_parts info_ptr
     go_wp2_with (at_builtin; refine wpList_append_lies _ rfl _ _ 87 rfl w.heap.size 59 i0 _ 1 8 Tryz.underlying87 hi hz0 hz1' hz2 rfl (by decide) _ _ _ rfl (hown.alloc _) ⟨w13.heap.size, 0, none⟩ 1 1 [.pointer (some ⟨a13, 0, none⟩)] rfl rfl (news_one _ _) (fun u hu => by simp at hu; subst hu; rfl) (by decide) (by have := hvl3.out; (try unfold maxLen); omega) (by have := hvl3.out; (try unfold maxLen); omega) (by simp; omega) (w13.heap.size + 1) (by simp) ?_)
     intro g cap w'' hown'' hgrow hat hlt''
     have O16 := Lib.hid (O15.out.push T13.out hlw10 hal10 hol10.out hown'' hgrow hat)
     have hbel := grown_old hown hwl hgrow
     have GO16 : Hid (Go1 c w w'' j10) := G14.out.old hbel hgl hbl h0l
     have oc := (O15.out.grown hgrow).1
     have of := (O15.out.grown hgrow).2
     clear hown'' hgrow hat hlt'' hbel hown oS hi hz0 hz1' hz2
     go_wp2_with fail
     have hlo16 : w.heap.size ≤ a5 := O16.out.1
     have G16 := Lib.hid (GO16.out.set (p := ⟨a5, 3, none⟩) hlo16 hgl hbl h0l (.slice (some ⟨g, 0, none⟩) (vs3.length + 1) cap))
     go_ret
     exact post_ok (show D c.E (.function kind name) (c.R k) (.ok (nd kind name (t3.kids ++ [(nd 20 [] t10.kids)]), c.R j10)) from D.mk2 D3.out D10.out fun m h0 h1 => by simp only [body, need, if_true, R_tail, bnd, ret, List.nil_append, List.cons_append, Q1.out, Q7.out, h0, h1]) (by omega) rfl G16.out.1 G16.out.2 O16.out.isT
end Go.Proofs.YtnkfodelgpidkaaGreatDoor
namespace Go.Proofs.YtnkfodelgpidkaaGreatDoor
open Go.RowKit
def PostP (c : Cx) (k : Nat) (w : World) (e : Ending) (w' : World) : Prop :=
 ∃ r, D c.E .program (c.R k) r ∧ match r with
  | .error p => e = sflt p ∧ Off c.b w w'
  | .ok (t, R1) => ∃ v, R1 = [] ∧ e = .returned v ∧ Go1 c w w' c.ts.length ∧ IsT w' (F w.heap.size w'.heap.size) v (nd 1 [] t.kids)
theorem R_cons (c : Cx) (k : Nat) (h : k < c.ts.length) : c.R k = c.ts[k] :: c.R (k + 1) := List.drop_eq_getElem_cons h
theorem R_nil (c : Cx) (k : Nat) (h : c.ts.length ≤ k) : c.R k = [] := List.drop_eq_nil_of_le h
theorem program_any (c : Cx) (k : Nat) (IH : ∀ j, k ≤ j → Ok c .element 47 #[c.p] j) (w : World) (h : In c w k) :
    Calls Tryz.prog 26 #[c.p] w (PostP c k w) := by
  have hbl := h.lt
  have hfew := h.ok.few
  have hgl := h.ltg
  have h0l := h.base.size
  have G0 : Hid (Go1 c w w k) := ⟨h, Off.refl _ _⟩
  have IHH := Lib.hid IH
  have hkl := h.le
  clear h IH
  go_enter Tryz.func26, Tryz.ntmps26
  go_wp2_with fail
  refine (newNode_any _ _ _ _ _ _).mono ?_; rintro e w5 hm
  obtain ⟨a3, rfl, hO, hB⟩ := opn_none (k := 1) (x := []) G0.out.2.size hm
  have G5 : Hid (Go1 c w w5 k) := ⟨G0.out.1.below hB, G0.out.2.below hB⟩
  have O5 := Lib.hid hO
  clear hO hB hm
  go_wp2_with fail
  go_loopg [] (c.ts.length - k) (fun g wr => ∃ (kj : Nat) (v : Value) (vs : List Value) (kids : List Tr), g = c.ts.length - kj ∧ k ≤ kj ∧ vs.length ≤ kj ∧ Hid (Go1 c w wr kj) ∧ Hid (Opn w.heap.size wr a3 1 [] v vs kids) ∧ Hid (∀ p, D c.E .program (c.R kj) (.error p) → D c.E .program (c.R k) (.error p)) ∧ Hid (∀ l R', D c.E .program (c.R kj) (.ok (bag l, R')) → D c.E .program (c.R k) (.ok (bag (kids ++ l), R'))))
  case atStart => exact ⟨k, _, [], [], rfl, Nat.le_refl _, Nat.zero_le _, G5.out, O5.out, fun p h => h, fun l R' h => h⟩
  case round =>
    obtain ⟨kj, v, vs, kids, rfl, hkj, hvs, GL, OL, DE, DL⟩ := hrel
    obtain ⟨ao, cp, rfl⟩ := OL.out.slice
    have hkl2 := GL.out.1.le
    have hB1 : Below wr.heap.size wr wr.drew := (Below.refl _ _).drew
    have GL2 : Hid (Go1 c w wr.drew kj) := ⟨GL.out.1.below hB1, GL.out.2.below hB1⟩
    have OL2 := Lib.hid (OL.out.stay hB1)
    have ac0 := GL.out.1.c0
    have ac1 := GL.out.1.c1
    have ad0 : wr.drew.cell? _ = _ := ac0
    have ad1 : wr.drew.cell? _ = _ := ac1
    by_cases hlt : kj < c.ts.length
    · go_wp2_with fail
      go_region
      go_wp2_with fail
      clear ac0 ac1 ad0 ad1 hB1 GL OL
      generalize wr.drew = wd at *
      have RC := Lib.hid (R_cons c kj hlt)
      have hBd : Below wd.heap.size wd wd.drew := (Below.refl _ _).drew
      have G13 : Hid (Go1 c w wd.drew kj) := ⟨GL2.out.1.below hBd, GL2.out.2.below hBd⟩
      have O14 := Lib.hid (OL2.out.stay hBd)
      have oS := O14.out.c3
      have hal11 : a3 < wd.drew.heap.size := O14.out.lt
      have hol11 := Lib.hid (fun i hi => (O14.out.2.2.1.lt i hi).2)
      have hlw11 : w.heap.size ≤ wd.drew.heap.size := G13.out.2.size
      obtain ⟨i0, hi, hz0, hz1', hz2⟩ := info_parts info_ptr
      clear hBd
      go_region_law
        (first | (go_simp
                  go_at_call 47
                  refine (IHH.out kj hkj _ G13.out.1).mono ?_
                  rintro e w11 ⟨r, hD, hr⟩
                  rcases r with p | ⟨t11, R1⟩
                  · obtain ⟨rfl, hO⟩ := hr
                    have HO := Lib.hid (G13.out.2.trans hO)
                    have D11 := Lib.hid hD
                    clear hD hO
                    unfold sflt
                    exact bodyPost_panic rfl ⟨_, DE.out p (D.mk1 D11.out fun m h0 => by rw [RC.out] at h0; simp only [body, RC.out, bnd, h0]), rfl, HO.out⟩
                  obtain ⟨j11, vv, rfl, hj11, rfl, hG, hT⟩ := hr
                  obtain ⟨v11, rfl⟩ := hT.ptr
                  have G15 : Hid (Go1 c w w11 j11) := ⟨hG.1, G13.out.2.trans hG.2⟩
                  have O16 := Lib.hid (O14.out.off hG.2 hbl)
                  have T11 := Lib.hid hT
                  have D11 := Lib.hid hD
                  have hown11 := O16.out.2.2.1
                  have hwl11 : w.heap.size ≤ w11.heap.size := G15.out.2.size
                  have oS11 := O16.out.c3
                  have oT11 := cell_alloc oS11 (.cells #[.pointer (some ⟨v11, 0, none⟩)] 59)
                  clear hD hG hT)
               | (refine step_append_lies _ rfl _ _ 87 rfl w.heap.size 59 i0 _ 1 8 Tryz.underlying87 hi hz0 hz1' hz2 rfl (by decide) _ _ _ rfl (hown11.alloc _) ⟨w11.heap.size, 0, none⟩ 1 1 [.pointer (some ⟨v11, 0, none⟩)] rfl rfl (news_one _ _) (fun u hu => by simp at hu; subst hu; rfl) (by decide) (by unfold maxLen; omega) (by omega) (by simp; omega) (w11.heap.size + 1) (by simp) ?_
                  intro g cap w'' hown'' hgrow hat hlt''
                  have O12 := Lib.hid (O16.out.push T11.out hlw11 hal11 hol11.out hown'' hgrow hat)
                  have hbel := grown_old hown11 hwl11 hgrow
                  have GO12 : Hid (Go1 c w w'' j11) := G15.out.old hbel hgl hbl h0l
                  have oc := (O16.out.grown hgrow).1
                  have of := (O16.out.grown hgrow).2
                  clear hown'' hgrow hat hlt'' hbel))
      all_goals
        have hlo12 : w.heap.size ≤ a3 := O12.out.1
        have GP12 := Lib.hid (GO12.out.set (p := ⟨a3, 3, none⟩) hlo12 hgl hbl h0l (.slice (some ⟨g, 0, none⟩) (vs.length + 1) cap))
        generalize hw12 : World.setCell w'' _ _ = u12
        have OP12 : Hid (Opn w.heap.size u12 a3 1 [] (.slice (some ⟨g, 0, none⟩) (vs.length + 1) cap) (vs ++ [.pointer (some ⟨v11, 0, none⟩)]) (kids ++ [t11])) := by rw [← hw12]; exact O12
        have G12 : Hid (Go1 c w u12 j11) := by rw [← hw12]; exact GP12
        have hjl := G12.out.1.le
        have D2 : Hid (∀ p, D c.E .program (c.R j11) (.error p) → D c.E .program (c.R k) (.error p)) := fun p h => DE.out p (D.mk2 D11.out h fun m h0 h1 => by rw [RC.out] at h0; simp only [body, RC.out, bnd, h0, h1])
        have D3 : Hid (∀ l R', D c.E .program (c.R j11) (.ok (bag l, R')) → D c.E .program (c.R k) (.ok (bag (kids ++ [t11] ++ l), R'))) := fun l R' h => by
          have := DL.out (t11 :: l) R' (D.mk2 D11.out h fun m h0 h1 => by rw [RC.out] at h0; simp only [body, RC.out, bnd, h0, h1, ret, Tr.kids])
          rwa [List.append_assoc]
        clear hi hz0 hz1' hz2 oc of oS hown11 oS11 oT11 GO12 GP12 O12 hw12
        go_wp2_with fail
        go_roundg (c.ts.length - j11)
        case measure => omega
        case rel => exact ⟨j11, .slice (some ⟨g, 0, none⟩) (vs.length + 1) cap, vs ++ [Value.pointer (some (Addr.mk v11 0 none))], kids ++ [t11], rfl, by omega, by rw [List.length_append]; show vs.length + 1 ≤ j11; omega, G12.out, OP12.out, D2.out, D3.out⟩
    · go_wp2_with fail
      go_region
      go_wp2_with fail
      go_ret
      have RN := R_nil c kj (by omega)
      have he : kj = c.ts.length := by omega
      subst he
      refine ⟨.ok (bag kids, []), ?_, _, rfl, rfl, GL2.out, OL2.out.isT⟩
      have := DL.out [] [] (D.mk0 fun m => by simp only [body, RN, ret])
      rwa [List.append_nil] at this
end Go.Proofs.YtnkfodelgpidkaaGreatDoor
namespace Go.Proofs.YtnkfodelgpidkaaGreatDoor
open Go.RowKit
theorem eg_statement : ∀ args w, (callFunc 89 args).run Tryz.prog w = .ok (.enter 89 args) w := fun args w => Go.MuLone.run_callFunc_enter Tryz.func89 rfl rfl args w
theorem eg_element : ∀ args w, (callFunc 47 args).run Tryz.prog w = .ok (.enter 47 args) w := fun args w => Go.MuLone.run_callFunc_enter Tryz.func47 rfl rfl args w
theorem eg_param : ∀ args w, (callFunc 145 args).run Tryz.prog w = .ok (.enter 145 args) w := fun args w => Go.MuLone.run_callFunc_enter Tryz.func145 rfl rfl args w
theorem eg_decl : ∀ args w, (callFunc 194 args).run Tryz.prog w = .ok (.enter 194 args) w := fun args w => Go.MuLone.run_callFunc_enter Tryz.func194 rfl rfl args w
theorem eg_assign : ∀ args w, (callFunc 199 args).run Tryz.prog w = .ok (.enter 199 args) w := fun args w => Go.MuLone.run_callFunc_enter Tryz.func199 rfl rfl args w
theorem eg_prop : ∀ args w, (callFunc 263 args).run Tryz.prog w = .ok (.enter 263 args) w := fun args w => Go.MuLone.run_callFunc_enter Tryz.func263 rfl rfl args w
structure Al (c : Cx) (k : Nat) : Prop where
 expr : Ok c .expr 161 #[c.p] k
 stmt : Ok c .statement 89 #[c.p] k
 elem : Ok c .element 47 #[c.p] k
 brac : Ok c .bracketed 195 #[c.p] k
 asg : Ok c .assign 199 #[c.p] k
 blk : Ok c .block 150 #[c.p] k
 cat : Ok c .catchIt 198 #[c.p] k
 forS : Ok c .forStart 196 #[c.p] k
 mak : Ok c .maker 259 #[c.p] k
 una : Ok c .unary 241 #[c.p] k
 dec : Ok c .decl 194 #[c.p] k
 par : Ok c .param 145 #[c.p] k
 prp : Ok c .prop 263 #[c.p] k
 opt : ∀ stop : List UInt8, stop ≠ [] → Ok c (.optional stop) 197 #[c.p, .string (bs stop)] k
 prt : OkX c .part 254 k
 cal : OkXL c .called 255 k
 bin : ∀ l : Int, 1 ≤ l → l ≤ 11 → Ok c (.binary l) 230 #[c.p, .int .i64 l] k
 fun_ : ∀ (kind : Int) (x : List UInt8), Ok c (.function kind x) 87 #[c.p, .int .i64 kind, .string (bs x)] k
theorem al_step (c : Cx) (k : Nat) (H : ∀ j, k < j → Al c j) : Al c k := by
  have rw_ : ∀ (it : NT) (f : Nat), (∀ args w, (callFunc f args).run Tryz.prog w = .ok (.enter f args) w) → (∀ j, k < j → Ok c it f #[c.p] j) → ∀ j, k < j → OkLb c (.row it) 193 #[c.p, .func (.func f) #[c.p] #[]] j :=
    fun it f EG IH j hj => row_any c j it f EG fun i hi => IH i (by omega)
  have un_ : ∀ (stop : List UInt8) (it : NT) (f : Nat), stop ≠ [] → (∀ args w, (callFunc f args).run Tryz.prog w = .ok (.enter f args) w) → (∀ j, k < j → Ok c it f #[c.p] j) → ∀ j, k < j → OkL c (.untl stop it) 146 #[c.p, .string (bs stop), .func (.func f) #[c.p] #[]] j :=
    fun stop it f hs EG IH j hj => until_any c j stop hs it f EG fun i hi => IH i (by omega)
  have li_ : ∀ (stop : List UInt8) (it : NT) (f : Nat), stop ≠ [] → (∀ args w, (callFunc f args).run Tryz.prog w = .ok (.enter f args) w) → (∀ j, k < j → Ok c it f #[c.p] j) → ∀ j, k < j → OkLb c (.list stop it) 144 #[c.p, .string (bs stop), .func (.func f) #[c.p] #[]] j :=
    fun stop it f hs EG IH j hj => list_any c j stop hs it f (rw_ it f EG IH j hj)
  have brac := bracketed_any c k fun j hj => (H j hj).expr
  have fixed := fixedPrimary_any c k brac (fun j hj => (li_ [93] .assign _ (by decide) eg_assign (fun j hj => (H j hj).asg) j hj).ok) (fun j hj => (li_ [125] .prop _ (by decide) eg_prop (fun j hj => (H j hj).prp) j hj).ok) (fun j hj x => (H j hj).fun_ 31 x)
  have prim := primary_any c k fixed
  have newO := newObject_any c k (fun j hj => (H j hj).mak) (fun j hj => (H j hj).cal)
  have mak := maker_any c k newO prim (fun j hj => (H j hj).prt)
  have pnew := primaryOrNew_any c k newO prim
  have memb := member_any c k pnew (fun j hj => (H j hj).prt) (fun j hj => (H j hj).cal)
  have post := postfix_any c k memb
  have una := unary_any c k (fun j hj => (H j hj).una) post
  have bin := fun (l : Int) (h1 : 1 ≤ l) (h2 : l ≤ 11) => binary_any c k l h1 h2 una (fun j hj => (H j hj).bin)
  have con := cond_any c k (bin 1 (by decide) (by decide)) (fun j hj => (H j hj).asg)
  have asg := assign_any c k con (fun j hj => (H j hj).asg)
  have exp := expr_any c k asg (fun j hj => (H j hj).asg)
  have blk := block_any c k (un_ [125] .statement _ (by decide) eg_statement (fun j hj => (H j hj).stmt))
  have va := vars_any c k (fun j hj => (rw_ .decl _ eg_decl (fun j hj => (H j hj).dec) j hj).ok)
  have stmt := statement_any c k blk va (ifElse_any c k (fun j hj => (H j hj).brac) (fun j hj => (H j hj).stmt)) (whileDo_any c k (fun j hj => (H j hj).brac) (fun j hj => (H j hj).stmt)) (doWhile_any c k (fun j hj => (H j hj).brac) (fun j hj => (H j hj).stmt))
    (forLoop_any c k (fun j hj => (H j hj).forS) (fun j hj => (H j hj).opt [59] (by decide)) (fun j hj => (H j hj).opt [41] (by decide)) (fun j hj => (H j hj).stmt)) (giveBack_any c k fun j hj => (H j hj).expr) (throwIt_any c k fun j hj => (H j hj).expr)
    (tryIt_any c k (fun j hj => (H j hj).blk) (fun j hj => (H j hj).cat)) exp
  have fun_ := fun (kind : Int) (x : List UInt8) => function_any c k kind x (un_ [125] .element _ (by decide) eg_element (fun j hj => (H j hj).elem)) (li_ [41] .param _ (by decide) eg_param (fun j hj => (H j hj).par))
  exact {
    expr := exp, stmt := stmt, elem := element_any c k stmt (fun j hj x => (H j hj).fun_ 18 x), brac := brac, asg := asg, blk := blk, cat := catchIt_any c k fun j hj => (H j hj).blk
    forS := forStart_any c k va exp, mak := mak, una := una, dec := decl_any c k fun j hj => (H j hj).asg, par := param_any c k, prp := prop_any c k fun j hj => (H j hj).asg
    opt := fun stop hs => optional_any c k stop hs exp, prt := part_any c k fun j hj => (H j hj).expr, cal := called_any c k (li_ [41] .assign _ (by decide) eg_assign (fun j hj => (H j hj).asg)), bin := bin, fun_ := fun_ }
theorem al_end (c : Cx) (k : Nat) (h : c.ts.length < k) : Al c k := by
 have no : ∀ w, ¬ In c w k := fun w hi => by have := hi.le; omega
 exact { expr := fun w hi => (no w hi).elim, stmt := fun w hi => (no w hi).elim, elem := fun w hi => (no w hi).elim, brac := fun w hi => (no w hi).elim, asg := fun w hi => (no w hi).elim, blk := fun w hi => (no w hi).elim, cat := fun w hi => (no w hi).elim, forS := fun w hi => (no w hi).elim, mak := fun w hi => (no w hi).elim, una := fun w hi => (no w hi).elim, dec := fun w hi => (no w hi).elim, par := fun w hi => (no w hi).elim, prp := fun w hi => (no w hi).elim, opt := fun _ _ w hi => (no w hi).elim, prt := fun w _ _ _ _ _ _ hi => (no w hi).elim, cal := fun w _ _ _ _ _ _ hi => (no w hi).elim, bin := fun _ _ _ w hi => (no w hi).elim, fun_ := fun _ _ w hi => (no w hi).elim }
theorem al_all (c : Cx) : ∀ (n k : Nat), c.ts.length < k + n → Al c k
 | 0, k, h => al_end c k h
 | n + 1, k, h => al_step c k fun j hj => al_all c n j (by omega)
theorem program_at (c : Cx) (w : World) (h : In c w 0) : Calls Tryz.prog 26 #[c.p] w (PostP c 0 w) :=
 program_any c 0 (fun j _ => (al_all c (c.ts.length + 1) j (by omega)).elem) w h
end Go.Proofs.YtnkfodelgpidkaaGreatDoor
