/- Part of a proof: contracts of functions. -/
import Derived.Test.YtfcgpphodacdmaaGreatDoorY19
import Derived.Test.YtfcgpphodacdmaaGreatDoorY22
import Derived.Lib.JoinLaws
set_option maxRecDepth 100000
set_option maxHeartbeats 4000000
set_option linter.all false
namespace Go.Proofs.YtfcgpphodacdmaaGreatDoor
open Go.RowKit
theorem zpH (n z : Int) (x : List UInt8) (b : Int) (hx : x.length ≤ 1000000) (w : World) :
    Calls Tryz.prog 62 #[.agg #[.int .i64 37, .int .i64 n, .int .i64 z, .string (bs x), .int .u64 b]] w fun e w' => e = .returned (.bool (yB 37 x)) ∧ Below w.heap.size w w' := by
  have hal : Below w.heap.size w (w.alloc (.cells #[.int .i64 37, .int .i64 n, .int .i64 z, .string (bs x), .int .u64 b] 40)) := (ze _ _).alloc (zd _) _;have HAL := za hal;have hx2 : (bs x).size ≤ 1000000 := hx;clear hal;show Calls _ _ _ _ fun e w' => e = .returned (.bool (yG.contains x)) ∧ Below w.heap.size w w'
  have SI := za (fun w => zjm w);have CO0 := fun w v h => ve w v yG x h (by decide)
  generalize yG.contains x = G at *;have CO := za CO0;clear CO0;have cx : (w.alloc (.cells #[.int .i64 37, .int .i64 n, .int .i64 z, .string (bs x), .int .u64 b] 40)).cell? ⟨w.heap.size, 3, none⟩ = some (.string (bs x)) := zR _ _ _ 3;have hsz : w.heap.size < (w.alloc (.cells #[.int .i64 37, .int .i64 n, .int .i64 z, .string (bs x), .int .u64 b] 40)).heap.size := by simp
  go_enter Tryz.func62, Tryz.ntmps62
  go_wp2_with fail
  go_region_with (first
    | (go_at_call 99; refine (SI.out _).mono ?_; rintro e w1 ⟨v1, rfl, hS1, hB1⟩; obtain ⟨a1, p1, rfl⟩ := hS1.slice; have HS1 := za hS1; have HW1 := za (yc (w := w) (by first | exact HAL.out | exact HAL.out.drew | exact below_drewN HAL.out _) hB1); have cx1 := (hB1.cell (p := ⟨w.heap.size, 3, none⟩) (by first | exact hsz | (simp; done))).trans (by first | exact cx | exact (yx cx)); clear hS1 hB1)
    | (go_at_call 98; refine (CO.out _ _ (by first | exact HS1.out | exact HS1.out.below (ze _ _).drew)).mono ?_; rintro e w2 ⟨rfl, hB2⟩; have HW2 := za (yc (w := w) (by first | exact HW1.out | exact HW1.out.drew | exact below_drewN HW1.out _) hB2); clear hB2))
  all_goals
    go_wp2_with fail;go_ret;exact ⟨rfl, by first | exact HW2.out | exact HW2.out.drew | exact below_drewN HW2.out _⟩
theorem zo7 (n z : Int) (x : List UInt8) (b : Int) (hx : x.length ≤ 1000000) (w : World) :
    Calls Tryz.prog 62 #[.agg #[.int .i64 38, .int .i64 n, .int .i64 z, .string (bs x), .int .u64 b]] w fun e w' => e = .returned (.bool (yB 38 x)) ∧ Below w.heap.size w w' := by
  have hal : Below w.heap.size w (w.alloc (.cells #[.int .i64 38, .int .i64 n, .int .i64 z, .string (bs x), .int .u64 b] 40)) := (ze _ _).alloc (zd _) _;have HAL := za hal;have hx2 : (bs x).size ≤ 1000000 := hx;clear hal;show Calls _ _ _ _ fun e w' => e = .returned (.bool (jf.contains x)) ∧ Below w.heap.size w w'
  have SI := za (fun w => zjn w);have CO0 := fun w v h => ve w v jf x h (by decide)
  generalize jf.contains x = G at *;have CO := za CO0;clear CO0;have cx : (w.alloc (.cells #[.int .i64 38, .int .i64 n, .int .i64 z, .string (bs x), .int .u64 b] 40)).cell? ⟨w.heap.size, 3, none⟩ = some (.string (bs x)) := zR _ _ _ 3;have hsz : w.heap.size < (w.alloc (.cells #[.int .i64 38, .int .i64 n, .int .i64 z, .string (bs x), .int .u64 b] 40)).heap.size := by simp
  go_enter Tryz.func62, Tryz.ntmps62
  go_wp2_with fail
  go_region_with (first
    | (go_at_call 99; refine (SI.out _).mono ?_; rintro e w1 ⟨v1, rfl, hS1, hB1⟩; obtain ⟨a1, p1, rfl⟩ := hS1.slice; have HS1 := za hS1; have HW1 := za (yc (w := w) (by first | exact HAL.out | exact HAL.out.drew | exact below_drewN HAL.out _) hB1); have cx1 := (hB1.cell (p := ⟨w.heap.size, 3, none⟩) (by first | exact hsz | (simp; done))).trans (by first | exact cx | exact (yx cx)); clear hS1 hB1)
    | (go_at_call 98; refine (CO.out _ _ (by first | exact HS1.out | exact HS1.out.below (ze _ _).drew)).mono ?_; rintro e w2 ⟨rfl, hB2⟩; have HW2 := za (yc (w := w) (by first | exact HW1.out | exact HW1.out.drew | exact below_drewN HW1.out _) hB2); clear hB2))
  all_goals
    go_wp2_with fail;go_ret;exact ⟨rfl, by first | exact HW2.out | exact HW2.out.drew | exact below_drewN HW2.out _⟩
theorem zo0 (n z : Int) (x : List UInt8) (b : Int) (hx : x.length ≤ 1000000) (w : World) :
    Calls Tryz.prog 62 #[.agg #[.int .i64 39, .int .i64 n, .int .i64 z, .string (bs x), .int .u64 b]] w fun e w' => e = .returned (.bool (yB 39 x)) ∧ Below w.heap.size w w' := by
  have hal : Below w.heap.size w (w.alloc (.cells #[.int .i64 39, .int .i64 n, .int .i64 z, .string (bs x), .int .u64 b] 40)) := (ze _ _).alloc (zd _) _;have HAL := za hal;have hx2 : (bs x).size ≤ 1000000 := hx;clear hal;show Calls _ _ _ _ fun e w' => e = .returned (.bool (jg.contains x)) ∧ Below w.heap.size w w'
  have SI := za (fun w => zjo w);have CO0 := fun w v h => ve w v jg x h (by decide)
  generalize jg.contains x = G at *;have CO := za CO0;clear CO0;have cx : (w.alloc (.cells #[.int .i64 39, .int .i64 n, .int .i64 z, .string (bs x), .int .u64 b] 40)).cell? ⟨w.heap.size, 3, none⟩ = some (.string (bs x)) := zR _ _ _ 3;have hsz : w.heap.size < (w.alloc (.cells #[.int .i64 39, .int .i64 n, .int .i64 z, .string (bs x), .int .u64 b] 40)).heap.size := by simp
  go_enter Tryz.func62, Tryz.ntmps62
  go_wp2_with fail
  go_region_with (first
    | (go_at_call 99; refine (SI.out _).mono ?_; rintro e w1 ⟨v1, rfl, hS1, hB1⟩; obtain ⟨a1, p1, rfl⟩ := hS1.slice; have HS1 := za hS1; have HW1 := za (yc (w := w) (by first | exact HAL.out | exact HAL.out.drew | exact below_drewN HAL.out _) hB1); have cx1 := (hB1.cell (p := ⟨w.heap.size, 3, none⟩) (by first | exact hsz | (simp; done))).trans (by first | exact cx | exact (yx cx)); clear hS1 hB1)
    | (go_at_call 98; refine (CO.out _ _ (by first | exact HS1.out | exact HS1.out.below (ze _ _).drew)).mono ?_; rintro e w2 ⟨rfl, hB2⟩; have HW2 := za (yc (w := w) (by first | exact HW1.out | exact HW1.out.drew | exact below_drewN HW1.out _) hB2); clear hB2))
  all_goals
    go_wp2_with fail;go_ret;exact ⟨rfl, by first | exact HW2.out | exact HW2.out.drew | exact below_drewN HW2.out _⟩
theorem zp7 (n z : Int) (x : List UInt8) (b : Int) (hx : x.length ≤ 1000000) (w : World) :
    Calls Tryz.prog 62 #[.agg #[.int .i64 41, .int .i64 n, .int .i64 z, .string (bs x), .int .u64 b]] w fun e w' => e = .returned (.bool (yB 41 x)) ∧ Below w.heap.size w w' := by
  have hal : Below w.heap.size w (w.alloc (.cells #[.int .i64 41, .int .i64 n, .int .i64 z, .string (bs x), .int .u64 b] 40)) := (ze _ _).alloc (zd _) _;have HAL := za hal;have hx2 : (bs x).size ≤ 1000000 := hx;clear hal;show Calls _ _ _ _ fun e w' => e = .returned (.bool (xy.contains x)) ∧ Below w.heap.size w w'
  have SI := za (fun w => zjp w);have CO0 := fun w v h => ve w v xy x h (by decide)
  generalize xy.contains x = G at *;have CO := za CO0;clear CO0;have cx : (w.alloc (.cells #[.int .i64 41, .int .i64 n, .int .i64 z, .string (bs x), .int .u64 b] 40)).cell? ⟨w.heap.size, 3, none⟩ = some (.string (bs x)) := zR _ _ _ 3;have hsz : w.heap.size < (w.alloc (.cells #[.int .i64 41, .int .i64 n, .int .i64 z, .string (bs x), .int .u64 b] 40)).heap.size := by simp
  go_enter Tryz.func62, Tryz.ntmps62
  go_wp2_with fail
  go_region_with (first
    | (go_at_call 99; refine (SI.out _).mono ?_; rintro e w1 ⟨v1, rfl, hS1, hB1⟩; obtain ⟨a1, p1, rfl⟩ := hS1.slice; have HS1 := za hS1; have HW1 := za (yc (w := w) (by first | exact HAL.out | exact HAL.out.drew | exact below_drewN HAL.out _) hB1); have cx1 := (hB1.cell (p := ⟨w.heap.size, 3, none⟩) (by first | exact hsz | (simp; done))).trans (by first | exact cx | exact (yx cx)); clear hS1 hB1)
    | (go_at_call 98; refine (CO.out _ _ (by first | exact HS1.out | exact HS1.out.below (ze _ _).drew)).mono ?_; rintro e w2 ⟨rfl, hB2⟩; have HW2 := za (yc (w := w) (by first | exact HW1.out | exact HW1.out.drew | exact below_drewN HW1.out _) hB2); clear hB2))
  all_goals
    go_wp2_with fail;go_ret;exact ⟨rfl, by first | exact HW2.out | exact HW2.out.drew | exact below_drewN HW2.out _⟩
def Acc (lo : Nat) (w : World) (v : Value) (vs : List Value) (kids : List Tr) : Prop :=
 w.ownsRow lo 63 1 v vs.length vs ∧ ∃ S : Nat → Prop, zD w S vs kids ∧ (∀ i, S i → F lo w.heap.size i) ∧ ∀ g, v.ownBlock = some g → ¬ S g
theorem Acc.nil (lo : Nat) (w : World) : Acc lo w (.slice none 0 0) [] [] :=
 ⟨World.ownsRow_nil _ _ _ _, fun _ => False, zD.nil _ _, fun _ h => h.elim, fun _ _ h => h⟩
theorem zbi {b lo : Nat} {w w' : World} {v : Value} {n : Nat} {xs : List Value} (h : w.ownsRow lo 63 1 v n xs) (ho : Off b w w') (hb : b < lo) : w'.ownsRow lo 63 1 v n xs := by
 refine h.kept (row := some b) ⟨ho.os, ho.tape, ho.output, ho.size, fun k hk hr => ho.block k hk (fun e => hr (by rw [e]))⟩ ?_;cases hv : v.ownBlock with
 | none => exact .inl rfl
 | some g => exact .inr (fun e => by injection e with e; have := (h.lt g hv).1; omega)
theorem Acc.off {b lo : Nat} {w w' : World} {v : Value} {vs : List Value} {kids : List Tr} (h : Acc lo w v vs kids) (ho : Off b w w') (hb : b < lo) : Acc lo w' v vs kids := by
 obtain ⟨h1, S, h2, h3, h4⟩ := h;exact ⟨zbi h1 ho hb, S, h2.keep (fun _ h => h) fun i hi => ho.block i (h3 i hi).2 (by have := (h3 i hi).1; omega), fun i hi => F.mono (zd _) ho.size i (h3 i hi), h4⟩
theorem Acc.slice {lo : Nat} {w : World} {v : Value} {vs : List Value} {kids : List Tr} (h : Acc lo w v vs kids) : ∃ ao cp, v = .slice ao vs.length cp := yb h.1
theorem Acc.push {lo lo2 : Nat} {w w3 : World} {v x : Value} {vs : List Value} {kids : List Tr} {t : Tr} {g cap : Nat} (h : Acc lo w v vs kids) (hx : IsT w (F lo2 w.heap.size) x t) (hlo : lo ≤ lo2)
  (hold : ∀ i, v.ownBlock = some i → i < lo2) (T : TypeId) (hown : w3.ownsRow lo 63 1 (.slice (some ⟨g, 0, none⟩) (vs.length + 1) cap) (vs.length + 1) (vs ++ [x]))
  (hgrow : (w.alloc (.cells #[x] T)).grownBy w3 v.ownBlock) (hat : v.ownBlock = some g ∨ g = w.heap.size + 1) :
  Acc lo w3 (.slice (some ⟨g, 0, none⟩) (vs ++ [x]).length cap) (vs ++ [x]) (kids ++ [t]) := by
 obtain ⟨h1, S, h2, h3, h4⟩ := h;have hz : (w.alloc (.cells #[x] T)).heap.size = w.heap.size + 1 := by simp
 have hz3 := hgrow.size;have hS : ∀ i, S i ∨ F lo2 w.heap.size i → w3.heap[i]? = w.heap[i]? := by
  intro i hi;have hlt : i < w.heap.size := by rcases hi with hi | hi; exact (h3 i hi).2; exact hi.2
  refine (hgrow.block i (by omega) ?_).trans (Below.heap_alloc w _ i hlt);intro e;rcases hi with hi | hi
  ·exact h4 i e.symm hi
  ·have := hold i e.symm; have := hi.1; omega
 refine ⟨by rw [List.length_append]; exact hown, fun i => S i ∨ F lo2 w.heap.size i, ?_, ?_, ?_⟩
 ·exact zD.append (h2.keep (fun _ h => .inl h) fun i hi => hS i (.inl hi)) (zD.cons (hx.keep (fun _ h => .inr h) fun i hi => hS i (.inr hi)) (zD.nil _ _))
 ·intro i hi;rcases hi with hi | hi
  ·exact ⟨(h3 i hi).1, by have := (h3 i hi).2; omega⟩
  ·exact ⟨Nat.le_trans hlo hi.1, by have := hi.2; omega⟩
 ·intro i hi hs;have e : g = i := by simpa [Value.ownBlock] using hi
  subst e;rcases hat with hat | hat
  ·rcases hs with hs | hs
   ·exact h4 g hat hs
   ·have := hold g hat; have := hs.1; omega
  ·rcases hs with hs | hs
   ·have := (h3 g hs).2; omega
   ·have := hs.2; omega
theorem Go1.old {c : Cx} {w w' w'' : World} {k : Nat} (h : Go1 c w w' k) (hb : Below w.heap.size w' w'') (hg : c.g < w.heap.size) (hl : c.b < w.heap.size) (h0 : c.w0.heap.size ≤ w.heap.size) : Go1 c w w'' k :=
 ⟨⟨(hb.block _ hl).trans h.1.rd, (hb.block _ hg).trans h.1.row, h.1.le, h.1.ok, h.1.base.trans (hb.mono h0)⟩, h.2.belowAt hb⟩
theorem xL : (Tryz.prog.info? 63).map (fun i => (i.zero, i.size, i.bytes)) = some (some (.pointer none), 1, 8) := by kernel_rfl
theorem xU {lo : Nat} {w w3 : World} {v x : Value} {n : Nat} {xs : List Value} {T : TypeId} (hown : w.ownsRow lo 63 1 v n xs) (hlo : lo ≤ w.heap.size) (hgrow : (w.alloc (.cells #[x] T)).grownBy w3 v.ownBlock) : Below lo w w3 :=
 ((ze lo w).alloc hlo _).grown hgrow (by simp; omega) (fun k hk => (hown.lt k hk).1)
theorem zhQ (c : Cx) (k : Nat) (stop : List UInt8) (hst : stop ≠ []) (it : NT) (f : Nat) (EG : ∀ args w, (callFunc f args).run Tryz.prog w = .ok (.enter f args) w) (IH : ∀ j, k ≤ j → Ok c it f #[c.p] j) :
  OkL c (.untl stop it) 134 #[c.p, .string (bs stop), .func (.func f) #[c.p] #[]] k := by
 intro w h;have hbl := h.lt;have hfew := h.ok.few;have hgl := h.ltg;have h0l := h.base.size;have G0 : Hid (Go1 c w w k) := ⟨h, Off.refl _ _⟩;have IHH := za IH;have hkl := h.le;clear h IH
 go_enter Tryz.func134, Tryz.ntmps134
 go_wp2_with fail;have HST := za hst
 go_loopg [7] (c.ts.length - k) (fun g l wr => ∃ (kj : Nat) (vs : List Value) (kids : List Tr), g = c.ts.length - kj ∧ k ≤ kj ∧ vs.length ≤ kj ∧ Hid (Go1 c w wr kj) ∧ Hid (Acc w.heap.size wr l vs kids) ∧ Hid (∀ p, D c.E (.untl stop it) (c.R kj) (.error p) → D c.E (.untl stop it) (c.R k) (.error p)) ∧ Hid (∀ l R', D c.E (.untl stop it) (c.R kj) (.ok (bag l, R')) → D c.E (.untl stop it) (c.R k) (.ok (bag (kids ++ l), R'))))
 case atStart => exact ⟨k, [], [], rfl, zd _, Nat.zero_le _, G0.out, Acc.nil _ _, fun p h => h, fun l R' h => h⟩
 case round =>
  obtain ⟨kj, vs, kids, rfl, hkj, hvs, GL, HA, DE, DL⟩ := hrel;obtain ⟨ao, cp, rfl⟩ := HA.out.slice;have hkl2 := GL.out.1.le;cases hq : isF c.E stop (c.R kj)
  ·have Q1 := za hq;go_wp2_with fail;refine (xV c kj (bs stop) _ GL.out.1 hq).mono ?_; rintro e w1 ⟨rfl, hB⟩;have G1 : Hid (Go1 c w w1 kj) := ⟨GL.out.1.below hB, GL.out.2.below hB⟩;have HA1 := za (HA.out.off (Off.of_below hB) hbl);clear hB hq;go_wp2_with fail;refine (IHH.out kj hkj _ G1.out.1).mono ?_; rintro e w2 ⟨r, hD, hr⟩;rcases r with p | ⟨t, R1⟩
   ·obtain ⟨rfl, hO⟩ := hr;have HO := za (G1.out.2.trans hO);have D1 := za hD;clear hD hO;unfold zu;go_wp2_with fail;exact zf rfl (zhk (DE.out p (D.mk1 D1.out fun m h0 => by simp only [zg, Q1.out, zc, if_false, bnd, h0])) rfl HO.out)
   ·obtain ⟨j2, vv, rfl, hj2, rfl, hG, hT⟩ := hr;obtain ⟨a2, rfl⟩ := hT.ptr;have G2 : Hid (Go1 c w w2 j2) := ⟨hG.1, G1.out.2.trans hG.2⟩;have HA2 := za (HA1.out.off hG.2 hbl);have HT := za hT;have hown := HA2.out.1;have D1 := za hD;have hold : Hid (∀ i, (Value.slice ao vs.length cp).ownBlock = some i → i < w1.heap.size) := fun i hi => (HA1.out.1.lt i hi).2
    have hwl : w.heap.size ≤ w2.heap.size := G2.out.2.size;have hj2l := G2.out.1.le;clear hD hG hT;obtain ⟨i0, hi, hz0, hz1', hz2⟩ := info_parts xL;go_wp2_with (at_builtin; refine wpList_append_lies _ rfl _ _ 98 rfl w.heap.size 63 i0 _ 1 8 Tryz.underlying98 hi hz0 hz1' hz2 rfl (by decide) _ _ _ rfl (hown.alloc _) ⟨w2.heap.size, 0, none⟩ 1 1 [.pointer (some ⟨a2, 0, none⟩)] rfl rfl ?c1 ?c2 (by decide) ?c3 ?c4 ?c5 (w2.heap.size + 1) (by simp) ?_)
    case c1 =>
     intro j u hj
     match j, hj with
     | 0, hj => simp at hj; subst hj; simp [Addr.add]
    case c2 => intro u hu; simp at hu; subst hu; rfl
    case c3 => unfold maxLen; omega
    case c4 => omega
    case c5 => simp; omega
    intro g cap w3 hown3 hgrow hat hlt3;have hbel := xU hown hwl hgrow;have G3 : Hid (Go1 c w w3 j2) := G2.out.old hbel hgl hbl h0l;have HA3 := za (HA2.out.push HT.out (Nat.le_trans G1.out.2.size (zd _)) hold.out _ hown3 hgrow hat);have D2 : Hid (∀ p, D c.E (.untl stop it) (c.R j2) (.error p) → D c.E (.untl stop it) (c.R k) (.error p)) := fun p h => DE.out p (D.mk2 D1.out h fun m h0 h1 => by simp only [zg, Q1.out, zc, if_false, bnd, h0, h1])
    have D3 : Hid (∀ l R', D c.E (.untl stop it) (c.R j2) (.ok (bag l, R')) → D c.E (.untl stop it) (c.R k) (.ok (bag (kids ++ [t] ++ l), R'))) := fun l R' h => by
     have := DL.out (t :: l) R' (D.mk2 D1.out h fun m h0 h1 => by simp only [zg, Q1.out, zc, if_false, bnd, h0, h1, ret, Tr.kids])
     rwa [List.append_assoc]
    clear hown3 hgrow hat hlt3 hbel hown hi hz0 hz1' hz2;go_wp2_with fail
    go_roundg (c.ts.length - j2)
    case measure => omega
    case rel => exact ⟨j2, vs ++ [.pointer (some ⟨a2, 0, none⟩)], kids ++ [t], rfl, by omega, by rw [List.length_append]; show vs.length + 1 ≤ j2; omega, G3.out, by have := HA3.out; rw [List.length_append] at this; exact this, D2.out, D3.out⟩
  ·have Q1 := za hq;go_wp2_with fail;refine (xB c kj (bs stop) HST.out _ GL.out.1 hq).mono ?_; rintro e w1 ⟨rfl, hG⟩;have G1 : Hid (Go1 c w w1 (kj + 1)) := ⟨hG.1, GL.out.2.trans hG.2⟩;have HA1 := za (HA.out.off hG.2 hbl);clear hG hq;go_wp2_with fail;go_ret;obtain ⟨ho, S, h2, h3, h4⟩ := HA1.out;exact ⟨.ok (bag kids, c.R (kj + 1)), by have := DL.out [] (c.R (kj + 1)) (D.mk0 fun m => by simp only [zg, Q1.out, if_true, ret, zq]); rwa [List.append_nil] at this, kj + 1, _, vs, S, rfl, by omega, rfl, G1.out, ho, h2, h3, h4⟩
theorem Acc.one {lo lo2 : Nat} {w : World} {x : Value} {t : Tr} (hx : IsT w (F lo2 w.heap.size) x t) (h2 : lo ≤ lo2) (hlo : lo ≤ w.heap.size) :
  Acc lo (w.alloc (.cells #[x] 63)) (.slice (some ⟨w.heap.size, 0, none⟩) 1 1) [x] [t] := by
 have hz : (w.alloc (.cells #[x] 63)).heap.size = w.heap.size + 1 := by simp
 refine ⟨⟨rfl, .inr ⟨w.heap.size, 1, #[x], rfl, hlo, ?_, zd _, by unfold maxLen; omega, rfl, rfl⟩⟩, F lo2 w.heap.size, zD.cons (hx.keep (fun _ h => h) fun i hi => Below.heap_alloc w _ i hi.2) (zD.nil _ _), fun i hi => ⟨Nat.le_trans h2 hi.1, by have := hi.2; omega⟩, fun g hg hs => ?_⟩
 ·show (w.heap.push _)[w.heap.size]? = _; simp
 ·have e : w.heap.size = g := by simpa [Value.ownBlock] using hg
  have := hs.2; omega
def ziq (c : Cx) (nt : NT) (k : Nat) (w : World) (e : Ending) (w' : World) : Prop :=
 ∃ r, D c.E nt (c.R k) r ∧ match r with
  | .error p => e = zu p ∧ Off c.b w w'
  | .ok (t, R1) => ∃ j v vs S, R1 = c.R j ∧ k < j ∧ e = .returned v ∧ Go1 c w w' j ∧ w'.ownsRow w.heap.size 63 1 v vs.length vs ∧ zD w' S vs t.kids ∧ (∀ i, S i → F w.heap.size w'.heap.size i) ∧ (∀ g, v.ownBlock = some g → ¬ S g) ∧ vs.length ≤ j
theorem uF {c : Cx} {nt : NT} {k : Nat} {w w' : World} {e : Ending} {p : Int} (h : D c.E nt (c.R k) (.error p)) (he : e = zu p) (ho : Off c.b w w') : ziq c nt k w e w' := ⟨_, h, he, ho⟩
def zah (c : Cx) (nt : NT) (f : Nat) (args : Array Value) (k : Nat) : Prop := ∀ w, In c w k → Calls Tryz.prog f args w (ziq c nt k w)
theorem zah.ok {c : Cx} {nt : NT} {f : Nat} {args : Array Value} {k : Nat} (h : zah c nt f args k) : OkL c nt f args k := fun w hi => (h w hi).mono (by
  rintro e w1 ⟨r, hD, hr⟩;rcases r with p | ⟨t, R1⟩
  · exact ⟨.error p, hD, hr⟩
  · obtain ⟨j, v, vs, S, h1, h2, h3, h4, h5, h6, h7, h8, _⟩ := hr;exact ⟨.ok (t, R1), hD, j, v, vs, S, h1, h2, h3, h4, h5, h6, h7, h8⟩)
theorem zlT (c : Cx) (k : Nat) (it : NT) (f : Nat) (EG : ∀ args w, (callFunc f args).run Tryz.prog w = .ok (.enter f args) w) (IH : ∀ j, k ≤ j → Ok c it f #[c.p] j) :
  zah c (.row it) 172 #[c.p, .func (.func f) #[c.p] #[]] k := by
 intro w h;have hbl := h.lt;have hfew := h.ok.few;have hgl := h.ltg;have h0l := h.base.size;have G0 : Hid (Go1 c w w k) := ⟨h, Off.refl _ _⟩;have IHH := za IH;have hkl := h.le;clear h IH
 go_enter Tryz.func172, Tryz.ntmps172
 go_wp2_with fail;refine (IHH.out k (zd _) _ G0.out.1).mono ?_; rintro e w1 ⟨r, hD, hr⟩;rcases r with p | ⟨t1, R1⟩
 ·obtain ⟨rfl, hO⟩ := hr;have HO := za (G0.out.2.trans hO);have D1 := za hD;clear hD hO;unfold zu;go_wp2_with fail;exact zf rfl (uF (show D c.E (.row it) (c.R k) (.error p) from D.mk1 D1.out fun m h0 => by simp only [zg, bnd, h0]) rfl HO.out)
 ·obtain ⟨j1, vv, rfl, hj1, rfl, hG, hT⟩ := hr;obtain ⟨a1, rfl⟩ := hT.ptr;have hwl1 : w.heap.size ≤ w1.heap.size := hG.2.size;have hB1 : Below w1.heap.size w1 (w1.alloc (.cells #[.pointer (some ⟨a1, 0, none⟩)] 63)) := (ze _ _).alloc (zd _) _;have G1 : Hid (Go1 c w (w1.alloc (.cells #[.pointer (some ⟨a1, 0, none⟩)] 63)) j1) := ⟨hG.1.below hB1, hG.2.below hB1⟩;have HA0 := za (Acc.one hT (zd _) hwl1);have D1 := za hD;have hj1l := hG.1.le;have DE0 : Hid (∀ p, D c.E (.rowMore it) (c.R j1) (.error p) → D c.E (.row it) (c.R k) (.error p)) := fun p h => D.mk2 D1.out h fun m h0 h1 => by simp only [zg, bnd, h0, h1]
  have DL0 : Hid (∀ l R', D c.E (.rowMore it) (c.R j1) (.ok (bag l, R')) → D c.E (.row it) (c.R k) (.ok (bag ([t1] ++ l), R'))) := fun l R' h => D.mk2 D1.out h fun m h0 h1 => by simp only [zg, bnd, h0, h1, ret, Tr.kids]; rfl
  clear hD hG hT hB1;go_wp2_with fail
  go_loopg [5] (c.ts.length - j1) (fun g l wr => ∃ (kj : Nat) (vs : List Value) (kids : List Tr), g = c.ts.length - kj ∧ k < kj ∧ vs.length ≤ kj ∧ Hid (Go1 c w wr kj) ∧ Hid (Acc w.heap.size wr l vs kids) ∧ Hid (∀ p, D c.E (.rowMore it) (c.R kj) (.error p) → D c.E (.row it) (c.R k) (.error p)) ∧ Hid (∀ l R', D c.E (.rowMore it) (c.R kj) (.ok (bag l, R')) → D c.E (.row it) (c.R k) (.ok (bag (kids ++ l), R'))))
  case atStart => exact ⟨j1, _, _, rfl, hj1, by show 1 ≤ j1; omega, G1.out, HA0.out, DE0.out, DL0.out⟩
  case round =>
   obtain ⟨kj, vs, kids, rfl, hkj, hvs, GL, HA, DE, DL⟩ := hrel;obtain ⟨ao, cp, rfl⟩ := HA.out.slice;have hkl2 := GL.out.1.le;cases hq : isF c.E [44] (c.R kj)
   ·have Q1 := za hq;go_wp2_with fail;refine (xV c kj ⟨#[44]⟩ _ GL.out.1 hq).mono ?_; rintro e w2 ⟨rfl, hB⟩;have G2 : Hid (Go1 c w w2 kj) := ⟨GL.out.1.below hB, GL.out.2.below hB⟩;have HA2 := za (HA.out.off (Off.of_below hB) hbl);clear hB hq;go_wp2_with fail;go_ret;obtain ⟨ho, S, h2, h3, h4⟩ := HA2.out;exact ⟨.ok (bag kids, c.R kj), by have := DL.out [] (c.R kj) (D.mk0 fun m => by simp only [zg, Q1.out, zc, if_false, ret]); rwa [List.append_nil] at this, kj, _, vs, S, rfl, hkj, rfl, G2.out, ho, h2, h3, h4, hvs⟩
   ·have Q1 := za hq;go_wp2_with fail;refine (xB c kj ⟨#[44]⟩ (by decide) _ GL.out.1 hq).mono ?_; rintro e w2 ⟨rfl, hG⟩;have G2 : Hid (Go1 c w w2 (kj + 1)) := ⟨hG.1, GL.out.2.trans hG.2⟩;have HA2 := za (HA.out.off hG.2 hbl);clear hG hq;go_wp2_with fail;refine (IHH.out (kj + 1) (by omega) _ G2.out.1).mono ?_; rintro e w3 ⟨r, hD, hr⟩;rcases r with p | ⟨t, R1⟩
    ·obtain ⟨rfl, hO⟩ := hr;have HO := za (G2.out.2.trans hO);have D2 := za hD;clear hD hO;unfold zu;go_wp2_with fail;exact zf rfl (uF (DE.out p (D.mk1 D2.out fun m h0 => by simp only [zg, Q1.out, if_true, zq, bnd, h0])) rfl HO.out)
    ·obtain ⟨j2, vv, rfl, hj2, rfl, hG, hT⟩ := hr;obtain ⟨a2, rfl⟩ := hT.ptr;have G3 : Hid (Go1 c w w3 j2) := ⟨hG.1, G2.out.2.trans hG.2⟩;have HA3 := za (HA2.out.off hG.2 hbl);have HT := za hT;have hown := HA3.out.1;have D2 := za hD;have hold : Hid (∀ i, (Value.slice ao vs.length cp).ownBlock = some i → i < w2.heap.size) := fun i hi => (HA2.out.1.lt i hi).2
     have hwl : w.heap.size ≤ w3.heap.size := G3.out.2.size;have hj2l := G3.out.1.le;clear hD hG hT;obtain ⟨i0, hi, hz0, hz1', hz2⟩ := info_parts xL;go_wp2_with (at_builtin; refine wpList_append_lies _ rfl _ _ 98 rfl w.heap.size 63 i0 _ 1 8 Tryz.underlying98 hi hz0 hz1' hz2 rfl (by decide) _ _ _ rfl (hown.alloc _) ⟨w3.heap.size, 0, none⟩ 1 1 [.pointer (some ⟨a2, 0, none⟩)] rfl rfl ?c1 ?c2 (by decide) ?c3 ?c4 ?c5 (w3.heap.size + 1) (by simp) ?_)
     case c1 =>
      intro j u hj
      match j, hj with
      | 0, hj => simp at hj; subst hj; simp [Addr.add]
     case c2 => intro u hu; simp at hu; subst hu; rfl
     case c3 => unfold maxLen; omega
     case c4 => omega
     case c5 => simp; omega
     intro g cap w4 hown4 hgrow hat hlt4;have hbel := xU hown hwl hgrow;have G4 : Hid (Go1 c w w4 j2) := G3.out.old hbel hgl hbl h0l;have HA4 := za (HA3.out.push HT.out (Nat.le_trans G2.out.2.size (zd _)) hold.out _ hown4 hgrow hat);have E2 : Hid (∀ p, D c.E (.rowMore it) (c.R j2) (.error p) → D c.E (.row it) (c.R k) (.error p)) := fun p h => DE.out p (D.mk2 D2.out h fun m h0 h1 => by simp only [zg, Q1.out, if_true, zq, bnd, h0, h1])
     have L2 : Hid (∀ l R', D c.E (.rowMore it) (c.R j2) (.ok (bag l, R')) → D c.E (.row it) (c.R k) (.ok (bag (kids ++ [t] ++ l), R'))) := fun l R' h => by
      have := DL.out (t :: l) R' (D.mk2 D2.out h fun m h0 h1 => by simp only [zg, Q1.out, if_true, zq, bnd, h0, h1, ret, Tr.kids])
      rwa [List.append_assoc]
     clear hown4 hgrow hat hlt4 hbel hown hi hz0 hz1' hz2;go_wp2_with fail
     go_roundg (c.ts.length - j2)
     case measure => omega
     case rel => exact ⟨j2, vs ++ [.pointer (some ⟨a2, 0, none⟩)], kids ++ [t], rfl, by omega, by rw [List.length_append]; show vs.length + 1 ≤ j2; omega, G4.out, by have := HA4.out; rw [List.length_append] at this; exact this, E2.out, L2.out⟩
theorem ziY (c : Cx) (k : Nat) (stop : List UInt8) (hst : stop ≠ []) (it : NT) (f : Nat) (IH : zah c (.row it) 172 #[c.p, .func (.func f) #[c.p] #[]] k) :
  zah c (.list stop it) 132 #[c.p, .string (bs stop), .func (.func f) #[c.p] #[]] k := by
 intro w h;have hbl := h.lt;have hfew := h.ok.few;have G0 : Hid (Go1 c w w k) := ⟨h, Off.refl _ _⟩;have IHH := za IH;have HST := za hst;have hkl := h.le;clear h IH
 go_enter Tryz.func132, Tryz.ntmps132
 go_wp2_with fail;cases hq : isF c.E stop (c.R k)
 ·have Q1 := za hq;refine (xV c k (bs stop) _ G0.out.1 hq).mono ?_; rintro e w1 ⟨rfl, hB⟩;have G1 : Hid (Go1 c w w1 k) := ⟨G0.out.1.below hB, G0.out.2.below hB⟩;have hz1 := za hB.size;clear hB hq;go_wp2_with fail;refine (IHH.out _ G1.out.1).mono ?_; rintro e w2 ⟨r, hD, hr⟩;rcases r with p | ⟨t, R1⟩
  ·obtain ⟨rfl, hO⟩ := hr;have HO := za (G1.out.2.trans hO);have D1 := za hD;clear hD hO;unfold zu;go_wp2_with fail;exact zf rfl (uF (show D c.E (.list stop it) (c.R k) (.error p) from D.mk1 D1.out fun m h0 => by simp only [zg, Q1.out, zc, if_false, bnd, h0]) rfl HO.out)
  ·obtain ⟨j, v, vs, S, rfl, hj, rfl, hG, hW, hK, hS, hN, hvs⟩ := hr;have G2 : Hid (Go1 c w w2 j) := ⟨hG.1, G1.out.2.trans hG.2⟩;have HA : Hid (Acc w.heap.size w2 v vs t.kids) := ⟨qP hW hz1.out, S, hK, fun i hi => F.mono hz1.out (zd _) i (hS i hi), hN⟩;have D1 := za hD;obtain ⟨ao, cp, rfl⟩ := yb hW;clear hD hG hW hK hS hN;go_wp2_with fail;cases hq : isF c.E stop (c.R j)
   ·have Q2 := za hq;refine (ym c j (bs stop) _ G2.out.1 hq).mono ?_; rintro e w3 ⟨rfl, hB⟩;have HO := za (G2.out.2.below hB);clear hB hq;unfold zu;go_wp2_with fail;exact zf rfl (uF (show D c.E (.list stop it) (c.R k) (.error (c.T j).pos) from D.mk1 D1.out fun m h0 => by simp only [zg, Q1.out, Q2.out, zc, if_false, bnd, h0, need, bad, zI]) rfl HO.out)
   ·have Q2 := za hq;refine (ye c j (bs stop) HST.out _ G2.out.1 hq).mono ?_; rintro e w3 ⟨rfl, hG⟩;have G3 : Hid (Go1 c w w3 (j + 1)) := ⟨hG.1, G2.out.2.trans hG.2⟩;have HA3 := za (HA.out.off hG.2 hbl);clear hG hq;go_wp2_with fail;go_ret;obtain ⟨ho, S, h2, h3, h4⟩ := HA3.out;have hvs2 : vs.length ≤ j + 1 := Nat.le_trans hvs (Nat.le_succ _);exact ⟨.ok (bag t.kids, c.R (j + 1)), D.mk1 D1.out fun m h0 => by simp only [zg, Q1.out, Q2.out, zc, if_false, if_true, bnd, h0, need, ret, zq], j + 1, _, vs, S, rfl, by omega, rfl, G3.out, ho, h2, h3, h4, hvs2⟩
 ·have Q1 := za hq;refine (xB c k (bs stop) HST.out _ G0.out.1 hq).mono ?_; rintro e w1 ⟨rfl, hG⟩;have G1 : Hid (Go1 c w w1 (k + 1)) := ⟨hG.1, G0.out.2.trans hG.2⟩;clear hG hq;go_wp2_with fail;go_ret;obtain ⟨ho, S, h2, h3, h4⟩ := Acc.nil w.heap.size w1;exact ⟨.ok (bag [], c.R (k + 1)), D.mk0 fun m => by simp only [zg, Q1.out, if_true, ret, zq], k + 1, _, [], S, rfl, by omega, rfl, G1.out, ho, h2, h3, h4, Nat.zero_le _⟩
theorem zlW {b : Nat} {w : World} {x : Value} (hb : b ≤ w.heap.size) : (w.alloc (.cells #[x] 63)).ownsRow b 63 1 (.slice (some ⟨w.heap.size, 0, none⟩) 1 1) 1 [x] := by
 refine ⟨rfl, .inr ⟨w.heap.size, 1, #[x], rfl, hb, ?_, zd _, by unfold maxLen; omega, rfl, rfl⟩⟩;show (w.heap.push _)[w.heap.size]? = _; simp
theorem Acc.join {lo lo2 : Nat} {w w3 : World} {v : Value} {vs us : List Value} {kids ks : List Tr} {S2 : Nat → Prop} {g cap : Nat} (h : Acc lo w v vs kids) (hx : zD w S2 us ks) (hS2 : ∀ i, S2 i → F lo2 w.heap.size i) (hlo : lo ≤ lo2)
  (hold : ∀ i, v.ownBlock = some i → i < lo2) (hown : w3.ownsRow lo 63 1 (.slice (some ⟨g, 0, none⟩) (vs.length + us.length) cap) (vs.length + us.length) (vs ++ us))
  (hgrow : w.grownBy w3 v.ownBlock) (hat : v.ownBlock = some g ∨ g = w.heap.size) :
  Acc lo w3 (.slice (some ⟨g, 0, none⟩) (vs ++ us).length cap) (vs ++ us) (kids ++ ks) := by
 obtain ⟨h1, S, h2, h3, h4⟩ := h;have hz3 := hgrow.size;have hS : ∀ i, S i ∨ S2 i → w3.heap[i]? = w.heap[i]? := by
  intro i hi;have hlt : i < w.heap.size := by rcases hi with hi | hi; exact (h3 i hi).2; exact (hS2 i hi).2
  refine hgrow.block i hlt ?_;intro e;rcases hi with hi | hi
  ·exact h4 i e.symm hi
  ·have := hold i e.symm; have := (hS2 i hi).1; omega
 refine ⟨by rw [List.length_append]; exact hown, fun i => S i ∨ S2 i, ?_, ?_, ?_⟩
 ·exact zD.append (h2.keep (fun _ h => .inl h) fun i hi => hS i (.inl hi)) (hx.keep (fun _ h => .inr h) fun i hi => hS i (.inr hi))
 ·intro i hi;rcases hi with hi | hi
  ·exact ⟨(h3 i hi).1, by have := (h3 i hi).2; omega⟩
  ·exact ⟨Nat.le_trans hlo (hS2 i hi).1, by have := (hS2 i hi).2; omega⟩
 ·intro i hi hs;have e : g = i := by simpa [Value.ownBlock] using hi
  subst e;rcases hat with hat | hat
  ·rcases hs with hs | hs
   ·exact h4 g hat hs
   ·have := hold g hat; have := (hS2 g hs).1; omega
  ·rcases hs with hs | hs
   ·have := (h3 g hs).2; omega
   ·have := (hS2 g hs).2; omega
theorem zgV (c : Cx) (k : Nat) (ihl : ∀ j, k < j → zah c (.list [41] .assign) 132 #[c.p, .string ⟨#[41]⟩, .func (.func 178) #[c.p] #[]] j) : zgq c .called 226 k := by
 intro w lo v0 t0 hlo hbl hT0 h;have hfew := h.ok.few;have hgl := h.ltg;have h0l := h.base.size;have G0 : Hid (Go1 c w w k) := ⟨h, Off.refl _ _⟩;have T0 := za hT0;have IHL := za ihl;have hkl := h.le;clear h hT0 ihl
 go_enter Tryz.func226, Tryz.ntmps226
 go_wp2_with fail;cases hq : isF c.E [40] (c.R k)
 ·refine (ym c k ⟨#[40]⟩ _ G0.out.1 hq).mono ?_; rintro e w1 ⟨rfl, hB⟩;have HO := za (G0.out.2.below hB);have Q1 := za hq;clear hB hq;unfold zu;go_wp2_with fail;exact zf rfl ⟨_, (show D c.E (.called t0) (c.R k) (.error (c.T k).pos) from D.mk0 fun m => by simp only [zg, Q1.out, need, zc, if_false, bad, zI]), rfl, HO.out⟩
 ·refine (ye c k ⟨#[40]⟩ (by decide) _ G0.out.1 hq).mono ?_; rintro e w1 ⟨rfl, hG⟩;have G1 : Hid (Go1 c w w1 (k + 1)) := ⟨hG.1, G0.out.2.trans hG.2⟩;have T1 := za (T0.out.off hG.2 hbl);have Q1 := za hq;clear hG hq;go_wp2_with fail;have hwl1 : w.heap.size ≤ w1.heap.size := G1.out.2.size;have hB1 : Below w1.heap.size w1 (w1.alloc (.cells #[.pointer (some ⟨v0, 0, none⟩)] 63)) := (ze _ _).alloc (zd _) _;have hz1 : (w1.alloc (.cells #[.pointer (some ⟨v0, 0, none⟩)] 63)).heap.size = w1.heap.size + 1 := by simp
  have G2 : Hid (Go1 c w (w1.alloc (.cells #[.pointer (some ⟨v0, 0, none⟩)] 63)) (k + 1)) := ⟨G1.out.1.below hB1, G1.out.2.below hB1⟩;have HA2 := za (Acc.one T1.out (zd _) (Nat.le_trans hlo hwl1));have HW2 : Hid ((w1.alloc (.cells #[.pointer (some ⟨v0, 0, none⟩)] 63)).ownsRow w.heap.size 63 1 (.slice (some ⟨w1.heap.size, 0, none⟩) 1 1) 1 [.pointer (some ⟨v0, 0, none⟩)]) := zlW hwl1;have hbw : c.b < w.heap.size := G0.out.1.lt;clear hB1;generalize w1.alloc (.cells #[.pointer (some ⟨v0, 0, none⟩)] 63) = w2 at *;refine (IHL.out (k + 1) (by omega) _ G2.out.1).mono ?_; rintro e w3 ⟨r, hD, hr⟩;rcases r with p | ⟨t, R1⟩
  ·obtain ⟨rfl, hO⟩ := hr;have HO := za (G2.out.2.trans hO);have D1 := za hD;clear hD hO;unfold zu;go_wp2_with fail;exact zf rfl ⟨_, (show D c.E (.called t0) (c.R k) (.error p) from D.mk1 D1.out fun m h0 => by simp only [zg, Q1.out, need, if_true, zq, bnd, h0]), rfl, HO.out⟩
  ·obtain ⟨j, v, vs, S, rfl, hj, rfl, hG, hW, hK, hS, hN, hvs⟩ := hr;have G3 : Hid (Go1 c w w3 j) := ⟨hG.1, G2.out.2.trans hG.2⟩;have HA3 := za (HA2.out.off hG.2 hbl);have HW3 := za (zbi HW2.out hG.2 hbw);have hz3 := hG.2.size;have D1 := za hD;have HK := za hK;have HS := za hS;have HDD : Hid (D c.E (.called t0) (c.R k) (.ok (bag (t0 :: t.kids), c.R j))) := D.mk1 D1.out fun m h0 => by simp only [zg, Q1.out, need, if_true, zq, bnd, h0, ret]
   have hjl := G3.out.1.le;obtain ⟨i0, hi, hz0, hz1', hz2⟩ := info_parts xL;by_cases hm : vs.length = 0
   ·have hv0 : vs = [] := List.eq_nil_of_length_eq_zero hm;subst hv0;have HKK : Hid (t.kids = []) := List.eq_nil_of_length_eq_zero (by have := hK.1; simpa using this.symm);have hsrc : ∃ ao cp, v = .slice ao 0 cp ∧ Src Tryz.prog 1 98 v 0 [] w3 := by
     rcases hW.2 with ⟨rfl, _⟩ | ⟨g, cp, cur, rfl, _⟩
     ·exact ⟨_, _, rfl, Src.ofNil _ Tryz.underlying98 _⟩
     ·exact ⟨_, _, rfl, Src.ofSlice _ Tryz.underlying98 _ _ _ [] rfl (fun j u h => by simp at h) (fun u h => by simp at h)⟩
    obtain ⟨ao, cp, rfl, hsrc⟩ := hsrc;clear hD hG hW hK hS hN;go_wp2_with (at_builtin; refine wpList_append_room1 w3 rfl _ _ 98 98 rfl 63 _ 8 Tryz.underlying98 xL w1.heap.size 0 1 1 rfl _ rfl 0 [] hsrc (by decide) (fun j h => by cases h) (fun j h => by cases h) ?_)
    rw [show World.setCells w3 w1.heap.size (0 + 1) [] = w3 from rfl];clear hi hz0 hz1' hz2 hsrc;go_wp2_with fail;go_ret;obtain ⟨ho, S, h2, h3, h4⟩ := HA3.out;exact ⟨_, HDD.out, j, _, [.pointer (some ⟨v0, 0, none⟩)], S, rfl, by omega, rfl, G3.out, ho, by rw [HKK.out]; exact h2, h3, h4⟩
   ·obtain ⟨g2, cp2, rfl, hg2, hg2'⟩ := hW.form (by omega);have hcells : ∀ j u, vs[j]? = some u → w3.cell? ((⟨g2, 0, none⟩ : Addr).add j) = some u := fun j u hu => by
     have hj := (List.getElem?_eq_some_iff.1 hu).1;rw [show (⟨g2, 0, none⟩ : Addr).add j = ⟨g2, j, none⟩ by unfold Addr.add; split <;> simp_all];exact (hW.cellAt j (by omega)).trans hu
    have hone : ∀ u ∈ vs, u.oneCell' = true := fun u hu => by
     obtain ⟨i, hi, rfl⟩ := List.mem_iff_getElem.1 hu;have h2 : i < t.kids.length := by rw [← hK.1]; exact hi
     obtain ⟨a, ha⟩ := (hK.2 i hi h2).ptr;rw [ha]; rfl
    have hold : Hid (∀ i, (Value.slice (some ⟨w1.heap.size, 0, none⟩) 1 1).ownBlock = some i → i < w2.heap.size) := fun i hi => (HW2.out.lt i hi).2
    have hown := HW3.out;clear hD hG hK hS hN;have hlo2 : lo ≤ w2.heap.size := by omega
    go_wp2_with (at_builtin; refine wpList_append_lies _ rfl _ _ 98 rfl w.heap.size 63 i0 _ 1 8 Tryz.underlying98 hi hz0 hz1' hz2 rfl (by decide) _ _ _ rfl hown ⟨g2, 0, none⟩ vs.length cp2 vs rfl (by rw [Nat.mul_one]) hcells hone ?c2 ?c3 ?c4 ?c5 w3.heap.size rfl ?_)
    case c2 => omega
    case c3 => unfold maxLen; omega
    case c4 => omega
    case c5 => omega
    intro g cap w4 hown4 hgrow hat hlt4;have hbel : Below w.heap.size w3 w4 := (ze _ _).grown hgrow (by omega) (fun k hk => (hown.lt k hk).1);have G4 : Hid (Go1 c w w4 j) := G3.out.old hbel hgl hbw h0l;have HA4 := za (HA3.out.join HK.out HS.out hlo2 hold.out (qP hown4 hlo) hgrow hat);clear hown4 hgrow hat hlt4 hbel hown hi hz0 hz1' hz2 hcells hone hW;go_wp2_with fail;go_ret;obtain ⟨ho, S, h2, h3, h4⟩ := HA4.out;have hl : ([Value.pointer (some ⟨v0, 0, none⟩)] ++ vs).length = 1 + vs.length := by rw [List.length_append]; rfl
    exact ⟨_, HDD.out, j, _, [Value.pointer (some ⟨v0, 0, none⟩)] ++ vs, S, rfl, by omega, rfl, G4.out, by have h5 := ho; rw [hl] at h5 ⊢; exact h5, h2, h3, by rw [hl] at h4; exact h4⟩
end Go.Proofs.YtfcgpphodacdmaaGreatDoor
