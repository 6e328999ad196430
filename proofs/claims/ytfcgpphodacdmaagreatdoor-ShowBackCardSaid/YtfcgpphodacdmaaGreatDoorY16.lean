/- Part of a proof: contracts of functions. -/
import Derived.Test.YtfcgpphodacdmaaGreatDoorY14
import Derived.Laws.OwnMore
import Derived.Deep.AppendLies
import Derived.Test.YtfcgpphodacdmaaGreatDoorY15
import Derived.Test.YtfcgpphodacdmaaGreatDoorY1
import Derived.Test.YtfcgpphodacdmaaGreatDoorY11
import Derived.Test.YtfcgpphodacdmaaGreatDoorY5
set_option maxRecDepth 100000
set_option maxHeartbeats 4000000
set_option linter.all false
namespace Go.Proofs.YtfcgpphodacdmaaGreatDoor
open Go.RowKit
def zb2 (w : World) (S : Nat → Prop) (v : Value) (vs : List Value) : Prop :=
 (vs = [] ∧ ∃ ao cap, v = .slice ao 0 cap) ∨ ∃ g cap, S g ∧ v = .slice (some ⟨g, 0, none⟩) vs.length cap ∧ ∀ (i : Nat) (h : i < vs.length), w.cell? ⟨g, i, none⟩ = some vs[i]
inductive IsT (w : World) (S : Nat → Prop) : Value → Tr → Prop
 | mk (a : Nat) (k : Int) (x : List UInt8) (b : Int) (v : Value) (vs : List Value) (kids : List Tr) : S a → w.heap[a]? = some (.cells #[.int .i64 k, .string (bs x), .int .u64 b, v] 100 (0, 0)) →
   zb2 w S v vs → vs.length = kids.length → (∀ (i : Nat) (h1 : i < vs.length) (h2 : i < kids.length), IsT w S vs[i] kids[i]) → IsT w S (.pointer (some ⟨a, 0, none⟩)) (.node k x b kids)
def zD (w : World) (S : Nat → Prop) (vs : List Value) (kids : List Tr) : Prop := vs.length = kids.length ∧ ∀ (i : Nat) (h1 : i < vs.length) (h2 : i < kids.length), IsT w S vs[i] kids[i]
def F (lo hi : Nat) (i : Nat) : Prop := lo ≤ i ∧ i < hi
theorem zb2.keep {w w' : World} {S S' : Nat → Prop} {v : Value} {vs : List Value} (h : zb2 w S v vs) (hS : ∀ i, S i → S' i) (hw : ∀ i, S i → w'.heap[i]? = w.heap[i]?) : zb2 w' S' v vs := by
 rcases h with h | ⟨g, cap, hg, hv, hc⟩
 ·exact .inl h
 ·exact .inr ⟨g, cap, hS g hg, hv, fun i hi => (World.cell?_of_block (a := ⟨g, i, none⟩) (hw g hg)).trans (hc i hi)⟩
theorem IsT.keep {w w' : World} {S S' : Nat → Prop} {v : Value} {t : Tr} (h : IsT w S v t) (hS : ∀ i, S i → S' i) (hw : ∀ i, S i → w'.heap[i]? = w.heap[i]?) : IsT w' S' v t := by
 induction h with
 | mk a k x b v vs kids ha hh hr hl _ ih => exact .mk a k x b v vs kids (hS a ha) ((hw a ha).trans hh) (hr.keep hS hw) hl ih
theorem zD.keep {w w' : World} {S S' : Nat → Prop} {vs : List Value} {ts : List Tr} (h : zD w S vs ts) (hS : ∀ i, S i → S' i) (hw : ∀ i, S i → w'.heap[i]? = w.heap[i]?) : zD w' S' vs ts :=
 ⟨h.1, fun i h1 h2 => (h.2 i h1 h2).keep hS hw⟩
theorem F.mono {lo lo' hi hi' : Nat} (h1 : lo' ≤ lo) (h2 : hi ≤ hi') : ∀ i, F lo hi i → F lo' hi' i := fun i h => ⟨Nat.le_trans h1 h.1, Nat.lt_of_lt_of_le h.2 h2⟩
theorem IsT.off {w w' : World} {b lo : Nat} {v : Value} {t : Tr} (h : IsT w (F lo w.heap.size) v t) (ho : Off b w w') (hb : b < lo) : IsT w' (F lo w'.heap.size) v t :=
 h.keep (F.mono (zd _) ho.size) fun i hi => ho.block i hi.2 (by have := hi.1; omega)
theorem IsT.stay {w w' : World} {lo : Nat} {v : Value} {t : Tr} (h : IsT w (F lo w.heap.size) v t) (hb : Below w.heap.size w w') : IsT w' (F lo w'.heap.size) v t :=
 h.keep (F.mono (zd _) hb.size) fun i hi => hb.block i hi.2
theorem IsT.lower {w : World} {lo lo' : Nat} {v : Value} {t : Tr} (h : IsT w (F lo w.heap.size) v t) (hl : lo' ≤ lo) : IsT w (F lo' w.heap.size) v t :=
 h.keep (F.mono hl (zd _)) fun _ _ => rfl
theorem zD.nil (w : World) (S : Nat → Prop) : zD w S [] [] := ⟨rfl, fun i h => by simp at h⟩
theorem zD.cons {w : World} {S : Nat → Prop} {v : Value} {t : Tr} {vs : List Value} {ts : List Tr} (h : IsT w S v t) (hs : zD w S vs ts) : zD w S (v :: vs) (t :: ts) :=
  ⟨by simp [hs.1], fun i h1 h2 => by
    cases i with
    | zero => exact h
    | succ i => exact hs.2 i (by simpa using h1) (by simpa using h2)⟩
theorem zD.append {w : World} {S : Nat → Prop} {vs us : List Value} {ts ks : List Tr} (h : zD w S vs ts) (g : zD w S us ks) : zD w S (vs ++ us) (ts ++ ks) := by
 induction vs generalizing ts with
 | nil =>
  have : ts = [] := List.eq_nil_of_length_eq_zero (by rw [← h.1]; rfl);subst this; exact g
 | cons v r ih =>
  match ts, h with
  | t :: q, h =>
   exact .cons (h.2 0 (by simp) (by simp)) (ih ⟨by simpa using h.1, fun i h1 h2 => h.2 (i + 1) (by simpa using h1) (by simpa using h2)⟩)
theorem vV {w' : World} {S : Nat → Prop} {a : Nat} {k b : Int} {x : List UInt8} {v : Value} {vs : List Value} {kids : List Tr} (ha : S a)
  (hh : w'.heap[a]? = some (.cells #[.int .i64 k, .string (bs x), .int .u64 b, v] 100 (0, 0))) (hr : zb2 w' S v vs) (hk : zD w' S vs kids) : IsT w' S (.pointer (some ⟨a, 0, none⟩)) (.node k x b kids) :=
 .mk a k x b v vs kids ha hh hr hk.1 hk.2
def zao (w : World) (k : Int) (x : ByteArray) (v : Value) (e : Ending) (w' : World) : Prop :=
 ∃ a, e = .returned (.pointer (some ⟨a, 0, none⟩)) ∧ w.heap.size ≤ a ∧ w'.heap[a]? = some (.cells #[.int .i64 k, .string x, .int .u64 0, v] 100 (0, 0)) ∧ Below w.heap.size w w'
theorem zy (k : Int) (x : ByteArray) (ao : Option Addr) (n cap : Nat) (w : World) :
  Calls Tryz.prog 59 #[.int .i64 k, .string x, .slice ao n cap] w (zao w k x (.slice ao n cap)) := by
 go_enter Tryz.func59, Tryz.ntmps59
 go_wp2_with fail;go_ret;exact ⟨_, rfl, zd _, heap_alloc_new w _, (ze _ _).alloc (zd _) _⟩
theorem zcu (w : World) (vs : List Value) (T : TypeId) (i : Nat) (h : i < vs.length) : (w.alloc (.cells vs.toArray T)).cell? ⟨w.heap.size, i, none⟩ = some vs[i] := by
 have := heap_alloc_new w (.cells vs.toArray T);unfold World.cell?;simp only [this];simp [h]
theorem zW {wN w5 : World} {lo : Nat} {vs : List Value} {kids : List Tr} {k : Int} {x : List UInt8} {e : Ending} (hk : zD wN (F lo wN.heap.size) vs kids) (hlo : lo ≤ wN.heap.size)
  (hm : zao (wN.alloc (.cells vs.toArray 63)) k (bs x) (.slice (some ⟨wN.heap.size, 0, none⟩) vs.length vs.length) e w5) :
  ∃ a, e = .returned (.pointer (some ⟨a, 0, none⟩)) ∧ IsT w5 (F lo w5.heap.size) (.pointer (some ⟨a, 0, none⟩)) (nd k x kids) ∧ Below wN.heap.size wN w5 := by
 obtain ⟨a, rfl, ha, hh, hB⟩ := hm;have h1 : Below wN.heap.size wN (wN.alloc (.cells vs.toArray 63)) := (ze _ _).alloc (zd _) _;have h2 := zY h1 hB h1.size;have hz : (wN.alloc (.cells vs.toArray 63)).heap.size = wN.heap.size + 1 := by simp
 have ha5 := xT hh;refine ⟨a, rfl, vV ⟨by omega, ha5⟩ hh ?_ (hk.keep (F.mono (zd _) h2.size) fun i hi => h2.block i hi.2), h2⟩;exact .inr ⟨wN.heap.size, vs.length, ⟨hlo, by have := hB.size; omega⟩, rfl, fun i hi => (hB.cell (p := ⟨wN.heap.size, i, none⟩) (by show wN.heap.size < _; omega)).trans (zcu wN vs _ i hi)⟩
theorem vF {wN w5 : World} {lo : Nat} {k : Int} {x : List UInt8} {e : Ending} (hlo : lo ≤ wN.heap.size) (hm : zao wN k (bs x) (.slice none 0 0) e w5) :
  ∃ a, e = .returned (.pointer (some ⟨a, 0, none⟩)) ∧ IsT w5 (F lo w5.heap.size) (.pointer (some ⟨a, 0, none⟩)) (nd k x []) ∧ Below wN.heap.size wN w5 := by
 obtain ⟨a, rfl, ha, hh, hB⟩ := hm;exact ⟨a, rfl, vV ⟨by omega, xT hh⟩ hh (.inl ⟨rfl, none, 0, rfl⟩) (zD.nil _ _), hB⟩
theorem vw {wN w5 : World} {lo : Nat} {v : Value} {S : Nat → Prop} {vs : List Value} {kids : List Tr} {k : Int} {x : List UInt8} {e : Ending} (hk : zD wN S vs kids) (hS : ∀ i, S i → F lo wN.heap.size i) (hlo : lo ≤ wN.heap.size)
  (ho : wN.ownsRow lo 63 1 v vs.length vs) (hm : zao wN k (bs x) v e w5) :
  ∃ a, e = .returned (.pointer (some ⟨a, 0, none⟩)) ∧ IsT w5 (F lo w5.heap.size) (.pointer (some ⟨a, 0, none⟩)) (nd k x kids) ∧ Below wN.heap.size wN w5 := by
 obtain ⟨a, rfl, ha, hh, hB⟩ := hm;refine ⟨a, rfl, vV ⟨by omega, xT hh⟩ hh ?_ (hk.keep (fun i hi => F.mono (zd _) hB.size i (hS i hi)) fun i hi => hB.block i (hS i hi).2), hB⟩;by_cases h0 : vs.length = 0
 ·obtain ⟨ao, cp, rfl⟩ := yb ho;have : vs = [] := List.eq_nil_of_length_eq_zero h0;subst this;exact .inl ⟨rfl, ao, cp, rfl⟩
 ·obtain ⟨g, cp, rfl, hg1, hg2⟩ := ho.form (by omega);refine .inr ⟨g, cp, ⟨hg1, by have := hB.size; omega⟩, rfl, fun i hi => ?_⟩;refine (hB.cell (p := ⟨g, i, none⟩) hg2).trans ((ho.cellAt i (by omega)).trans ?_);rw [List.getElem?_eq_getElem hi]
def ziT (c : Cx) (nt : NT) (k : Nat) (w : World) (e : Ending) (w' : World) : Prop :=
 ∃ r, D c.E nt (c.R k) r ∧ match r with
  | .error p => e = zu p ∧ Off c.b w w'
  | .ok (t, R1) => ∃ j v, R1 = c.R j ∧ k < j ∧ e = .returned v ∧ Go1 c w w' j ∧ IsT w' (F w.heap.size w'.heap.size) v t
theorem zo {c : Cx} {nt : NT} {k : Nat} {w w' : World} {e : Ending} {p : Int} (h : D c.E nt (c.R k) (.error p)) (he : e = zu p) (ho : Off c.b w w') : ziT c nt k w e w' := ⟨_, h, he, ho⟩
theorem zx {c : Cx} {nt : NT} {k j : Nat} {w w' : World} {e : Ending} {t : Tr} {v : Value} (h : D c.E nt (c.R k) (.ok (t, c.R j))) (hj : k < j) (he : e = .returned v) (hi : In c w' j) (ho : Off c.b w w') (ht : IsT w' (F w.heap.size w'.heap.size) v t) : ziT c nt k w e w' := ⟨_, h, j, v, rfl, hj, he, ⟨hi, ho⟩, ht⟩
def zkp (c : Cx) (nt : NT) (k : Nat) (w : World) (e : Ending) (w' : World) : Prop :=
 ∃ r, D c.E nt (c.R k) r ∧ match r with
  | .error p => e = zu p ∧ Off c.b w w'
  | .ok (t, R1) => ∃ j v vs S, R1 = c.R j ∧ k < j ∧ e = .returned v ∧ Go1 c w w' j ∧ w'.ownsRow w.heap.size 63 1 v vs.length vs ∧ zD w' S vs t.kids ∧ (∀ i, S i → F w.heap.size w'.heap.size i) ∧ (∀ g, v.ownBlock = some g → ¬ S g)
theorem zhk {c : Cx} {nt : NT} {k : Nat} {w w' : World} {e : Ending} {p : Int} (h : D c.E nt (c.R k) (.error p)) (he : e = zu p) (ho : Off c.b w w') : zkp c nt k w e w' := ⟨_, h, he, ho⟩
theorem xE (c : Cx) (k : Nat) (s : ByteArray) (w : World) (h : In c w k) {v : Bool} (hq : isF c.E s.data.toList (c.R k) = v) :
  Calls Tryz.prog 130 #[.pointer (some ⟨c.b, 0, none⟩), .string s] w fun e w' => e = .returned (.bool v) ∧ Below w.heap.size w w' := by
 rw [← hq]; exact zeq c k s w h
theorem xF (c : Cx) (k : Nat) (v : Value) (w : World) (h : In c w k) (hq : isF c.E [59] (c.R k) = true) :
  Calls Tryz.prog 139 #[.pointer (some ⟨c.b, 0, none⟩), v] w fun e w' => e = .returned v ∧ Go1 c w w' (k + 1) := by
 have T := za (ye c k ⟨#[59]⟩ (by decide) w h hq);clear h hq
 go_enter Tryz.func139, Tryz.ntmps139
 go_wp2_with fail;refine T.out.mono ?_; rintro e w1 ⟨rfl, hG⟩;go_wp2_with fail;go_ret;exact ⟨rfl, hG⟩
theorem qZ (c : Cx) (k : Nat) (v : Value) (w : World) (h : In c w k) (hq : isF c.E [59] (c.R k) = false) :
  Calls Tryz.prog 139 #[.pointer (some ⟨c.b, 0, none⟩), v] w fun e w' => e = zu (c.T k).pos ∧ Below w.heap.size w w' := by
 have T := za (ym c k ⟨#[59]⟩ w h hq);unfold zu at T ⊢;clear h hq
 go_enter Tryz.func139, Tryz.ntmps139
 go_wp2_with fail;refine T.out.mono ?_; rintro e w1 ⟨rfl, hG⟩;go_wp2_with fail;exact zf rfl ⟨rfl, hG⟩
theorem zap (w : World) (S : Nat → Prop) (v : Value) (t : Tr) (h : IsT w S v t) :
  Calls Tryz.prog 204 #[v] w fun e w' => e = .returned (.bool (yT t)) ∧ w = w' := by
 cases h with
 | mk a k x b u vs kids ha hh hr hl hk =>
  have c0 : w.cell? ⟨a, 0, none⟩ = some (.int .i64 k) := by simp [World.cell?, hh]
  have HB : Hid (yT (.node k x b kids) = (k == 27 || k == 32 || k == 33)) := rfl;have HK : k = 27 ∨ k = 32 ∨ k = 33 ∨ ((k == 27) = false ∧ (k == 32) = false ∧ (k == 33) = false) := by simp only [zb]; omega
  clear hh hr hl hk ha;rcases HK with rfl | rfl | rfl | ⟨k1, k2, k3⟩
  ·go_enter Tryz.func204, Tryz.ntmps204
   go_wp2_with fail;go_ret;exact ⟨rfl, rfl⟩
  ·go_enter Tryz.func204, Tryz.ntmps204
   go_wp2_with fail;go_ret;exact ⟨rfl, rfl⟩
  ·go_enter Tryz.func204, Tryz.ntmps204
   go_wp2_with fail;go_ret;exact ⟨rfl, rfl⟩
  ·have HE : Hid (yT (.node k x b kids) = false) := by show _ = _; rw [HB.out, k1, k2, k3]; rfl
   go_enter Tryz.func204, Tryz.ntmps204
   go_wp2_with fail;go_ret;exact ⟨by rw [HE.out]; rfl, rfl⟩
theorem vL (w : World) (lo : Nat) (v : Value) (t : Tr) (k : Tk) (h : IsT w (F lo w.heap.size) v t) (hq : yT t = true) :
  Calls Tryz.prog 193 #[v, tkW k] w fun e w' => e = .returned (.tuple #[]) ∧ Below w.heap.size w w' := by
 have HB := za ((ze w.heap.size w).alloc (zd _) (.cells #[.int .i64 k.kind, .int .i64 k.pos, .string (bs k.text), .int .u64 k.bits] 60));have T := za (zap _ _ v t (h.stay HB.out));rw [hq] at T;unfold tkW;clear hq h
 go_enter Tryz.func193, Tryz.ntmps193
 go_wp2_with fail;refine T.out.mono ?_; rintro e w' ⟨rfl, rfl⟩;go_wp2_with fail
 go_end0
 exact ⟨rfl, HB.out⟩
theorem um (w : World) (lo : Nat) (v : Value) (t : Tr) (k : Tk) (h : IsT w (F lo w.heap.size) v t) (hq : yT t = false) :
  Calls Tryz.prog 193 #[v, tkW k] w fun e w' => e = zu k.pos ∧ Below w.heap.size w w' := by
 have HB := za ((ze w.heap.size w).alloc (zd _) (.cells #[.int .i64 k.kind, .int .i64 k.pos, .string (bs k.text), .int .u64 k.bits] 60));have T := za (zap _ _ v t (h.stay HB.out));rw [hq] at T;unfold tkW;clear hq h
 go_enter Tryz.func193, Tryz.ntmps193
 go_wp2_with fail;refine T.out.mono ?_; rintro e w' ⟨rfl, rfl⟩;go_wp2_with fail;exact zf rfl ⟨rfl, HB.out⟩
theorem y5 (c : Cx) (k : Nat) (w : World) (h : In c w k) :
  Calls Tryz.prog 135 #[.pointer (some ⟨c.b, 0, none⟩)] w fun e w' => e = .returned (.agg #[.int .i64 (c.T k).kind, .int .i64 (c.T k).pos, .string (bs (c.T k).text), .int .u64 (c.T k).bits]) ∧ Below w.heap.size w w' := qO c k w h
theorem B4.stay {w w' : World} {g : Nat} {x0 x1 x2 x3 : Value} (h : B4 w g x0 x1 x2 x3) (hb : Below w.heap.size w w') : B4 w' g x0 x1 x2 x3 := (hb.block g h.lt).trans h
theorem zfe (c : Cx) (k : Nat) (w : World) (h : In c w k) (hq : ¬ ((c.T k).kind = 1 ∨ (c.T k).kind = 2)) :
  Calls Tryz.prog 229 #[.pointer (some ⟨c.b, 0, none⟩)] w fun e w' => e = zu (c.T k).pos ∧ Below w.heap.size w w' := by
 have T := za (qO c k w h);have G := za (fun w1 (hb : Below w.heap.size w w1) => qV c k w1 (h.below hb));unfold tkW at T;unfold zu at G ⊢;generalize c.T k = t at *;obtain ⟨tk, tp, tx, tb⟩ := t;have hk1 : (tk == 1) = false := by rw [zb]; intro e; exact hq (.inl e)
 have hk2 : (tk == 2) = false := by rw [zb]; intro e; exact hq (.inr e)
 clear h hq
 go_enter Tryz.func229, Tryz.ntmps229
 go_wp2_with fail;refine T.out.mono ?_; rintro e w1 ⟨rfl, hB1⟩;have HBA := za (hB1.alloc hB1.size (.cells #[.int .i64 tk, .int .i64 tp, .string (bs tx), .int .u64 tb] 60));clear hB1;go_wp2_with fail;refine (G.out _ HBA.out).mono ?_; rintro e w2 ⟨rfl, hB2⟩;go_wp2_with fail;exact zf rfl ⟨rfl, zY HBA.out hB2 HBA.out.size⟩
def zf9 (lo : Nat) (c : Cx) (nt : NT) (k : Nat) (w : World) (e : Ending) (w' : World) : Prop :=
 ∃ r, D c.E nt (c.R k) r ∧ match r with
  | .error p => e = zu p ∧ Off c.b w w'
  | .ok (t, R1) => ∃ j v, R1 = c.R j ∧ k < j ∧ e = .returned v ∧ Go1 c w w' j ∧ IsT w' (F lo w'.heap.size) v t
theorem je {lo : Nat} {c : Cx} {nt : NT} {k : Nat} {w w' : World} {e : Ending} {p : Int} (h : D c.E nt (c.R k) (.error p)) (he : e = zu p) (ho : Off c.b w w') : zf9 lo c nt k w e w' := ⟨_, h, he, ho⟩
theorem zdh {lo : Nat} {c : Cx} {nt : NT} {k j : Nat} {w w' : World} {e : Ending} {t : Tr} {v : Value} (h : D c.E nt (c.R k) (.ok (t, c.R j))) (hj : k < j) (he : e = .returned v) (hi : In c w' j) (ho : Off c.b w w') (ht : IsT w' (F lo w'.heap.size) v t) : zf9 lo c nt k w e w' := ⟨_, h, j, v, rfl, hj, he, ⟨hi, ho⟩, ht⟩
def zmz (lo : Nat) (c : Cx) (nt : NT) (k : Nat) (w : World) (e : Ending) (w' : World) : Prop :=
 ∃ r, D c.E nt (c.R k) r ∧ match r with
  | .error p => e = zu p ∧ Off c.b w w'
  | .ok (t, R1) => ∃ j v vs S, R1 = c.R j ∧ k < j ∧ e = .returned v ∧ Go1 c w w' j ∧ w'.ownsRow lo 63 1 v vs.length vs ∧ zD w' S vs t.kids ∧ (∀ i, S i → F lo w'.heap.size i) ∧ (∀ g, v.ownBlock = some g → ¬ S g)
end Go.Proofs.YtfcgpphodacdmaaGreatDoor
namespace Go.Proofs.YtfcgpphodacdmaaGreatDoor
theorem zle {R J : List UInt8} {t : Tk} {n : Nat} (h : yh R = some (t, n)) (hn : t.kind ≠ 4 → t.kind ≠ 5 → nmL (R ++ J) = nmL R) (hs : t.kind = 5 → yl (R ++ J) 4 = yl R 4) : yh (R ++ J) = some (t, n) := by
 match R with
 | [] => cases h
 | c :: r =>
  have ht := ur J (uP (c :: r));have hst := ur J (zaM (c :: r) 4).2;rw [List.cons_append] at hn ht hs hst ⊢;unfold yh at h ⊢;simp only at h ⊢;split at h
  ·rename_i hc
   rw [if_pos hc];cases hx : y7 ((c :: r).take (nmL (c :: r))) with
   | none => rw [hx] at h; cases h
   | some x =>
    rw [hx] at h;have hk : t.kind = 3 := by injection h with h; injection h with h _; rw [← h]
    rw [hn (by omega) (by omega), ht, hx]; exact h
  ·rename_i hc
   rw [if_neg hc];split at h
   ·rename_i hc2
    rw [if_pos hc2];have hk : t.kind ≠ 4 ∧ t.kind ≠ 5 := by
     injection h with h; injection h with h _; rw [← h];show (if _ then (2 : Int) else 1) ≠ 4 ∧ (if _ then (2 : Int) else 1) ≠ 5
     split <;> decide
    rw [hn hk.1 hk.2, ht]; exact h
   ·rename_i hc2
    rw [if_neg hc2];split at h
    ·rename_i hc3
     rw [if_pos hc3];cases hx : txt c r with
     | none => rw [hx] at h; cases h
     | some x =>
      obtain ⟨o, m⟩ := x;rw [zbo J _ (zd _) hx];rw [hx] at h; exact h
    ·rename_i hc3
     rw [if_neg hc3];split at h
     ·cases h
     ·rename_i hc4
      have hk : t.kind = 5 := by injection h with h; injection h with h _; rw [← h]
      rw [hs hk, hst, if_neg hc4]; exact h
def mxS (P : List UInt8) : Bool := qN.all fun s => !(s.take P.length == P) || s == P
theorem zdE {P : List UInt8} (hP : P ∈ qN) (hm : mxS P = true) (J : List UInt8) : ∀ n, P.length ≤ n → yl (P ++ J) n = P.length
 | 0, h => by
  have : P = [] := List.eq_nil_of_length_eq_zero (by omega);exact absurd this (zcI P hP).1
 | n + 1, h => by
  rw [yl];rcases Nat.lt_or_ge P.length (n + 1) with h1 | h1
  ·rw [if_neg, zdE hP hm J n (by omega)];rintro ⟨h2, h3⟩;have hmem : (P ++ J).take (n + 1) ∈ qN := by unfold xm at h3; simpa using h3
   have h4 := List.all_eq_true.1 hm _ hmem;have h5 : ((P ++ J).take (n + 1)).take P.length = P := by rw [List.take_take, Nat.min_eq_left (by omega), List.take_left]
   rw [h5] at h4;have h6 : (P ++ J).take (n + 1) = P := by simpa using h4
   have h7 := congrArg List.length h6;rw [List.length_take] at h7; omega
  ·have e : n + 1 = P.length := by omega
   rw [e, List.take_left, if_pos];exact ⟨by rw [List.length_append]; omega, by unfold xm; simpa using hP⟩
theorem zdF : ∀ P ∈ qN, P.length ≤ 4 := by decide
def zgu (t : Tk) (J : List UInt8) : Prop := J = [] ∨ ∃ b B, J = b :: B ∧ (b = 32 ∨ b = 10 ∨ t.kind = 4 ∨ (t.kind ≠ 5 ∧ npB (ci b) = false) ∨ (t.kind = 5 ∧ mxS t.text = true))
theorem zjr {t : Tk} (h : Gd t) {J : List UInt8} (hs : zgu t J) : yh (ya t ++ J) = some ({ t with pos := 0 }, (ya t).length) := by
 rcases hs with rfl | ⟨b, B, rfl, hb⟩
 ·rw [List.append_nil]; exact zaz h
 ·by_cases hbl : b = 32 ∨ b = 10
  ·exact zjN B hbl (zaz h)
  ·refine zle (zaz h) (fun h4 h5 => ?_) fun h5 => ?_
   ·have h4 : t.kind ≠ 4 := h4;have h5 : t.kind ≠ 5 := h5;have : npB (ci b) = false := by
     rcases hb with hb | hb | hb | hb | hb
     ·exact absurd (.inl hb) hbl
     ·exact absurd (.inr hb) hbl
     ·exact absurd hb h4
     ·exact hb.2
     ·exact absurd hb.1 h5
    exact zfD _ B this
   ·have h5 : t.kind = 5 := h5;have hm : mxS t.text = true := by
     rcases hb with hb | hb | hb | hb | hb
     ·exact absurd (.inl hb) hbl
     ·exact absurd (.inr hb) hbl
     ·omega
     ·exact absurd h5 hb.1
     ·exact hb.2
    have hP : t.text ∈ qN := by
     rcases h with ⟨h1, _⟩ | ⟨h1, _⟩ | ⟨h1, _⟩ | ⟨h1, _⟩ | ⟨_, h2, _⟩
     ·omega
     ·omega
     ·omega
     ·omega
     ·unfold xm at h2; simpa using h2
    have e : ya t = t.text := by unfold ya; rw [if_pos (by omega)]
    rw [e, zdE hP hm _ 4 (zdF _ hP)];have := zdE hP hm [] 4 (zdF _ hP);rw [List.append_nil] at this;exact this.symm
theorem zjs : mxS [47] = false := by decide
theorem jU {t : Tk} (h : Gd t) {J : List UInt8} (hs : zgu t J) : ya t ≠ [] ∧ gap (ya t ++ J) = (0, true) := by
 obtain ⟨k, p, x, b⟩ := t;have soft : ∀ L : List UInt8, L ≠ [] → (∀ c, L.head? = some c → npB (ci c) = true ∨ c = 34) → L ≠ [] ∧ gap (L ++ J) = (0, true) := by
  intro L h0 hh
  match L, h0 with
  | c :: r, _ =>
   obtain ⟨e1, e2⟩ := zgD (hh c rfl);refine ⟨by simp, zbp (by simp) (fun d hd => by simp at hd; rw [← hd]; exact e1) ?_ ?_⟩
   ·intro e;have e3 : ((c :: r) ++ J).head? = some 47 := by
     have : (((c :: r) ++ J).take 2).head? = some 47 := by rw [e]; rfl
     simpa using this
    simp at e3; exact e2 e3
   ·intro e;have e3 : ((c :: r) ++ J).head? = some 47 := by
     have : (((c :: r) ++ J).take 2).head? = some 47 := by rw [e]; rfl
     simpa using this
    simp at e3; exact e2 e3
 rcases h with ⟨h1, h2, h3⟩ | ⟨h1, h2, h3⟩ | ⟨h1, h2, u, hu, h3⟩ | ⟨h1, h2, h3⟩ | ⟨h1, h2, h3⟩ <;> (simp only at h1 h2 h3; subst h1)
 ·obtain ⟨a1, a2, a3⟩ := uC h2;exact soft x a1 fun c hc => .inl (uJ (L := x) (by unfold xI at a2; split at a2; rfl; split at a2; exact a2; simp at a2) c (List.mem_of_mem_head? hc))
 ·obtain ⟨a2, a1⟩ := jw x (by unfold zV at h2; simpa using h2);exact soft x a1 fun c hc => .inl (uJ (L := x) (by unfold xI at a2; split at a2; rfl; split at a2; exact a2; simp at a2) c (List.mem_of_mem_head? hc))
 ·subst h2; subst h3;have e : ya ⟨3, p, [], ofI u⟩ = Lib.decDigits u := jo hu;rw [e];exact soft _ (Bt.dec_ne u) fun c hc => .inl (zd6 (zay u c (List.mem_of_mem_head? hc)))
 ·have e : ya ⟨4, p, x, b⟩ = yf x := rfl;rw [e];exact soft _ (by unfold yf; simp) fun c hc => .inr (by unfold yf at hc; simp at hc; exact hc.symm)
 ·have e : ya ⟨5, p, x, b⟩ = x := rfl;rw [e];obtain ⟨g0, g1, g2, g3, g4, g5, g6⟩ := zcI x (by unfold xm at h2; simpa using h2);refine ⟨g0, ?_⟩
  match x, g0, g1, g2, g3, g4, g5, g6, hs with
  | [c], _, g1, g2, g3, g4, _, _, hs =>
   have two : ∀ d, (d = 47 ∨ d = 42) → ([c] ++ J).take 2 ≠ [47, d] := by
    intro d hd e;rcases hs with rfl | ⟨b, B, rfl, hb⟩
    ·simp at e
    ·simp only [List.singleton_append, List.take_succ_cons, List.take_zero, List.cons.injEq, and_true] at e;obtain ⟨rfl, rfl⟩ := e;rcases hb with rfl | rfl | hb | hb | hb
     ·rcases hd with hd | hd <;> exact absurd hd (by decide)
     ·rcases hd with hd | hd <;> exact absurd hd (by decide)
     ·exact absurd hb (by show ¬ (5 : Int) = 4; decide)
     ·exact absurd rfl hb.1
     ·have := hb.2; rw [show mxS [47] = false from zjs] at this; cases this
   refine zbp (by simp) (fun e he => ?_) (two 47 (.inl rfl)) (two 42 (.inr rfl));simp at he; subst he;unfold qa; simp only [Bool.or_eq_false_iff, zb];simp at g1 g2 g3 g4;exact ⟨⟨⟨g1, g2⟩, g3⟩, g4⟩
  | c :: c2 :: r, _, g1, g2, g3, g4, g5, g6, _ =>
   refine zbp (by simp) (fun e he => ?_) (by simpa using g5) (by simpa using g6);simp at he; subst he;unfold qa; simp only [Bool.or_eq_false_iff, zb];simp at g1 g2 g3 g4;exact ⟨⟨⟨g1, g2⟩, g3⟩, g4⟩
def zdG : List (Tk × List UInt8) → Prop
 | [] => True
 | x :: r => Gd x.1 ∧ (Gp x.2 ∨ (x.2 = [] ∧ zgu x.1 (yd r))) ∧ zdG r
theorem zcc {x : Tk × List UInt8} {r : List (Tk × List UInt8)} (h : zdG (x :: r)) : zgu x.1 (x.2 ++ yd r) := by
 rcases h.2.1 with hg | ⟨he, hs⟩
 ·obtain ⟨b, q, e, hb⟩ := hg.1;exact .inr ⟨b, q ++ yd r, by rw [e]; rfl, hb.elim .inl fun h => .inr (.inl h)⟩
 ·rw [he]; exact hs
theorem zfs : ∀ (l : List (Tk × List UInt8)), zdG l → gap (yd l) = (0, true)
 | [], _ => by show gap [] = _; rw [gap]
 | x :: r, h => by rw [uD]; exact (jU h.1 (zcc h)).2
theorem zlf {J : List UInt8} (h : gap J = (0, true)) : gap ([] ++ J) = (([] : List UInt8).length, true) := h
theorem zdH : ∀ (l : List (Tk × List UInt8)) (a op : Int), zdG l → vQ (l.map (·.1)) op → xe (yd l) a op = .ok (jp l a)
 | [], a, op, _, _ => by show xe [] a op = _; rw [xe]; rfl
 | x :: r, a, op, h, hd => by
  obtain ⟨d1, d2⟩ := hd;have ih := zdH r (a + (ya x.1).length + x.2.length) (opA x.1 op) h.2.2 d2;have hg := zfs r h.2.2;have htk := zjr h.1 (zcc h);have hgp : gap (x.2 ++ yd r) = (x.2.length, true) := by
   rcases h.2.1 with h1 | ⟨h1, _⟩
   ·exact h1.2.2 (yd r) hg
   ·rw [h1]; exact zlf hg
  have hne := (jU h.1 (zcc h)).1;rw [uD];generalize hP : ya x.1 = P at *
  match P, hne with
  | c :: p, _ =>
   rw [List.cons_append] at htk ⊢;rw [q8, htk];simp only;rw [(zfE 0 op).1, d1, (zfE 0 op).2];have e1 : (p ++ (x.2 ++ yd r)).drop ((c :: p).length - 1) = x.2 ++ yd r := by simp
   simp only [e1];unfold xq;rw [hgp];simp only;have e2 : (x.2 ++ yd r).drop x.2.length = yd r := by simp
   rw [e2, ih, jp];unfold vN;simp [hP]
def jf : List (List UInt8) := [[124], [94], [38], [61, 61, 61], [33, 61, 61], [60], [62], [60, 61], [62, 61], [105, 110, 115, 116, 97, 110, 99, 101, 111, 102], [105, 110], [60, 60], [62, 62], [62, 62, 62], [43], [45], [42], [47], [37]]
def jg : List (List UInt8) := [[124, 124], [38, 38]]
def zmB (k : Int) : List (List UInt8) := if k = 36 then yg else if k = 37 then yG else if k = 38 then jf else if k = 39 then jg else if k = 41 then xy else []
def yB (k : Int) (x : List UInt8) : Bool :=
 if k = 31 ∧ x = [] then true
 else if k = 31 ∨ k = 4 ∨ k = 16 ∨ k = 18 ∨ k = 19 ∨ k = 27 then yC x
 else if k = 32 then yC x || zV x
 else if k = 22 ∨ k = 30 then (chk x 0).isNone
 else if k = 36 ∨ k = 37 ∨ k = 38 ∨ k = 39 ∨ k = 41 then (zmB k).contains x
 else x.isEmpty
def ue (k b : Int) : Bool :=
 if k = 21 then Bt.wholeB b && (decide (0 ≤ Bt.wholeV b) && b == ofI (Bt.wholeV b))
 else if k = 37 then decide (b ≤ 1)
 else b == 0
end Go.Proofs.YtfcgpphodacdmaaGreatDoor
namespace Go.Proofs.YtfcgpphodacdmaaGreatDoor
open Go.RowKit
def Ok (c : Cx) (nt : NT) (f : Nat) (args : Array Value) (k : Nat) : Prop := ∀ w, In c w k → Calls Tryz.prog f args w (ziT c nt k w)
def OkL (c : Cx) (nt : NT) (f : Nat) (args : Array Value) (k : Nat) : Prop := ∀ w, In c w k → Calls Tryz.prog f args w (zkp c nt k w)
def OkX (c : Cx) (ntf : Tr → NT) (f : Nat) (k : Nat) : Prop := ∀ (w : World) (lo v : Nat) (t : Tr), lo ≤ w.heap.size → c.b < lo → IsT w (F lo w.heap.size) (.pointer (some ⟨v, 0, none⟩)) t → In c w k → Calls Tryz.prog f #[.pointer (some ⟨c.b, 0, none⟩), .pointer (some ⟨v, 0, none⟩)] w (zf9 lo c (ntf t) k w)
def zgq (c : Cx) (ntf : Tr → NT) (f : Nat) (k : Nat) : Prop := ∀ (w : World) (lo v : Nat) (t : Tr), lo ≤ w.heap.size → c.b < lo → IsT w (F lo w.heap.size) (.pointer (some ⟨v, 0, none⟩)) t → In c w k → Calls Tryz.prog f #[.pointer (some ⟨c.b, 0, none⟩), .pointer (some ⟨v, 0, none⟩)] w (zmz lo c (ntf t) k w)
theorem IsT.ptr {w : World} {S : Nat → Prop} {v : Value} {t : Tr} (h : IsT w S v t) : ∃ a, v = .pointer (some ⟨a, 0, none⟩) := by cases h; exact ⟨_, rfl⟩
abbrev Cx.p (c : Cx) : Value := .pointer (some ⟨c.b, 0, none⟩)
theorem zcU (c : Cx) (k : Nat) (ihe : ∀ j, k < j → Ok c .expr 149 #[c.p] j) : Ok c .bracketed 174 #[c.p] k := by
 intro w h;have hbl := h.lt;have hfew := h.ok.few;have G0 : Hid (Go1 c w w k) := ⟨h, Off.refl _ _⟩;have IHE := za ihe;clear h ihe
 go_enter Tryz.func174, Tryz.ntmps174
 go_wp2_with fail;cases hq : isF c.E [40] (c.R k)
 ·refine (ym c k ⟨#[40]⟩ _ G0.out.1 hq).mono ?_; rintro e w1 ⟨rfl, hB⟩;have HO := za (G0.out.2.below hB);have Q1 := za hq;clear hB hq;unfold zu;go_wp2_with fail;exact zf rfl (zo (show D c.E .bracketed (c.R k) (.error (c.T k).pos) from D.mk0 fun m => by simp only [zg, need, zc, if_false, bad, zI, Q1.out]) rfl HO.out)
 ·refine (ye c k ⟨#[40]⟩ (by decide) _ G0.out.1 hq).mono ?_; rintro e w1 ⟨rfl, hG⟩;have G2 : Hid (Go1 c w w1 (k + 1)) := ⟨hG.1, G0.out.2.trans hG.2⟩;have Q1 := za hq;clear hG hq;go_wp2_with fail;refine (IHE.out (k + 1) (by omega) _ G2.out.1).mono ?_; rintro e w3 ⟨r, hD, hr⟩;rcases r with p | ⟨t3, R1⟩
  ·obtain ⟨rfl, hO⟩ := hr;have HO := za (G2.out.2.trans hO);have D3 := za hD;clear hD hO;unfold zu;go_wp2_with fail;exact zf rfl (zo (show D c.E .bracketed (c.R k) (.error p) from D.mk1 D3.out fun m h0 => by simp only [zg, need, if_true, zq, bnd, Q1.out, h0]) rfl HO.out)
  ·obtain ⟨j3, vv, rfl, hj3, rfl, hG, hT⟩ := hr;obtain ⟨v3, rfl⟩ := hT.ptr;have G4 : Hid (Go1 c w w3 j3) := ⟨hG.1, G2.out.2.trans hG.2⟩;have T3 := za (hT.lower G2.out.2.size);have D3 := za hD;clear hD hG hT;go_wp2_with fail;cases hq : isF c.E [41] (c.R j3)
   ·refine (ym c j3 ⟨#[41]⟩ _ G4.out.1 hq).mono ?_; rintro e w5 ⟨rfl, hB⟩;have HO := za (G4.out.2.below hB);have Q5 := za hq;clear hB hq;unfold zu;go_wp2_with fail;exact zf rfl (zo (show D c.E .bracketed (c.R k) (.error (c.T j3).pos) from D.mk1 D3.out fun m h0 => by simp only [zg, need, if_true, zq, bnd, zc, if_false, bad, zI, Q1.out, Q5.out, h0]) rfl HO.out)
   ·refine (ye c j3 ⟨#[41]⟩ (by decide) _ G4.out.1 hq).mono ?_; rintro e w5 ⟨rfl, hG⟩;have G6 : Hid (Go1 c w w5 (j3 + 1)) := ⟨hG.1, G4.out.2.trans hG.2⟩;have T7 := za (T3.out.off hG.2 hbl);have Q5 := za hq;clear hG hq;go_wp2_with fail;go_ret;exact zx (show D c.E .bracketed (c.R k) (.ok (t3, c.R (j3 + 1))) from D.mk1 D3.out fun m h0 => by simp only [zg, need, if_true, zq, bnd, ret, Q1.out, Q5.out, h0]) (by omega) rfl G6.out.1 G6.out.2 T7.out
theorem zeY (c : Cx) (k : Nat) (ihb : ∀ j, k < j → Ok c .bracketed 174 #[c.p] j) (ihs : ∀ j, k < j → Ok c .statement 95 #[c.p] j) : Ok c .whileDo 142 #[c.p] k := by
 intro w h;have hbl := h.lt;have hfew := h.ok.few;have G0 : Hid (Go1 c w w k) := ⟨h, Off.refl _ _⟩;have IHB := za ihb;have IHS := za ihs;clear h ihb ihs
 go_enter Tryz.func142, Tryz.ntmps142
 go_wp2_with fail;cases hq : isF c.E [119, 104, 105, 108, 101] (c.R k)
 ·refine (ym c k ⟨#[119, 104, 105, 108, 101]⟩ _ G0.out.1 hq).mono ?_; rintro e w1 ⟨rfl, hB⟩;have HO := za (G0.out.2.below hB);have Q1 := za hq;clear hB hq;unfold zu;go_wp2_with fail;exact zf rfl (zo (show D c.E .whileDo (c.R k) (.error (c.T k).pos) from D.mk0 fun m => by simp only [zg, need, zc, if_false, bad, zI, Q1.out]) rfl HO.out)
 ·refine (ye c k ⟨#[119, 104, 105, 108, 101]⟩ (by decide) _ G0.out.1 hq).mono ?_; rintro e w1 ⟨rfl, hG⟩;have G2 : Hid (Go1 c w w1 (k + 1)) := ⟨hG.1, G0.out.2.trans hG.2⟩;have Q1 := za hq;clear hG hq;go_wp2_with fail;refine (IHB.out (k + 1) (by omega) _ G2.out.1).mono ?_; rintro e w3 ⟨r, hD, hr⟩;rcases r with p | ⟨t3, R1⟩
  ·obtain ⟨rfl, hO⟩ := hr;have HO := za (G2.out.2.trans hO);have D3 := za hD;clear hD hO;unfold zu;go_wp2_with fail;exact zf rfl (zo (show D c.E .whileDo (c.R k) (.error p) from D.mk1 D3.out fun m h0 => by simp only [zg, need, if_true, zq, bnd, Q1.out, h0]) rfl HO.out)
  ·obtain ⟨j3, vv, rfl, hj3, rfl, hG, hT⟩ := hr;obtain ⟨v3, rfl⟩ := hT.ptr;have G4 : Hid (Go1 c w w3 j3) := ⟨hG.1, G2.out.2.trans hG.2⟩;have T3 := za (hT.lower G2.out.2.size);have D3 := za hD;clear hD hG hT;go_wp2_with fail;refine (IHS.out j3 (by omega) _ G4.out.1).mono ?_; rintro e w5 ⟨r, hD, hr⟩;rcases r with p | ⟨t5, R1⟩
   ·obtain ⟨rfl, hO⟩ := hr;have HO := za (G4.out.2.trans hO);have D5 := za hD;clear hD hO;unfold zu;go_wp2_with fail;exact zf rfl (zo (show D c.E .whileDo (c.R k) (.error p) from D.mk2 D3.out D5.out fun m h0 h1 => by simp only [zg, need, if_true, zq, bnd, Q1.out, h0, h1]) rfl HO.out)
   ·obtain ⟨j5, vv, rfl, hj5, rfl, hG, hT⟩ := hr;obtain ⟨v5, rfl⟩ := hT.ptr;have G6 : Hid (Go1 c w w5 j5) := ⟨hG.1, G4.out.2.trans hG.2⟩;have T7 := za (T3.out.off hG.2 hbl);have T5 := za (hT.lower G4.out.2.size);have D5 := za hD;clear hD hG hT;go_wp2_with fail;refine (zy _ _ _ _ _ _).mono ?_; rintro e w8 hm;obtain ⟨a8, rfl, hT, hB⟩ := zW (k := 8) (x := []) (vs := [(.pointer (some ⟨v3, 0, none⟩)), (.pointer (some ⟨v5, 0, none⟩))]) (kids := [t3, t5]) (zD.cons T7.out (zD.cons T5.out (zD.nil _ _))) G6.out.2.size hm;have G9 : Hid (Go1 c w w8 j5) := ⟨G6.out.1.below hB, G6.out.2.below hB⟩;have T8 := za hT;clear hT hB hm;go_wp2_with fail;go_ret;exact zx (show D c.E .whileDo (c.R k) (.ok ((nd 8 [] [t3, t5]), c.R j5)) from D.mk2 D3.out D5.out fun m h0 h1 => by simp only [zg, need, if_true, zq, bnd, ret, Q1.out, h0, h1]) (by omega) rfl G9.out.1 G9.out.2 T8.out
theorem zeZ (c : Cx) (k : Nat) (ihb : ∀ j, k < j → Ok c .bracketed 174 #[c.p] j) (ihs : ∀ j, k < j → Ok c .statement 95 #[c.p] j) : Ok c .doWhile 143 #[c.p] k := by
 intro w h;have hbl := h.lt;have hfew := h.ok.few;have G0 : Hid (Go1 c w w k) := ⟨h, Off.refl _ _⟩;have IHB := za ihb;have IHS := za ihs;clear h ihb ihs
 go_enter Tryz.func143, Tryz.ntmps143
 go_wp2_with fail;cases hq : isF c.E [100, 111] (c.R k)
 ·refine (ym c k ⟨#[100, 111]⟩ _ G0.out.1 hq).mono ?_; rintro e w1 ⟨rfl, hB⟩;have HO := za (G0.out.2.below hB);have Q1 := za hq;clear hB hq;unfold zu;go_wp2_with fail;exact zf rfl (zo (show D c.E .doWhile (c.R k) (.error (c.T k).pos) from D.mk0 fun m => by simp only [zg, need, zc, if_false, bad, zI, Q1.out]) rfl HO.out)
 ·refine (ye c k ⟨#[100, 111]⟩ (by decide) _ G0.out.1 hq).mono ?_; rintro e w1 ⟨rfl, hG⟩;have G2 : Hid (Go1 c w w1 (k + 1)) := ⟨hG.1, G0.out.2.trans hG.2⟩;have Q1 := za hq;clear hG hq;go_wp2_with fail;refine (IHS.out (k + 1) (by omega) _ G2.out.1).mono ?_; rintro e w3 ⟨r, hD, hr⟩;rcases r with p | ⟨t3, R1⟩
  ·obtain ⟨rfl, hO⟩ := hr;have HO := za (G2.out.2.trans hO);have D3 := za hD;clear hD hO;unfold zu;go_wp2_with fail;exact zf rfl (zo (show D c.E .doWhile (c.R k) (.error p) from D.mk1 D3.out fun m h0 => by simp only [zg, need, if_true, zq, bnd, Q1.out, h0]) rfl HO.out)
  ·obtain ⟨j3, vv, rfl, hj3, rfl, hG, hT⟩ := hr;obtain ⟨v3, rfl⟩ := hT.ptr;have G4 : Hid (Go1 c w w3 j3) := ⟨hG.1, G2.out.2.trans hG.2⟩;have T3 := za (hT.lower G2.out.2.size);have D3 := za hD;clear hD hG hT;go_wp2_with fail;cases hq : isF c.E [119, 104, 105, 108, 101] (c.R j3)
   ·refine (ym c j3 ⟨#[119, 104, 105, 108, 101]⟩ _ G4.out.1 hq).mono ?_; rintro e w5 ⟨rfl, hB⟩;have HO := za (G4.out.2.below hB);have Q5 := za hq;clear hB hq;unfold zu;go_wp2_with fail;exact zf rfl (zo (show D c.E .doWhile (c.R k) (.error (c.T j3).pos) from D.mk1 D3.out fun m h0 => by simp only [zg, need, if_true, zq, bnd, zc, if_false, bad, zI, Q1.out, Q5.out, h0]) rfl HO.out)
   ·refine (ye c j3 ⟨#[119, 104, 105, 108, 101]⟩ (by decide) _ G4.out.1 hq).mono ?_; rintro e w5 ⟨rfl, hG⟩;have G6 : Hid (Go1 c w w5 (j3 + 1)) := ⟨hG.1, G4.out.2.trans hG.2⟩;have T7 := za (T3.out.off hG.2 hbl);have Q5 := za hq;clear hG hq;go_wp2_with fail;refine (IHB.out (j3 + 1) (by omega) _ G6.out.1).mono ?_; rintro e w8 ⟨r, hD, hr⟩;rcases r with p | ⟨t8, R1⟩
    ·obtain ⟨rfl, hO⟩ := hr;have HO := za (G6.out.2.trans hO);have D8 := za hD;clear hD hO;unfold zu;go_wp2_with fail;exact zf rfl (zo (show D c.E .doWhile (c.R k) (.error p) from D.mk2 D3.out D8.out fun m h0 h1 => by simp only [zg, need, if_true, zq, bnd, Q1.out, Q5.out, h0, h1]) rfl HO.out)
    ·obtain ⟨j8, vv, rfl, hj8, rfl, hG, hT⟩ := hr;obtain ⟨v8, rfl⟩ := hT.ptr;have G9 : Hid (Go1 c w w8 j8) := ⟨hG.1, G6.out.2.trans hG.2⟩;have T10 := za (T7.out.off hG.2 hbl);have T8 := za (hT.lower G6.out.2.size);have D8 := za hD;clear hD hG hT;go_wp2_with fail;refine (zy _ _ _ _ _ _).mono ?_; rintro e w11 hm;obtain ⟨a11, rfl, hT, hB⟩ := zW (k := 9) (x := []) (vs := [(.pointer (some ⟨v3, 0, none⟩)), (.pointer (some ⟨v8, 0, none⟩))]) (kids := [t3, t8]) (zD.cons T10.out (zD.cons T8.out (zD.nil _ _))) G9.out.2.size hm;have G12 : Hid (Go1 c w w11 j8) := ⟨G9.out.1.below hB, G9.out.2.below hB⟩;have T11 := za hT;clear hT hB hm;go_wp2_with fail;cases hq : isF c.E [59] (c.R j8)
     ·refine (qZ c j8 _ _ G12.out.1 hq).mono ?_; rintro e w15 ⟨rfl, hB⟩;have HO := za (G12.out.2.below hB);have Q15 := za hq;clear hB hq;unfold zu;go_wp2_with fail;exact zf rfl (zo (show D c.E .doWhile (c.R k) (.error (c.T j8).pos) from D.mk2 D3.out D8.out fun m h0 h1 => by simp only [zg, need, if_true, zq, bnd, zc, if_false, bad, zI, Q1.out, Q5.out, Q15.out, h0, h1]) rfl HO.out)
     ·refine (xF c j8 _ _ G12.out.1 hq).mono ?_; rintro e w15 ⟨rfl, hG⟩;have G16 : Hid (Go1 c w w15 (j8 + 1)) := ⟨hG.1, G12.out.2.trans hG.2⟩;have T19 := za (T11.out.off hG.2 hbl);have Q15 := za hq;clear hG hq;go_wp2_with fail;go_ret;exact zx (show D c.E .doWhile (c.R k) (.ok ((nd 9 [] [t3, t8]), c.R (j8 + 1))) from D.mk2 D3.out D8.out fun m h0 h1 => by simp only [zg, need, if_true, zq, bnd, ret, Q1.out, Q5.out, Q15.out, h0, h1]) (by omega) rfl G16.out.1 G16.out.2 T19.out
theorem ze0 (c : Cx) (k : Nat) (ihe : ∀ j, k < j → Ok c .expr 149 #[c.p] j) : Ok c .throwIt 147 #[c.p] k := by
 intro w h;have hbl := h.lt;have hfew := h.ok.few;have G0 : Hid (Go1 c w w k) := ⟨h, Off.refl _ _⟩;have IHE := za ihe;clear h ihe
 go_enter Tryz.func147, Tryz.ntmps147
 go_wp2_with fail;cases hq : isF c.E [116, 104, 114, 111, 119] (c.R k)
 ·refine (ym c k ⟨#[116, 104, 114, 111, 119]⟩ _ G0.out.1 hq).mono ?_; rintro e w1 ⟨rfl, hB⟩;have HO := za (G0.out.2.below hB);have Q1 := za hq;clear hB hq;unfold zu;go_wp2_with fail;exact zf rfl (zo (show D c.E .throwIt (c.R k) (.error (c.T k).pos) from D.mk0 fun m => by simp only [zg, need, zc, if_false, bad, zI, Q1.out]) rfl HO.out)
 ·refine (ye c k ⟨#[116, 104, 114, 111, 119]⟩ (by decide) _ G0.out.1 hq).mono ?_; rintro e w1 ⟨rfl, hG⟩;have G2 : Hid (Go1 c w w1 (k + 1)) := ⟨hG.1, G0.out.2.trans hG.2⟩;have Q1 := za hq;clear hG hq;go_wp2_with fail;refine (IHE.out (k + 1) (by omega) _ G2.out.1).mono ?_; rintro e w3 ⟨r, hD, hr⟩;rcases r with p | ⟨t3, R1⟩
  ·obtain ⟨rfl, hO⟩ := hr;have HO := za (G2.out.2.trans hO);have D3 := za hD;clear hD hO;unfold zu;go_wp2_with fail;exact zf rfl (zo (show D c.E .throwIt (c.R k) (.error p) from D.mk1 D3.out fun m h0 => by simp only [zg, need, if_true, zq, bnd, Q1.out, h0]) rfl HO.out)
  ·obtain ⟨j3, vv, rfl, hj3, rfl, hG, hT⟩ := hr;obtain ⟨v3, rfl⟩ := hT.ptr;have G4 : Hid (Go1 c w w3 j3) := ⟨hG.1, G2.out.2.trans hG.2⟩;have T3 := za (hT.lower G2.out.2.size);have D3 := za hD;clear hD hG hT;go_wp2_with fail;refine (zy _ _ _ _ _ _).mono ?_; rintro e w5 hm;obtain ⟨a5, rfl, hT, hB⟩ := zW (k := 14) (x := []) (vs := [(.pointer (some ⟨v3, 0, none⟩))]) (kids := [t3]) (zD.cons T3.out (zD.nil _ _)) G4.out.2.size hm;have G6 : Hid (Go1 c w w5 j3) := ⟨G4.out.1.below hB, G4.out.2.below hB⟩;have T5 := za hT;clear hT hB hm;go_wp2_with fail;cases hq : isF c.E [59] (c.R j3)
   ·refine (qZ c j3 _ _ G6.out.1 hq).mono ?_; rintro e w8 ⟨rfl, hB⟩;have HO := za (G6.out.2.below hB);have Q8 := za hq;clear hB hq;unfold zu;go_wp2_with fail;exact zf rfl (zo (show D c.E .throwIt (c.R k) (.error (c.T j3).pos) from D.mk1 D3.out fun m h0 => by simp only [zg, need, if_true, zq, bnd, zc, if_false, bad, zI, Q1.out, Q8.out, h0]) rfl HO.out)
   ·refine (xF c j3 _ _ G6.out.1 hq).mono ?_; rintro e w8 ⟨rfl, hG⟩;have G9 : Hid (Go1 c w w8 (j3 + 1)) := ⟨hG.1, G6.out.2.trans hG.2⟩;have T11 := za (T5.out.off hG.2 hbl);have Q8 := za hq;clear hG hq;go_wp2_with fail;go_ret;exact zx (show D c.E .throwIt (c.R k) (.ok ((nd 14 [] [t3]), c.R (j3 + 1))) from D.mk1 D3.out fun m h0 => by simp only [zg, need, if_true, zq, bnd, ret, Q1.out, Q8.out, h0]) (by omega) rfl G9.out.1 G9.out.2 T11.out
end Go.Proofs.YtfcgpphodacdmaaGreatDoor
