/- Trees in memory: what a pointer leads to, and what comes out of a call. -/
import Derived.Test.YtnkfodelgpidkaaGreatDoorHq
import Derived.Laws.OwnMore
import Derived.Deep.AppendLies
namespace Go.Proofs.YtnkfodelgpidkaaGreatDoor
open Go.RowKit
set_option linter.unusedVariables false

/-- A row of pointers, to be read. -/
def PRow (w : World) (S : Nat → Prop) (v : Value) (vs : List Value) : Prop :=
  (vs = [] ∧ ∃ ao cap, v = .slice ao 0 cap) ∨ ∃ g cap, S g ∧ v = .slice (some ⟨g, 0, none⟩) vs.length cap ∧ ∀ (i : Nat) (h : i < vs.length), w.cell? ⟨g, i, none⟩ = some vs[i]
/-- A pointer leads to a tree whose blocks are in S. -/
inductive IsT (w : World) (S : Nat → Prop) : Value → Tr → Prop
  | mk (a : Nat) (k : Int) (x : List UInt8) (b : Int) (v : Value) (vs : List Value) (kids : List Tr) : S a → w.heap[a]? = some (.cells #[.int .i64 k, .string (bs x), .int .u64 b, v] 89 (0, 0)) →
      PRow w S v vs → vs.length = kids.length → (∀ (i : Nat) (h1 : i < vs.length) (h2 : i < kids.length), IsT w S vs[i] kids[i]) → IsT w S (.pointer (some ⟨a, 0, none⟩)) (.node k x b kids)
/-- All of a row. -/
def IsTs (w : World) (S : Nat → Prop) (vs : List Value) (kids : List Tr) : Prop := vs.length = kids.length ∧ ∀ (i : Nat) (h1 : i < vs.length) (h2 : i < kids.length), IsT w S vs[i] kids[i]
/-- The blocks from lo on, below hi. -/
def F (lo hi : Nat) (i : Nat) : Prop := lo ≤ i ∧ i < hi

theorem PRow.keep {w w' : World} {S S' : Nat → Prop} {v : Value} {vs : List Value} (h : PRow w S v vs) (hS : ∀ i, S i → S' i) (hw : ∀ i, S i → w'.heap[i]? = w.heap[i]?) : PRow w' S' v vs := by
  rcases h with h | ⟨g, cap, hg, hv, hc⟩
  · exact .inl h
  · exact .inr ⟨g, cap, hS g hg, hv, fun i hi => (World.cell?_of_block (a := ⟨g, i, none⟩) (hw g hg)).trans (hc i hi)⟩
theorem IsT.keep {w w' : World} {S S' : Nat → Prop} {v : Value} {t : Tr} (h : IsT w S v t) (hS : ∀ i, S i → S' i) (hw : ∀ i, S i → w'.heap[i]? = w.heap[i]?) : IsT w' S' v t := by
  induction h with
  | mk a k x b v vs kids ha hh hr hl _ ih => exact .mk a k x b v vs kids (hS a ha) ((hw a ha).trans hh) (hr.keep hS hw) hl ih
theorem IsTs.keep {w w' : World} {S S' : Nat → Prop} {vs : List Value} {ts : List Tr} (h : IsTs w S vs ts) (hS : ∀ i, S i → S' i) (hw : ∀ i, S i → w'.heap[i]? = w.heap[i]?) : IsTs w' S' vs ts :=
  ⟨h.1, fun i h1 h2 => (h.2 i h1 h2).keep hS hw⟩
theorem F.mono {lo lo' hi hi' : Nat} (h1 : lo' ≤ lo) (h2 : hi ≤ hi') : ∀ i, F lo hi i → F lo' hi' i := fun i h => ⟨Nat.le_trans h1 h.1, Nat.lt_of_lt_of_le h.2 h2⟩
/-- What is new stays, whatever the reader does later. -/
theorem IsT.off {w w' : World} {b lo : Nat} {v : Value} {t : Tr} (h : IsT w (F lo w.heap.size) v t) (ho : Off b w w') (hb : b < lo) : IsT w' (F lo w'.heap.size) v t :=
  h.keep (F.mono (Nat.le_refl _) ho.size) fun i hi => ho.block i hi.2 (by have := hi.1; omega)
theorem IsT.stay {w w' : World} {lo : Nat} {v : Value} {t : Tr} (h : IsT w (F lo w.heap.size) v t) (hb : Below w.heap.size w w') : IsT w' (F lo w'.heap.size) v t :=
  h.keep (F.mono (Nat.le_refl _) hb.size) fun i hi => hb.block i hi.2
theorem IsT.lower {w : World} {lo lo' : Nat} {v : Value} {t : Tr} (h : IsT w (F lo w.heap.size) v t) (hl : lo' ≤ lo) : IsT w (F lo' w.heap.size) v t :=
  h.keep (F.mono hl (Nat.le_refl _)) fun _ _ => rfl
theorem IsTs.nil (w : World) (S : Nat → Prop) : IsTs w S [] [] := ⟨rfl, fun i h => by simp at h⟩
theorem IsTs.cons {w : World} {S : Nat → Prop} {v : Value} {t : Tr} {vs : List Value} {ts : List Tr} (h : IsT w S v t) (hs : IsTs w S vs ts) : IsTs w S (v :: vs) (t :: ts) :=
  ⟨by simp [hs.1], fun i h1 h2 => by
    cases i with
    | zero => exact h
    | succ i => exact hs.2 i (by simpa using h1) (by simpa using h2)⟩
theorem IsTs.append {w : World} {S : Nat → Prop} {vs us : List Value} {ts ks : List Tr} (h : IsTs w S vs ts) (g : IsTs w S us ks) : IsTs w S (vs ++ us) (ts ++ ks) := by
  induction vs generalizing ts with
  | nil =>
    have : ts = [] := List.eq_nil_of_length_eq_zero (by rw [← h.1]; rfl)
    subst this; exact g
  | cons v r ih =>
    match ts, h with
    | t :: q, h =>
      exact .cons (h.2 0 (by simp) (by simp)) (ih ⟨by simpa using h.1, fun i h1 h2 => h.2 (i + 1) (by simpa using h1) (by simpa using h2)⟩)

/-- A node that was made: its kids were there, its row is new or none, its block is new. -/
theorem isT_made {w' : World} {S : Nat → Prop} {a : Nat} {k b : Int} {x : List UInt8} {v : Value} {vs : List Value} {kids : List Tr} (ha : S a)
    (hh : w'.heap[a]? = some (.cells #[.int .i64 k, .string (bs x), .int .u64 b, v] 89 (0, 0))) (hr : PRow w' S v vs) (hk : IsTs w' S vs kids) : IsT w' S (.pointer (some ⟨a, 0, none⟩)) (.node k x b kids) :=
  .mk a k x b v vs kids ha hh hr hk.1 hk.2

/-- newNode: a new block with what is handed in. -/
def Made (w : World) (k : Int) (x : ByteArray) (v : Value) (e : Ending) (w' : World) : Prop :=
  ∃ a, e = .returned (.pointer (some ⟨a, 0, none⟩)) ∧ w.heap.size ≤ a ∧ w'.heap[a]? = some (.cells #[.int .i64 k, .string x, .int .u64 0, v] 89 (0, 0)) ∧ Below w.heap.size w w'
set_option maxRecDepth 100000 in
set_option maxHeartbeats 1000000 in
theorem newNode_any (k : Int) (x : ByteArray) (ao : Option Addr) (n cap : Nat) (w : World) :
    Calls Tryz.prog 46 #[.int .i64 k, .string x, .slice ao n cap] w (Made w k x (.slice ao n cap)) := by
  go_enter Tryz.func46, Tryz.ntmps46
  go_wp2_with fail
  go_ret
  exact ⟨_, rfl, Nat.le_refl _, heap_alloc_new w _, (Below.refl _ _).alloc (Nat.le_refl _) _⟩

theorem new_cells (w : World) (vs : List Value) (T : TypeId) (i : Nat) (h : i < vs.length) : (w.alloc (.cells vs.toArray T)).cell? ⟨w.heap.size, i, none⟩ = some vs[i] := by
  have := heap_alloc_new w (.cells vs.toArray T)
  unfold World.cell?
  simp only [this]
  simp [h]
/-- A node with kids that were there, by a new row. -/
theorem node_kids {wN w5 : World} {lo : Nat} {vs : List Value} {kids : List Tr} {k : Int} {x : List UInt8} {e : Ending} (hk : IsTs wN (F lo wN.heap.size) vs kids) (hlo : lo ≤ wN.heap.size)
    (hm : Made (wN.alloc (.cells vs.toArray 59)) k (bs x) (.slice (some ⟨wN.heap.size, 0, none⟩) vs.length vs.length) e w5) :
    ∃ a, e = .returned (.pointer (some ⟨a, 0, none⟩)) ∧ IsT w5 (F lo w5.heap.size) (.pointer (some ⟨a, 0, none⟩)) (nd k x kids) ∧ Below wN.heap.size wN w5 := by
  obtain ⟨a, rfl, ha, hh, hB⟩ := hm
  have h1 : Below wN.heap.size wN (wN.alloc (.cells vs.toArray 59)) := (Below.refl _ _).alloc (Nat.le_refl _) _
  have h2 := below_trans h1 hB h1.size
  have hz : (wN.alloc (.cells vs.toArray 59)).heap.size = wN.heap.size + 1 := by simp
  have ha5 := lt_of_get hh
  refine ⟨a, rfl, isT_made ⟨by omega, ha5⟩ hh ?_ (hk.keep (F.mono (Nat.le_refl _) h2.size) fun i hi => h2.block i hi.2), h2⟩
  exact .inr ⟨wN.heap.size, vs.length, ⟨hlo, by have := hB.size; omega⟩, rfl, fun i hi => (hB.cell (p := ⟨wN.heap.size, i, none⟩) (by show wN.heap.size < _; omega)).trans (new_cells wN vs _ i hi)⟩
/-- A node without kids. -/
theorem node_none {wN w5 : World} {lo : Nat} {k : Int} {x : List UInt8} {e : Ending} (hlo : lo ≤ wN.heap.size) (hm : Made wN k (bs x) (.slice none 0 0) e w5) :
    ∃ a, e = .returned (.pointer (some ⟨a, 0, none⟩)) ∧ IsT w5 (F lo w5.heap.size) (.pointer (some ⟨a, 0, none⟩)) (nd k x []) ∧ Below wN.heap.size wN w5 := by
  obtain ⟨a, rfl, ha, hh, hB⟩ := hm
  exact ⟨a, rfl, isT_made ⟨by omega, lt_of_get hh⟩ hh (.inl ⟨rfl, none, 0, rfl⟩) (IsTs.nil _ _), hB⟩
/-- A node over a row that was there. -/
theorem node_row {wN w5 : World} {lo : Nat} {v : Value} {S : Nat → Prop} {vs : List Value} {kids : List Tr} {k : Int} {x : List UInt8} {e : Ending} (hk : IsTs wN S vs kids) (hS : ∀ i, S i → F lo wN.heap.size i) (hlo : lo ≤ wN.heap.size)
    (ho : wN.ownsRow lo 59 1 v vs.length vs) (hm : Made wN k (bs x) v e w5) :
    ∃ a, e = .returned (.pointer (some ⟨a, 0, none⟩)) ∧ IsT w5 (F lo w5.heap.size) (.pointer (some ⟨a, 0, none⟩)) (nd k x kids) ∧ Below wN.heap.size wN w5 := by
  obtain ⟨a, rfl, ha, hh, hB⟩ := hm
  refine ⟨a, rfl, isT_made ⟨by omega, lt_of_get hh⟩ hh ?_ (hk.keep (fun i hi => F.mono (Nat.le_refl _) hB.size i (hS i hi)) fun i hi => hB.block i (hS i hi).2), hB⟩
  by_cases h0 : vs.length = 0
  · obtain ⟨ao, cp, rfl⟩ := own_slice ho
    have : vs = [] := List.eq_nil_of_length_eq_zero h0
    subst this
    exact .inl ⟨rfl, ao, cp, rfl⟩
  · obtain ⟨g, cp, rfl, hg1, hg2⟩ := ho.form (by omega)
    refine .inr ⟨g, cp, ⟨hg1, by have := hB.size; omega⟩, rfl, fun i hi => ?_⟩
    refine (hB.cell (p := ⟨g, i, none⟩) hg2).trans ((ho.cellAt i (by omega)).trans ?_)
    rw [List.getElem?_eq_getElem hi]

/-- What comes out of a call of the reader. -/
def Post (c : Cx) (nt : NT) (k : Nat) (w : World) (e : Ending) (w' : World) : Prop :=
  ∃ r, D c.E nt (c.R k) r ∧ match r with
    | .error p => e = sflt p ∧ Off c.b w w'
    | .ok (t, R1) => ∃ j v, R1 = c.R j ∧ k < j ∧ e = .returned v ∧ Go1 c w w' j ∧ IsT w' (F w.heap.size w'.heap.size) v t
theorem post_err {c : Cx} {nt : NT} {k : Nat} {w w' : World} {e : Ending} {p : Int} (h : D c.E nt (c.R k) (.error p)) (he : e = sflt p) (ho : Off c.b w w') : Post c nt k w e w' := ⟨_, h, he, ho⟩
theorem post_ok {c : Cx} {nt : NT} {k j : Nat} {w w' : World} {e : Ending} {t : Tr} {v : Value} (h : D c.E nt (c.R k) (.ok (t, c.R j))) (hj : k < j) (he : e = .returned v) (hi : In c w' j) (ho : Off c.b w w') (ht : IsT w' (F w.heap.size w'.heap.size) v t) : Post c nt k w e w' := ⟨_, h, j, v, rfl, hj, he, ⟨hi, ho⟩, ht⟩
/-- What comes out of a call of the reader that tells a row. -/
def PostL (c : Cx) (nt : NT) (k : Nat) (w : World) (e : Ending) (w' : World) : Prop :=
  ∃ r, D c.E nt (c.R k) r ∧ match r with
    | .error p => e = sflt p ∧ Off c.b w w'
    | .ok (t, R1) => ∃ j v vs S, R1 = c.R j ∧ k < j ∧ e = .returned v ∧ Go1 c w w' j ∧ w'.ownsRow w.heap.size 59 1 v vs.length vs ∧ IsTs w' S vs t.kids ∧ (∀ i, S i → F w.heap.size w'.heap.size i) ∧ (∀ g, v.ownBlock = some g → ¬ S g)
theorem postL_err {c : Cx} {nt : NT} {k : Nat} {w w' : World} {e : Ending} {p : Int} (h : D c.E nt (c.R k) (.error p)) (he : e = sflt p) (ho : Off c.b w w') : PostL c nt k w e w' := ⟨_, h, he, ho⟩

set_option maxRecDepth 100000 in
set_option maxHeartbeats 1000000 in
theorem is_at (c : Cx) (k : Nat) (s : ByteArray) (w : World) (h : In c w k) {v : Bool} (hq : isF c.E s.data.toList (c.R k) = v) :
    Calls Tryz.prog 142 #[.pointer (some ⟨c.b, 0, none⟩), .string s] w fun e w' => e = .returned (.bool v) ∧ Below w.heap.size w w' := by
  rw [← hq]; exact is_any c k s w h
set_option maxRecDepth 100000 in
set_option maxHeartbeats 1000000 in
theorem ended_yes (c : Cx) (k : Nat) (v : Value) (w : World) (h : In c w k) (hq : isF c.E [59] (c.R k) = true) :
    Calls Tryz.prog 151 #[.pointer (some ⟨c.b, 0, none⟩), v] w fun e w' => e = .returned v ∧ Go1 c w w' (k + 1) := by
  have T := Lib.hid (need_yes c k ⟨#[59]⟩ (by decide) w h hq)
  clear h hq
  go_enter Tryz.func151, Tryz.ntmps151
  go_wp2_with fail
  refine T.out.mono ?_; rintro e w1 ⟨rfl, hG⟩
  go_wp2_with fail
  go_ret
  exact ⟨rfl, hG⟩
set_option maxRecDepth 100000 in
set_option maxHeartbeats 1000000 in
theorem ended_no (c : Cx) (k : Nat) (v : Value) (w : World) (h : In c w k) (hq : isF c.E [59] (c.R k) = false) :
    Calls Tryz.prog 151 #[.pointer (some ⟨c.b, 0, none⟩), v] w fun e w' => e = sflt (c.T k).pos ∧ Below w.heap.size w w' := by
  have T := Lib.hid (need_no c k ⟨#[59]⟩ w h hq)
  unfold sflt at T ⊢
  clear h hq
  go_enter Tryz.func151, Tryz.ntmps151
  go_wp2_with fail
  refine T.out.mono ?_; rintro e w1 ⟨rfl, hG⟩
  go_wp2_with fail
  exact bodyPost_panic rfl ⟨rfl, hG⟩

set_option maxRecDepth 100000 in
set_option maxHeartbeats 1000000 in
theorem isTarget_any (w : World) (S : Nat → Prop) (v : Value) (t : Tr) (h : IsT w S v t) :
    Calls Tryz.prog 231 #[v] w fun e w' => e = .returned (.bool (targetB t)) ∧ w = w' := by
  cases h with
  | mk a k x b u vs kids ha hh hr hl hk =>
    have c0 : w.cell? ⟨a, 0, none⟩ = some (.int .i64 k) := by simp [World.cell?, hh]
    have HB : Hid (targetB (.node k x b kids) = (k == 27 || k == 32 || k == 33)) := rfl
    have HK : k = 27 ∨ k = 32 ∨ k = 33 ∨ ((k == 27) = false ∧ (k == 32) = false ∧ (k == 33) = false) := by simp only [beq_eq_false_iff_ne]; omega
    clear hh hr hl hk ha
    rcases HK with rfl | rfl | rfl | ⟨k1, k2, k3⟩
    · go_enter Tryz.func231, Tryz.ntmps231
      go_wp2_with fail
      go_ret
      exact ⟨rfl, rfl⟩
    · go_enter Tryz.func231, Tryz.ntmps231
      go_wp2_with fail
      go_ret
      exact ⟨rfl, rfl⟩
    · go_enter Tryz.func231, Tryz.ntmps231
      go_wp2_with fail
      go_ret
      exact ⟨rfl, rfl⟩
    · have HE : Hid (targetB (.node k x b kids) = false) := by show _ = _; rw [HB.out, k1, k2, k3]; rfl
      go_enter Tryz.func231, Tryz.ntmps231
      go_wp2_with fail
      go_ret
      exact ⟨by rw [HE.out]; rfl, rfl⟩
set_option maxRecDepth 100000 in
set_option maxHeartbeats 1000000 in
theorem target_yes (w : World) (lo : Nat) (v : Value) (t : Tr) (k : Tk) (h : IsT w (F lo w.heap.size) v t) (hq : targetB t = true) :
    Calls Tryz.prog 220 #[v, tkW k] w fun e w' => e = .returned (.tuple #[]) ∧ Below w.heap.size w w' := by
  have HB := Lib.hid ((Below.refl w.heap.size w).alloc (Nat.le_refl _) (.cells #[.int .i64 k.kind, .int .i64 k.pos, .string (bs k.text), .int .u64 k.bits] 42))
  have T := Lib.hid (isTarget_any _ _ v t (h.stay HB.out))
  rw [hq] at T
  unfold tkW
  clear hq h
  go_enter Tryz.func220, Tryz.ntmps220
  go_wp2_with fail
  refine T.out.mono ?_; rintro e w' ⟨rfl, rfl⟩
  go_wp2_with fail
  go_end0
  exact ⟨rfl, HB.out⟩
set_option maxRecDepth 100000 in
set_option maxHeartbeats 1000000 in
theorem target_no (w : World) (lo : Nat) (v : Value) (t : Tr) (k : Tk) (h : IsT w (F lo w.heap.size) v t) (hq : targetB t = false) :
    Calls Tryz.prog 220 #[v, tkW k] w fun e w' => e = sflt k.pos ∧ Below w.heap.size w w' := by
  have HB := Lib.hid ((Below.refl w.heap.size w).alloc (Nat.le_refl _) (.cells #[.int .i64 k.kind, .int .i64 k.pos, .string (bs k.text), .int .u64 k.bits] 42))
  have T := Lib.hid (isTarget_any _ _ v t (h.stay HB.out))
  rw [hq] at T
  unfold tkW
  clear hq h
  go_enter Tryz.func220, Tryz.ntmps220
  go_wp2_with fail
  refine T.out.mono ?_; rintro e w' ⟨rfl, rfl⟩
  go_wp2_with fail
  exact bodyPost_panic rfl ⟨rfl, HB.out⟩
theorem stoken_agg (c : Cx) (k : Nat) (w : World) (h : In c w k) :
    Calls Tryz.prog 147 #[.pointer (some ⟨c.b, 0, none⟩)] w fun e w' => e = .returned (.agg #[.int .i64 (c.T k).kind, .int .i64 (c.T k).pos, .string (bs (c.T k).text), .int .u64 (c.T k).bits]) ∧ Below w.heap.size w w' := stoken_any c k w h
theorem B4.stay {w w' : World} {g : Nat} {x0 x1 x2 x3 : Value} (h : B4 w g x0 x1 x2 x3) (hb : Below w.heap.size w w') : B4 w' g x0 x1 x2 x3 := (hb.block g h.lt).trans h
set_option maxRecDepth 100000 in
set_option maxHeartbeats 1000000 in
theorem skey_no (c : Cx) (k : Nat) (w : World) (h : In c w k) (hq : ¬ ((c.T k).kind = 1 ∨ (c.T k).kind = 2)) :
    Calls Tryz.prog 258 #[.pointer (some ⟨c.b, 0, none⟩)] w fun e w' => e = sflt (c.T k).pos ∧ Below w.heap.size w w' := by
  have T := Lib.hid (stoken_any c k w h)
  have G := Lib.hid (fun w1 (hb : Below w.heap.size w w1) => sgiveUp_any c k w1 (h.below hb))
  unfold tkW at T
  unfold sflt at G ⊢
  generalize c.T k = t at *
  obtain ⟨tk, tp, tx, tb⟩ := t
  have hk1 : (tk == 1) = false := by rw [beq_eq_false_iff_ne]; intro e; exact hq (.inl e)
  have hk2 : (tk == 2) = false := by rw [beq_eq_false_iff_ne]; intro e; exact hq (.inr e)
  clear h hq
  go_enter Tryz.func258, Tryz.ntmps258
  go_wp2_with fail
  refine T.out.mono ?_; rintro e w1 ⟨rfl, hB1⟩
  have HBA := Lib.hid (hB1.alloc hB1.size (.cells #[.int .i64 tk, .int .i64 tp, .string (bs tx), .int .u64 tb] 42))
  clear hB1
  go_wp2_with fail
  refine (G.out _ HBA.out).mono ?_; rintro e w2 ⟨rfl, hB2⟩
  go_wp2_with fail
  exact bodyPost_panic rfl ⟨rfl, below_trans HBA.out hB2 HBA.out.size⟩

/-- What comes out, over blocks from lo on: where a tree is handed in. -/
def PostF (lo : Nat) (c : Cx) (nt : NT) (k : Nat) (w : World) (e : Ending) (w' : World) : Prop :=
  ∃ r, D c.E nt (c.R k) r ∧ match r with
    | .error p => e = sflt p ∧ Off c.b w w'
    | .ok (t, R1) => ∃ j v, R1 = c.R j ∧ k < j ∧ e = .returned v ∧ Go1 c w w' j ∧ IsT w' (F lo w'.heap.size) v t
theorem postF_err {lo : Nat} {c : Cx} {nt : NT} {k : Nat} {w w' : World} {e : Ending} {p : Int} (h : D c.E nt (c.R k) (.error p)) (he : e = sflt p) (ho : Off c.b w w') : PostF lo c nt k w e w' := ⟨_, h, he, ho⟩
theorem postF_ok {lo : Nat} {c : Cx} {nt : NT} {k j : Nat} {w w' : World} {e : Ending} {t : Tr} {v : Value} (h : D c.E nt (c.R k) (.ok (t, c.R j))) (hj : k < j) (he : e = .returned v) (hi : In c w' j) (ho : Off c.b w w') (ht : IsT w' (F lo w'.heap.size) v t) : PostF lo c nt k w e w' := ⟨_, h, j, v, rfl, hj, he, ⟨hi, ho⟩, ht⟩
def PostLF (lo : Nat) (c : Cx) (nt : NT) (k : Nat) (w : World) (e : Ending) (w' : World) : Prop :=
  ∃ r, D c.E nt (c.R k) r ∧ match r with
    | .error p => e = sflt p ∧ Off c.b w w'
    | .ok (t, R1) => ∃ j v vs S, R1 = c.R j ∧ k < j ∧ e = .returned v ∧ Go1 c w w' j ∧ w'.ownsRow lo 59 1 v vs.length vs ∧ IsTs w' S vs t.kids ∧ (∀ i, S i → F lo w'.heap.size i) ∧ (∀ g, v.ownBlock = some g → ¬ S g)
end Go.Proofs.YtnkfodelgpidkaaGreatDoor
