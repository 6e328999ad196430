/- Part of a proof: contracts of functions. -/
import Derived.Test.YtfcgpphodacdmaaGreatDoorY1
set_option maxRecDepth 100000
set_option maxHeartbeats 4000000
set_option linter.all false
namespace Go.Proofs.YtfcgpphodacdmaaGreatDoor
open Go.RowKit
theorem isE (L : List Int) : ((L.length : Int) == 0) = L.isEmpty := by cases L with
 | nil => rfl
 | cons a l => rw [beq_eq_false_iff_ne.2 (by rw [List.length_cons]; omega)]; rfl
def zM (w : World) (b : Bool) (e : Ending) (w' : World) : Prop := e = .returned (.bool b) ∧ Below w.heap.size w w'
def zqt (w : World) (v : Value) (L : List Int) : Prop := ∀ (rs : List Int) (w1 : World) (u : Value), Below w.heap.size w w1 → IRo w1 u rs → rs.length ≤ 10 → Rng rs → Calls Tryz.prog 103 #[v, u] w1 fun e w' => e = .returned (.bool (zw L rs)) ∧ Below w.heap.size w w'
theorem xr {w : World} {v : Value} {L : List Int} (h : IRo w v L) (hl : L.length ≤ 1000000) (hL : Rng L) : zqt w v L := fun rs w1 u hb hu h1 h2 =>
 (zlO w1 v u L rs (h.below hb) hu hl h1 hL h2).mono fun e w' ⟨he, hB⟩ => ⟨he, hb.trans (hB.mono hb.size)⟩
def zqu (w : World) (v : Value) (L : List Int) : Prop := ∀ (r : Int), 0 ≤ r ∧ r < 8192 → Calls Tryz.prog 102 #[v, .int .i64 r] w fun e w' => e = .returned (.bool (yt L r)) ∧ Below w.heap.size w w'
theorem uh {w : World} {v : Value} {L : List Int} (h : IRo w v L) (hl : L.length ≤ 1000000) (hL : Rng L) : zqu w v L := fun r hr => zlN w v L r h hl hr hL
theorem zor (w : World) (v : Value) (L : List Int) (h : IRo w v L) (hl : L.length ≤ 1000000) (hL : Rng L) :
  Calls Tryz.prog 104 #[.int .i64 21, v] w (zM w (yD 21 L)) := by
 show Calls Tryz.prog 104 #[.int .i64 21, v] w (zM w (L.isEmpty))
 obtain ⟨ao, cp, rfl⟩ := h.slice;clear h hL;have hE := isE L;generalize L.isEmpty = b at *
 go_enter Tryz.func104, Tryz.ntmps104
 go_wp2_with fail;go_ret;exact ⟨rfl, ze _ _⟩
theorem zos (w : World) (v : Value) (L : List Int) (h : IRo w v L) (hl : L.length ≤ 1000000) (hL : Rng L) :
  Calls Tryz.prog 104 #[.int .i64 22, v] w (zM w (yD 22 L)) := by
 show Calls Tryz.prog 104 #[.int .i64 22, v] w (zM w (L.isEmpty))
 obtain ⟨ao, cp, rfl⟩ := h.slice;clear h hL;have hE := isE L;generalize L.isEmpty = b at *
 go_enter Tryz.func104, Tryz.ntmps104
 go_wp2_with fail;go_ret;exact ⟨rfl, ze _ _⟩
theorem zot (w : World) (v : Value) (L : List Int) (h : IRo w v L) (hl : L.length ≤ 1000000) (hL : Rng L) :
  Calls Tryz.prog 104 #[.int .i64 23, v] w (zM w (yD 23 L)) := by
 show Calls Tryz.prog 104 #[.int .i64 23, v] w (zM w (L.isEmpty))
 obtain ⟨ao, cp, rfl⟩ := h.slice;clear h hL;have hE := isE L;generalize L.isEmpty = b at *
 go_enter Tryz.func104, Tryz.ntmps104
 go_wp2_with fail;go_ret;exact ⟨rfl, ze _ _⟩
theorem zou (w : World) (v : Value) (L : List Int) (h : IRo w v L) (hl : L.length ≤ 1000000) (hL : Rng L) :
  Calls Tryz.prog 104 #[.int .i64 24, v] w (zM w (yD 24 L)) := by
 show Calls Tryz.prog 104 #[.int .i64 24, v] w (zM w (L.isEmpty))
 obtain ⟨ao, cp, rfl⟩ := h.slice;clear h hL;have hE := isE L;generalize L.isEmpty = b at *
 go_enter Tryz.func104, Tryz.ntmps104
 go_wp2_with fail;go_ret;exact ⟨rfl, ze _ _⟩
theorem zov (w : World) (v : Value) (L : List Int) (h : IRo w v L) (hl : L.length ≤ 1000000) (hL : Rng L) :
  Calls Tryz.prog 104 #[.int .i64 25, v] w (zM w (yD 25 L)) := by
 show Calls Tryz.prog 104 #[.int .i64 25, v] w (zM w (L.isEmpty))
 obtain ⟨ao, cp, rfl⟩ := h.slice;clear h hL;have hE := isE L;generalize L.isEmpty = b at *
 go_enter Tryz.func104, Tryz.ntmps104
 go_wp2_with fail;go_ret;exact ⟨rfl, ze _ _⟩
theorem zow (w : World) (v : Value) (L : List Int) (h : IRo w v L) (hl : L.length ≤ 1000000) (hL : Rng L) :
  Calls Tryz.prog 104 #[.int .i64 26, v] w (zM w (yD 26 L)) := by
 show Calls Tryz.prog 104 #[.int .i64 26, v] w (zM w (L.isEmpty))
 obtain ⟨ao, cp, rfl⟩ := h.slice;clear h hL;have hE := isE L;generalize L.isEmpty = b at *
 go_enter Tryz.func104, Tryz.ntmps104
 go_wp2_with fail;go_ret;exact ⟨rfl, ze _ _⟩
theorem zox (w : World) (v : Value) (L : List Int) (h : IRo w v L) (hl : L.length ≤ 1000000) (hL : Rng L) :
  Calls Tryz.prog 104 #[.int .i64 27, v] w (zM w (yD 27 L)) := by
 show Calls Tryz.prog 104 #[.int .i64 27, v] w (zM w (L.isEmpty))
 obtain ⟨ao, cp, rfl⟩ := h.slice;clear h hL;have hE := isE L;generalize L.isEmpty = b at *
 go_enter Tryz.func104, Tryz.ntmps104
 go_wp2_with fail;go_ret;exact ⟨rfl, ze _ _⟩
theorem zoy (w : World) (v : Value) (L : List Int) (h : IRo w v L) (hl : L.length ≤ 1000000) (hL : Rng L) :
  Calls Tryz.prog 104 #[.int .i64 34, v] w (zM w (yD 34 L)) := by
 show Calls Tryz.prog 104 #[.int .i64 34, v] w (zM w (!L.isEmpty && yt L 4))
 have AL := za (uh h hl hL);obtain ⟨ao, cp, rfl⟩ := h.slice;clear h hL;by_cases h0 : L.length = 0
 ·have e : L = [] := List.eq_nil_of_length_eq_zero h0;subst e
  go_enter Tryz.func104, Tryz.ntmps104
  go_wp2_with fail;go_ret;exact ⟨rfl, ze _ _⟩
 ·have e : L.isEmpty = false := by cases L; exact absurd rfl h0; rfl
  have hp : (0 : Int) < (L.length : Int) := by omega
  have hz : ((L.length : Int) == 0) = false := beq_eq_false_iff_ne.2 (by omega);rw [e];show Calls _ _ _ _ (zM w (yt L 4))
  go_enter Tryz.func104, Tryz.ntmps104
  go_wp2_with fail;refine (AL.out 4 (by decide)).mono ?_;rintro e w1 ⟨rfl, hB⟩;have HB := za hB;clear hB;go_wp2_with fail;go_ret;exact ⟨rfl, HB.out⟩
theorem zoz (w : World) (v : Value) (L : List Int) (h : IRo w v L) (hl : L.length ≤ 1000000) (hL : Rng L) :
  Calls Tryz.prog 104 #[.int .i64 35, v] w (zM w (yD 35 L)) := by
 show Calls Tryz.prog 104 #[.int .i64 35, v] w (zM w (!L.isEmpty && yt L 4))
 have AL := za (uh h hl hL);obtain ⟨ao, cp, rfl⟩ := h.slice;clear h hL;by_cases h0 : L.length = 0
 ·have e : L = [] := List.eq_nil_of_length_eq_zero h0;subst e
  go_enter Tryz.func104, Tryz.ntmps104
  go_wp2_with fail;go_ret;exact ⟨rfl, ze _ _⟩
 ·have e : L.isEmpty = false := by cases L; exact absurd rfl h0; rfl
  have hp : (0 : Int) < (L.length : Int) := by omega
  have hz : ((L.length : Int) == 0) = false := beq_eq_false_iff_ne.2 (by omega);rw [e];show Calls _ _ _ _ (zM w (yt L 4))
  go_enter Tryz.func104, Tryz.ntmps104
  go_wp2_with fail;refine (AL.out 4 (by decide)).mono ?_;rintro e w1 ⟨rfl, hB⟩;have HB := za hB;clear hB;go_wp2_with fail;go_ret;exact ⟨rfl, HB.out⟩
theorem zoA (w : World) (v : Value) (L : List Int) (h : IRo w v L) (hl : L.length ≤ 1000000) (hL : Rng L) :
  Calls Tryz.prog 104 #[.int .i64 28, v] w (zM w (yD 28 L)) := by
 show Calls Tryz.prog 104 #[.int .i64 28, v] w (zM w (yt L 4))
 have AL := za (uh h hl hL);obtain ⟨ao, cp, rfl⟩ := h.slice;clear h hL
 go_enter Tryz.func104, Tryz.ntmps104
 go_wp2_with fail;refine (AL.out 4 (by decide)).mono ?_;rintro e w1 ⟨rfl, hB⟩;have HB := za hB;clear hB;go_wp2_with fail;go_ret;exact ⟨rfl, HB.out⟩
theorem zoB (w : World) (v : Value) (L : List Int) (h : IRo w v L) (hl : L.length ≤ 1000000) (hL : Rng L) :
  Calls Tryz.prog 104 #[.int .i64 29, v] w (zM w (yD 29 L)) := by
 show Calls Tryz.prog 104 #[.int .i64 29, v] w (zM w (yt L 4096))
 have AL := za (uh h hl hL);obtain ⟨ao, cp, rfl⟩ := h.slice;clear h hL
 go_enter Tryz.func104, Tryz.ntmps104
 go_wp2_with fail;refine (AL.out 4096 (by decide)).mono ?_;rintro e w1 ⟨rfl, hB⟩;have HB := za hB;clear hB;go_wp2_with fail;go_ret;exact ⟨rfl, HB.out⟩
theorem zoC (w : World) (v : Value) (L : List Int) (h : IRo w v L) (hl : L.length ≤ 1000000) (hL : Rng L) :
  Calls Tryz.prog 104 #[.int .i64 30, v] w (zM w (yD 30 L)) := by
 show Calls Tryz.prog 104 #[.int .i64 30, v] w (zM w (zw L [4]))
 have AR := za (xr h hl hL);obtain ⟨ao, cp, rfl⟩ := h.slice;clear h hL
 go_enter Tryz.func104, Tryz.ntmps104
 go_wp2_with fail;refine (AR.out [4] _ _ ((ze _ _).alloc (zd _) _) (IRo.lit _ [4] _ 1 rfl) (by decide) (by unfold Rng; decide)).mono ?_;rintro e w1 ⟨rfl, hB⟩;have HB := za hB;clear hB;go_wp2_with fail;go_ret;exact ⟨rfl, HB.out⟩
theorem zoD (w : World) (v : Value) (L : List Int) (h : IRo w v L) (hl : L.length ≤ 1000000) (hL : Rng L) :
  Calls Tryz.prog 104 #[.int .i64 32, v] w (zM w (yD 32 L)) := by
 show Calls Tryz.prog 104 #[.int .i64 32, v] w (zM w (zw L [4]))
 have AR := za (xr h hl hL);obtain ⟨ao, cp, rfl⟩ := h.slice;clear h hL
 go_enter Tryz.func104, Tryz.ntmps104
 go_wp2_with fail;refine (AR.out [4] _ _ ((ze _ _).alloc (zd _) _) (IRo.lit _ [4] _ 1 rfl) (by decide) (by unfold Rng; decide)).mono ?_;rintro e w1 ⟨rfl, hB⟩;have HB := za hB;clear hB;go_wp2_with fail;go_ret;exact ⟨rfl, HB.out⟩
theorem zoE (w : World) (v : Value) (L : List Int) (h : IRo w v L) (hl : L.length ≤ 1000000) (hL : Rng L) :
  Calls Tryz.prog 104 #[.int .i64 36, v] w (zM w (yD 36 L)) := by
 show Calls Tryz.prog 104 #[.int .i64 36, v] w (zM w (zw L [4]))
 have AR := za (xr h hl hL);obtain ⟨ao, cp, rfl⟩ := h.slice;clear h hL
 go_enter Tryz.func104, Tryz.ntmps104
 go_wp2_with fail;refine (AR.out [4] _ _ ((ze _ _).alloc (zd _) _) (IRo.lit _ [4] _ 1 rfl) (by decide) (by unfold Rng; decide)).mono ?_;rintro e w1 ⟨rfl, hB⟩;have HB := za hB;clear hB;go_wp2_with fail;go_ret;exact ⟨rfl, HB.out⟩
theorem zoF (w : World) (v : Value) (L : List Int) (h : IRo w v L) (hl : L.length ≤ 1000000) (hL : Rng L) :
  Calls Tryz.prog 104 #[.int .i64 37, v] w (zM w (yD 37 L)) := by
 show Calls Tryz.prog 104 #[.int .i64 37, v] w (zM w (zw L [8]))
 have AR := za (xr h hl hL);obtain ⟨ao, cp, rfl⟩ := h.slice;clear h hL
 go_enter Tryz.func104, Tryz.ntmps104
 go_wp2_with fail;refine (AR.out [8] _ _ ((ze _ _).alloc (zd _) _) (IRo.lit _ [8] _ 1 rfl) (by decide) (by unfold Rng; decide)).mono ?_;rintro e w1 ⟨rfl, hB⟩;have HB := za hB;clear hB;go_wp2_with fail;go_ret;exact ⟨rfl, HB.out⟩
theorem zoG (w : World) (v : Value) (L : List Int) (h : IRo w v L) (hl : L.length ≤ 1000000) (hL : Rng L) :
  Calls Tryz.prog 104 #[.int .i64 33, v] w (zM w (yD 33 L)) := by
 show Calls Tryz.prog 104 #[.int .i64 33, v] w (zM w (zw L [4, 4]))
 have AR := za (xr h hl hL);obtain ⟨ao, cp, rfl⟩ := h.slice;clear h hL
 go_enter Tryz.func104, Tryz.ntmps104
 go_wp2_with fail;refine (AR.out [4, 4] _ _ ((ze _ _).alloc (zd _) _) (IRo.lit _ [4, 4] _ 2 rfl) (by decide) (by unfold Rng; decide)).mono ?_;rintro e w1 ⟨rfl, hB⟩;have HB := za hB;clear hB;go_wp2_with fail;go_ret;exact ⟨rfl, HB.out⟩
theorem zoH (w : World) (v : Value) (L : List Int) (h : IRo w v L) (hl : L.length ≤ 1000000) (hL : Rng L) :
  Calls Tryz.prog 104 #[.int .i64 38, v] w (zM w (yD 38 L)) := by
 show Calls Tryz.prog 104 #[.int .i64 38, v] w (zM w (zw L [4, 4]))
 have AR := za (xr h hl hL);obtain ⟨ao, cp, rfl⟩ := h.slice;clear h hL
 go_enter Tryz.func104, Tryz.ntmps104
 go_wp2_with fail;refine (AR.out [4, 4] _ _ ((ze _ _).alloc (zd _) _) (IRo.lit _ [4, 4] _ 2 rfl) (by decide) (by unfold Rng; decide)).mono ?_;rintro e w1 ⟨rfl, hB⟩;have HB := za hB;clear hB;go_wp2_with fail;go_ret;exact ⟨rfl, HB.out⟩
theorem zoI (w : World) (v : Value) (L : List Int) (h : IRo w v L) (hl : L.length ≤ 1000000) (hL : Rng L) :
  Calls Tryz.prog 104 #[.int .i64 39, v] w (zM w (yD 39 L)) := by
 show Calls Tryz.prog 104 #[.int .i64 39, v] w (zM w (zw L [4, 4]))
 have AR := za (xr h hl hL);obtain ⟨ao, cp, rfl⟩ := h.slice;clear h hL
 go_enter Tryz.func104, Tryz.ntmps104
 go_wp2_with fail;refine (AR.out [4, 4] _ _ ((ze _ _).alloc (zd _) _) (IRo.lit _ [4, 4] _ 2 rfl) (by decide) (by unfold Rng; decide)).mono ?_;rintro e w1 ⟨rfl, hB⟩;have HB := za hB;clear hB;go_wp2_with fail;go_ret;exact ⟨rfl, HB.out⟩
theorem zoJ (w : World) (v : Value) (L : List Int) (h : IRo w v L) (hl : L.length ≤ 1000000) (hL : Rng L) :
  Calls Tryz.prog 104 #[.int .i64 42, v] w (zM w (yD 42 L)) := by
 show Calls Tryz.prog 104 #[.int .i64 42, v] w (zM w (zw L [4, 4]))
 have AR := za (xr h hl hL);obtain ⟨ao, cp, rfl⟩ := h.slice;clear h hL
 go_enter Tryz.func104, Tryz.ntmps104
 go_wp2_with fail;refine (AR.out [4, 4] _ _ ((ze _ _).alloc (zd _) _) (IRo.lit _ [4, 4] _ 2 rfl) (by decide) (by unfold Rng; decide)).mono ?_;rintro e w1 ⟨rfl, hB⟩;have HB := za hB;clear hB;go_wp2_with fail;go_ret;exact ⟨rfl, HB.out⟩
theorem zoK (w : World) (v : Value) (L : List Int) (h : IRo w v L) (hl : L.length ≤ 1000000) (hL : Rng L) :
  Calls Tryz.prog 104 #[.int .i64 41, v] w (zM w (yD 41 L)) := by
 show Calls Tryz.prog 104 #[.int .i64 41, v] w (zM w (zw L [8, 4]))
 have AR := za (xr h hl hL);obtain ⟨ao, cp, rfl⟩ := h.slice;clear h hL
 go_enter Tryz.func104, Tryz.ntmps104
 go_wp2_with fail;refine (AR.out [8, 4] _ _ ((ze _ _).alloc (zd _) _) (IRo.lit _ [8, 4] _ 2 rfl) (by decide) (by unfold Rng; decide)).mono ?_;rintro e w1 ⟨rfl, hB⟩;have HB := za hB;clear hB;go_wp2_with fail;go_ret;exact ⟨rfl, HB.out⟩
theorem zoL (w : World) (v : Value) (L : List Int) (h : IRo w v L) (hl : L.length ≤ 1000000) (hL : Rng L) :
  Calls Tryz.prog 104 #[.int .i64 40, v] w (zM w (yD 40 L)) := by
 show Calls Tryz.prog 104 #[.int .i64 40, v] w (zM w (zw L [4, 4, 4]))
 have AR := za (xr h hl hL);obtain ⟨ao, cp, rfl⟩ := h.slice;clear h hL
 go_enter Tryz.func104, Tryz.ntmps104
 go_wp2_with fail;refine (AR.out [4, 4, 4] _ _ ((ze _ _).alloc (zd _) _) (IRo.lit _ [4, 4, 4] _ 3 rfl) (by decide) (by unfold Rng; decide)).mono ?_;rintro e w1 ⟨rfl, hB⟩;have HB := za hB;clear hB;go_wp2_with fail;go_ret;exact ⟨rfl, HB.out⟩
theorem zoM (k : Int) (hk : ¬ k ∈ ([21, 22, 23, 24, 25, 26, 27, 28, 29, 30, 32, 33, 34, 35, 36, 37, 38, 39, 40, 41, 42] : List Int)) (w : World) (v : Value) (L : List Int) (h : IRo w v L) :
  Calls Tryz.prog 104 #[.int .i64 k, v] w (zM w (yD k L)) := by
 have e : yD k L = false := by
  simp only [List.mem_cons, List.not_mem_nil, or_false, not_or] at hk;unfold yD
  repeat rw [if_neg (by omega)]
 rw [e];obtain ⟨ao, cp, rfl⟩ := h.slice;have e21 : (k == 21) = false := beq_eq_false_iff_ne.2 fun e => hk (by subst e; decide)
 have e22 : (k == 22) = false := beq_eq_false_iff_ne.2 fun e => hk (by subst e; decide)
 have e23 : (k == 23) = false := beq_eq_false_iff_ne.2 fun e => hk (by subst e; decide)
 have e24 : (k == 24) = false := beq_eq_false_iff_ne.2 fun e => hk (by subst e; decide)
 have e25 : (k == 25) = false := beq_eq_false_iff_ne.2 fun e => hk (by subst e; decide)
 have e26 : (k == 26) = false := beq_eq_false_iff_ne.2 fun e => hk (by subst e; decide)
 have e27 : (k == 27) = false := beq_eq_false_iff_ne.2 fun e => hk (by subst e; decide)
 have e28 : (k == 28) = false := beq_eq_false_iff_ne.2 fun e => hk (by subst e; decide)
 have e29 : (k == 29) = false := beq_eq_false_iff_ne.2 fun e => hk (by subst e; decide)
 have e30 : (k == 30) = false := beq_eq_false_iff_ne.2 fun e => hk (by subst e; decide)
 have e32 : (k == 32) = false := beq_eq_false_iff_ne.2 fun e => hk (by subst e; decide)
 have e33 : (k == 33) = false := beq_eq_false_iff_ne.2 fun e => hk (by subst e; decide)
 have e34 : (k == 34) = false := beq_eq_false_iff_ne.2 fun e => hk (by subst e; decide)
 have e35 : (k == 35) = false := beq_eq_false_iff_ne.2 fun e => hk (by subst e; decide)
 have e36 : (k == 36) = false := beq_eq_false_iff_ne.2 fun e => hk (by subst e; decide)
 have e37 : (k == 37) = false := beq_eq_false_iff_ne.2 fun e => hk (by subst e; decide)
 have e38 : (k == 38) = false := beq_eq_false_iff_ne.2 fun e => hk (by subst e; decide)
 have e39 : (k == 39) = false := beq_eq_false_iff_ne.2 fun e => hk (by subst e; decide)
 have e40 : (k == 40) = false := beq_eq_false_iff_ne.2 fun e => hk (by subst e; decide)
 have e41 : (k == 41) = false := beq_eq_false_iff_ne.2 fun e => hk (by subst e; decide)
 have e42 : (k == 42) = false := beq_eq_false_iff_ne.2 fun e => hk (by subst e; decide)
 clear h hk e
 go_enter Tryz.func104, Tryz.ntmps104
 go_wp2_with fail;go_ret;exact ⟨rfl, ze _ _⟩
theorem zcb (k : Int) (w : World) (v : Value) (L : List Int) (h : IRo w v L) (hl : L.length ≤ 1000000) (hL : Rng L) :
  Calls Tryz.prog 104 #[.int .i64 k, v] w (zM w (yD k L)) := by
 by_cases hk : k ∈ ([21, 22, 23, 24, 25, 26, 27, 28, 29, 30, 32, 33, 34, 35, 36, 37, 38, 39, 40, 41, 42] : List Int)
 ·simp only [List.mem_cons, List.not_mem_nil, or_false] at hk;rcases hk with rfl | rfl | rfl | rfl | rfl | rfl | rfl | rfl | rfl | rfl | rfl | rfl | rfl | rfl | rfl | rfl | rfl | rfl | rfl | rfl | rfl
  ·exact zor w v L h hl hL
  ·exact zos w v L h hl hL
  ·exact zot w v L h hl hL
  ·exact zou w v L h hl hL
  ·exact zov w v L h hl hL
  ·exact zow w v L h hl hL
  ·exact zox w v L h hl hL
  ·exact zoA w v L h hl hL
  ·exact zoB w v L h hl hL
  ·exact zoC w v L h hl hL
  ·exact zoD w v L h hl hL
  ·exact zoG w v L h hl hL
  ·exact zoy w v L h hl hL
  ·exact zoz w v L h hl hL
  ·exact zoE w v L h hl hL
  ·exact zoF w v L h hl hL
  ·exact zoH w v L h hl hL
  ·exact zoI w v L h hl hL
  ·exact zoL w v L h hl hL
  ·exact zoK w v L h hl hL
  ·exact zoJ w v L h hl hL
 ·exact zoM k hk w v L h
end Go.Proofs.YtfcgpphodacdmaaGreatDoor
