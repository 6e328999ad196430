/- Part of a proof: contracts of functions. -/
import Derived.Test.YtfcgpphodacdmaaGreatDoorY4
set_option maxRecDepth 100000
set_option maxHeartbeats 4000000
set_option linter.all false
namespace Go.Proofs.YtfcgpphodacdmaaGreatDoor
open Go.RowKit
theorem zq6 (w : World) (v : Value) (L : List Int) (h : IRo w v L) (hl : L.length ≤ 1000000) (hL : Rng L) :
  Calls Tryz.prog 64 #[.int .i64 1, v] w (zM w (zP 1 L)) := by
 show Calls Tryz.prog 64 #[.int .i64 1, v] w (zM w (yt L 1))
 have AL := za (uh h hl hL);obtain ⟨ao, cp, rfl⟩ := h.slice;clear h hL
 go_enter Tryz.func64, Tryz.ntmps64
 go_wp2_with fail;refine (AL.out 1 (by decide)).mono ?_;rintro e w1 ⟨rfl, hB⟩;have HB := za hB;clear hB;go_wp2_with fail;go_ret;exact ⟨rfl, HB.out⟩
theorem zo6 (w : World) (v : Value) (L : List Int) (h : IRo w v L) (hl : L.length ≤ 1000000) (hL : Rng L) :
  Calls Tryz.prog 64 #[.int .i64 20, v] w (zM w (zP 20 L)) := by
 show Calls Tryz.prog 64 #[.int .i64 20, v] w (zM w (yt L 1))
 have AL := za (uh h hl hL);obtain ⟨ao, cp, rfl⟩ := h.slice;clear h hL
 go_enter Tryz.func64, Tryz.ntmps64
 go_wp2_with fail;refine (AL.out 1 (by decide)).mono ?_;rintro e w1 ⟨rfl, hB⟩;have HB := za hB;clear hB;go_wp2_with fail;go_ret;exact ⟨rfl, HB.out⟩
theorem zq7 (w : World) (v : Value) (L : List Int) (h : IRo w v L) (hl : L.length ≤ 1000000) (hL : Rng L) :
  Calls Tryz.prog 64 #[.int .i64 2, v] w (zM w (zP 2 L)) := by
 show Calls Tryz.prog 64 #[.int .i64 2, v] w (zM w (yt L 2))
 have AL := za (uh h hl hL);obtain ⟨ao, cp, rfl⟩ := h.slice;clear h hL
 go_enter Tryz.func64, Tryz.ntmps64
 go_wp2_with fail;refine (AL.out 2 (by decide)).mono ?_;rintro e w1 ⟨rfl, hB⟩;have HB := za hB;clear hB;go_wp2_with fail;go_ret;exact ⟨rfl, HB.out⟩
theorem zq8 (w : World) (v : Value) (L : List Int) (h : IRo w v L) (hl : L.length ≤ 1000000) (hL : Rng L) :
  Calls Tryz.prog 64 #[.int .i64 3, v] w (zM w (zP 3 L)) := by
 show Calls Tryz.prog 64 #[.int .i64 3, v] w (zM w (!L.isEmpty && yt L 128))
 have AL := za (uh h hl hL);obtain ⟨ao, cp, rfl⟩ := h.slice;clear h hL;by_cases h0 : L.length = 0
 ·have e : L = [] := List.eq_nil_of_length_eq_zero h0;subst e
  go_enter Tryz.func64, Tryz.ntmps64
  go_wp2_with fail;go_ret;exact ⟨rfl, ze _ _⟩
 ·have e : L.isEmpty = false := by cases L; exact absurd rfl h0; rfl
  have hp : (0 : Int) < (L.length : Int) := by omega
  have hz : ((L.length : Int) == 0) = false := beq_eq_false_iff_ne.2 (by omega);rw [e];show Calls _ _ _ _ (zM w (yt L 128))
  go_enter Tryz.func64, Tryz.ntmps64
  go_wp2_with fail;refine (AL.out 128 (by decide)).mono ?_;rintro e w1 ⟨rfl, hB⟩;have HB := za hB;clear hB;go_wp2_with fail;go_ret;exact ⟨rfl, HB.out⟩
theorem zq9 (w : World) (v : Value) (L : List Int) (h : IRo w v L) (hl : L.length ≤ 1000000) (hL : Rng L) :
  Calls Tryz.prog 64 #[.int .i64 7, v] w (zM w (zP 7 L)) := by
 show Calls Tryz.prog 64 #[.int .i64 7, v] w (zM w (if L.length = 3 then zw L [4, 2, 2] else zw L [4, 2]))
 have AR := za (xr h hl hL);obtain ⟨ao, cp, rfl⟩ := h.slice;clear h hL;by_cases h3 : L.length = 3
 ·rw [if_pos h3];have e3 : ((L.length : Int) == 3) = true := beq_iff_eq.2 (by omega);clear h3
  go_enter Tryz.func64, Tryz.ntmps64
  go_wp2_with fail;refine (AR.out [4, 2, 2] _ _ ((ze _ _).alloc (zd _) _) (IRo.lit _ [4, 2, 2] _ 3 rfl) (by decide) (by unfold Rng; decide)).mono ?_;rintro e w1 ⟨rfl, hB⟩;have HB := za hB;clear hB;go_wp2_with fail;go_ret;exact ⟨rfl, HB.out⟩
 ·rw [if_neg h3];have e3 : ((L.length : Int) == 3) = false := beq_eq_false_iff_ne.2 (by omega);clear h3
  go_enter Tryz.func64, Tryz.ntmps64
  go_wp2_with fail;refine (AR.out [4, 2] _ _ ((ze _ _).alloc (zd _) _) (IRo.lit _ [4, 2] _ 2 rfl) (by decide) (by unfold Rng; decide)).mono ?_;rintro e w1 ⟨rfl, hB⟩;have HB := za hB;clear hB;go_wp2_with fail;go_ret;exact ⟨rfl, HB.out⟩
end Go.Proofs.YtfcgpphodacdmaaGreatDoor
