/- Part of a proof: contracts of functions. -/
import Derived.Test.YtfcgpphodacdmaaGreatDoorY4
set_option maxRecDepth 100000
set_option maxHeartbeats 4000000
set_option linter.all false
namespace Go.Proofs.YtfcgpphodacdmaaGreatDoor
open Go.RowKit
theorem zrk (w : World) (v : Value) (L : List Int) (h : IRo w v L) (hl : L.length ≤ 1000000) (hL : Rng L) :
  Calls Tryz.prog 64 #[.int .i64 8, v] w (zM w (zP 8 L)) := by
 show Calls Tryz.prog 64 #[.int .i64 8, v] w (zM w (zw L [4, 2]))
 have AR := za (xr h hl hL);obtain ⟨ao, cp, rfl⟩ := h.slice;clear h hL
 go_enter Tryz.func64, Tryz.ntmps64
 go_wp2_with fail;refine (AR.out [4, 2] _ _ ((ze _ _).alloc (zd _) _) (IRo.lit _ [4, 2] _ 2 rfl) (by decide) (by unfold Rng; decide)).mono ?_;rintro e w1 ⟨rfl, hB⟩;have HB := za hB;clear hB;go_wp2_with fail;go_ret;exact ⟨rfl, HB.out⟩
theorem zrl (w : World) (v : Value) (L : List Int) (h : IRo w v L) (hl : L.length ≤ 1000000) (hL : Rng L) :
  Calls Tryz.prog 64 #[.int .i64 9, v] w (zM w (zP 9 L)) := by
 show Calls Tryz.prog 64 #[.int .i64 9, v] w (zM w (zw L [2, 4]))
 have AR := za (xr h hl hL);obtain ⟨ao, cp, rfl⟩ := h.slice;clear h hL
 go_enter Tryz.func64, Tryz.ntmps64
 go_wp2_with fail;refine (AR.out [2, 4] _ _ ((ze _ _).alloc (zd _) _) (IRo.lit _ [2, 4] _ 2 rfl) (by decide) (by unfold Rng; decide)).mono ?_;rintro e w1 ⟨rfl, hB⟩;have HB := za hB;clear hB;go_wp2_with fail;go_ret;exact ⟨rfl, HB.out⟩
theorem zpT (w : World) (v : Value) (L : List Int) (h : IRo w v L) (hl : L.length ≤ 1000000) (hL : Rng L) :
  Calls Tryz.prog 64 #[.int .i64 10, v] w (zM w (zP 10 L)) := by
 show Calls Tryz.prog 64 #[.int .i64 10, v] w (zM w (zw L [16, 32, 32, 2]))
 have AR := za (xr h hl hL);obtain ⟨ao, cp, rfl⟩ := h.slice;clear h hL
 go_enter Tryz.func64, Tryz.ntmps64
 go_wp2_with fail;refine (AR.out [16, 32, 32, 2] _ _ ((ze _ _).alloc (zd _) _) (IRo.lit _ [16, 32, 32, 2] _ 4 rfl) (by decide) (by unfold Rng; decide)).mono ?_;rintro e w1 ⟨rfl, hB⟩;have HB := za hB;clear hB;go_wp2_with fail;go_ret;exact ⟨rfl, HB.out⟩
theorem zrm (w : World) (v : Value) (L : List Int) (h : IRo w v L) (hl : L.length ≤ 1000000) (hL : Rng L) :
  Calls Tryz.prog 64 #[.int .i64 4, v] w (zM w (zP 4 L)) := by
 show Calls Tryz.prog 64 #[.int .i64 4, v] w (zM w (if L.isEmpty = true then true else zw L [4]))
 have AR := za (xr h hl hL);obtain ⟨ao, cp, rfl⟩ := h.slice;clear h hL;have hE := isE L;cases hb : L.isEmpty
 ·rw [hb] at hE;rw [if_neg (by decide)]
  go_enter Tryz.func64, Tryz.ntmps64
  go_wp2_with fail;refine (AR.out [4] _ _ ((ze _ _).alloc (zd _) _) (IRo.lit _ [4] _ 1 rfl) (by decide) (by unfold Rng; decide)).mono ?_;rintro e w1 ⟨rfl, hB⟩;have HB := za hB;clear hB;go_wp2_with fail;go_ret;exact ⟨rfl, HB.out⟩
 ·rw [hb] at hE;rw [if_pos rfl]
  go_enter Tryz.func64, Tryz.ntmps64
  go_wp2_with fail;go_ret;exact ⟨rfl, ze _ _⟩
theorem zpU (w : World) (v : Value) (L : List Int) (h : IRo w v L) (hl : L.length ≤ 1000000) (hL : Rng L) :
  Calls Tryz.prog 64 #[.int .i64 13, v] w (zM w (zP 13 L)) := by
 show Calls Tryz.prog 64 #[.int .i64 13, v] w (zM w (if L.isEmpty = true then true else zw L [4]))
 have AR := za (xr h hl hL);obtain ⟨ao, cp, rfl⟩ := h.slice;clear h hL;have hE := isE L;cases hb : L.isEmpty
 ·rw [hb] at hE;rw [if_neg (by decide)]
  go_enter Tryz.func64, Tryz.ntmps64
  go_wp2_with fail;refine (AR.out [4] _ _ ((ze _ _).alloc (zd _) _) (IRo.lit _ [4] _ 1 rfl) (by decide) (by unfold Rng; decide)).mono ?_;rintro e w1 ⟨rfl, hB⟩;have HB := za hB;clear hB;go_wp2_with fail;go_ret;exact ⟨rfl, HB.out⟩
 ·rw [hb] at hE;rw [if_pos rfl]
  go_enter Tryz.func64, Tryz.ntmps64
  go_wp2_with fail;go_ret;exact ⟨rfl, ze _ _⟩
end Go.Proofs.YtfcgpphodacdmaaGreatDoor
