/- Part of a proof: contracts of functions. -/
import Derived.Test.YtfcgpphodacdmaaGreatDoorY4
set_option maxRecDepth 100000
set_option maxHeartbeats 4000000
set_option linter.all false
namespace Go.Proofs.YtfcgpphodacdmaaGreatDoor
open Go.RowKit
theorem zrr (w : World) (v : Value) (L : List Int) (h : IRo w v L) (hl : L.length ≤ 1000000) (hL : Rng L) :
  Calls Tryz.prog 64 #[.int .i64 6, v] w (zM w (zP 6 L)) := by
 show Calls Tryz.prog 64 #[.int .i64 6, v] w (zM w (zw L [4]))
 have AR := za (xr h hl hL);obtain ⟨ao, cp, rfl⟩ := h.slice;clear h hL
 go_enter Tryz.func64, Tryz.ntmps64
 go_wp2_with fail;refine (AR.out [4] _ _ ((ze _ _).alloc (zd _) _) (IRo.lit _ [4] _ 1 rfl) (by decide) (by unfold Rng; decide)).mono ?_;rintro e w1 ⟨rfl, hB⟩;have HB := za hB;clear hB;go_wp2_with fail;go_ret;exact ⟨rfl, HB.out⟩
theorem zqb (w : World) (v : Value) (L : List Int) (h : IRo w v L) (hl : L.length ≤ 1000000) (hL : Rng L) :
  Calls Tryz.prog 64 #[.int .i64 14, v] w (zM w (zP 14 L)) := by
 show Calls Tryz.prog 64 #[.int .i64 14, v] w (zM w (zw L [4]))
 have AR := za (xr h hl hL);obtain ⟨ao, cp, rfl⟩ := h.slice;clear h hL
 go_enter Tryz.func64, Tryz.ntmps64
 go_wp2_with fail;refine (AR.out [4] _ _ ((ze _ _).alloc (zd _) _) (IRo.lit _ [4] _ 1 rfl) (by decide) (by unfold Rng; decide)).mono ?_;rintro e w1 ⟨rfl, hB⟩;have HB := za hB;clear hB;go_wp2_with fail;go_ret;exact ⟨rfl, HB.out⟩
theorem zqc (w : World) (v : Value) (L : List Int) (h : IRo w v L) (hl : L.length ≤ 1000000) (hL : Rng L) :
  Calls Tryz.prog 64 #[.int .i64 16, v] w (zM w (zP 16 L)) := by
 show Calls Tryz.prog 64 #[.int .i64 16, v] w (zM w (zw L [64]))
 have AR := za (xr h hl hL);obtain ⟨ao, cp, rfl⟩ := h.slice;clear h hL
 go_enter Tryz.func64, Tryz.ntmps64
 go_wp2_with fail;refine (AR.out [64] _ _ ((ze _ _).alloc (zd _) _) (IRo.lit _ [64] _ 1 rfl) (by decide) (by unfold Rng; decide)).mono ?_;rintro e w1 ⟨rfl, hB⟩;have HB := za hB;clear hB;go_wp2_with fail;go_ret;exact ⟨rfl, HB.out⟩
theorem zqd (w : World) (v : Value) (L : List Int) (h : IRo w v L) (hl : L.length ≤ 1000000) (hL : Rng L) :
  Calls Tryz.prog 64 #[.int .i64 17, v] w (zM w (zP 17 L)) := by
 show Calls Tryz.prog 64 #[.int .i64 17, v] w (zM w (zw L [64]))
 have AR := za (xr h hl hL);obtain ⟨ao, cp, rfl⟩ := h.slice;clear h hL
 go_enter Tryz.func64, Tryz.ntmps64
 go_wp2_with fail;refine (AR.out [64] _ _ ((ze _ _).alloc (zd _) _) (IRo.lit _ [64] _ 1 rfl) (by decide) (by unfold Rng; decide)).mono ?_;rintro e w1 ⟨rfl, hB⟩;have HB := za hB;clear hB;go_wp2_with fail;go_ret;exact ⟨rfl, HB.out⟩
theorem zqe (w : World) (v : Value) (L : List Int) (h : IRo w v L) (hl : L.length ≤ 1000000) (hL : Rng L) :
  Calls Tryz.prog 64 #[.int .i64 15, v] w (zM w (zP 15 L)) := by
 show Calls Tryz.prog 64 #[.int .i64 15, v] w (zM w (zw L [64, 768] || zw L [64, 256, 512]))
 have AR := za (xr h hl hL);obtain ⟨ao, cp, rfl⟩ := h.slice;clear h hL;obtain ⟨G, hG⟩ : ∃ G, G = (zw L [64, 768] || zw L [64, 256, 512]) := ⟨_, rfl⟩;rw [← hG];have HGG := za hG;clear hG
 go_enter Tryz.func64, Tryz.ntmps64
 go_wp2_with fail;refine (AR.out [64, 768] _ _ ((ze _ _).alloc (zd _) _) (IRo.lit _ [64, 768] _ 2 rfl) (by decide) (by unfold Rng; decide)).mono ?_;rintro e w1 ⟨rfl, hB⟩;have HB := za hB;have hz := hB.size;clear hB;cases hb : zw L [64, 768]
 ·go_wp2_with fail;refine (AR.out [64, 256, 512] _ _ (HB.out.alloc hz _) (IRo.lit _ [64, 256, 512] _ 3 rfl) (by decide) (by unfold Rng; decide)).mono ?_;rintro e w2 ⟨rfl, hB2⟩;have HB2 := za hB2;clear hB2;go_wp2_with fail;go_ret;exact ⟨by rw [HGG.out, hb]; first | done | rfl, HB2.out⟩
 ·go_wp2_with fail;go_ret;exact ⟨by rw [HGG.out, hb]; first | done | rfl, HB.out⟩
end Go.Proofs.YtfcgpphodacdmaaGreatDoor
