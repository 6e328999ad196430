/- Part of a proof: contracts of functions. -/
import Derived.Test.YtfcgpphodacdmaaGreatDoorY4
set_option maxRecDepth 100000
set_option maxHeartbeats 4000000
set_option linter.all false
namespace Go.Proofs.YtfcgpphodacdmaaGreatDoor
open Go.RowKit
theorem zn9 (w : World) (v : Value) (L : List Int) (h : IRo w v L) (hl : L.length ≤ 1000000) (hL : Rng L) :
  Calls Tryz.prog 64 #[.int .i64 18, v] w (zM w (zP 18 L)) := by
 show Calls Tryz.prog 64 #[.int .i64 18, v] w (zM w (!L.isEmpty && (yt (L.take (L.length - 1)) 1024 && zw (L.drop (L.length - 1)) [2048])))
 obtain ⟨ao, cp, rfl⟩ := h.slice;by_cases h0 : L.length = 0
 ·have e : L = [] := List.eq_nil_of_length_eq_zero h0;subst e
  go_enter Tryz.func64, Tryz.ntmps64
  go_wp2_with fail;go_ret;exact ⟨rfl, ze _ _⟩
 ·have e : L.isEmpty = false := by cases L; exact absurd rfl h0; rfl
  rw [e];obtain ⟨g, o, rfl, hg, hcap, hc⟩ := h.get (by omega);obtain ⟨m, hm⟩ : ∃ m, L.length = m + 1 := ⟨L.length - 1, by omega⟩;have p1 := h.part 0 m cp (by omega) (by omega);have p2 := h.part m 1 (cp - m) (by omega) (by omega);have q1 : (L.drop 0).take m = L.take m := rfl;have q2 : (L.drop m).take 1 = L.drop m := List.take_of_length_le (by rw [List.length_drop]; omega);rw [q1] at p1;rw [q2] at p2;have r1 : Rng (L.take m) := fun k hk => hL k (List.mem_of_mem_take hk)
  have r2 : Rng (L.drop m) := fun k hk => hL k (List.mem_of_mem_drop hk)
  have AL1 := za (uh p1 (by rw [List.length_take]; omega) r1);have AR2 := za (xr p2 (by rw [List.length_drop]; omega) r2);rw [hm] at hcap ⊢;rw [show m + 1 - 1 = m from rfl];obtain ⟨G, hG⟩ : ∃ G, G = (!false && (yt (L.take m) 1024 && zw (L.drop m) [2048])) := ⟨_, rfl⟩;rw [← hG];have HGG := za hG;clear hG;clear p1 p2 q1 q2 r1 r2 h hL e h0;have hm0 : (0 : Int) ≤ (m : Int) := by omega
  have hcap2 : (m : Int) ≤ (cp : Int) := by omega
  have hcap3 : (m : Int) + 1 ≤ (cp : Int) := by omega
  go_enter Tryz.func64, Tryz.ntmps64
  go_wp2_with fail;refine (AL1.out 1024 (by decide)).mono ?_;rintro e w1 ⟨rfl, hB⟩;have HB := za hB;have hz := hB.size;clear hB;cases hb : yt (L.take m) 1024
  ·go_wp2_with fail;go_ret;exact ⟨by rw [HGG.out, hb]; first | done | rfl, HB.out⟩
  ·go_wp2_with fail;refine (AR2.out [2048] _ _ (HB.out.alloc hz _) (IRo.lit _ [2048] _ 1 rfl) (by decide) (by unfold Rng; decide)).mono ?_;rintro e w2 ⟨rfl, hB2⟩;have HB2 := za hB2;clear hB2;go_wp2_with fail;go_ret;exact ⟨by rw [HGG.out, hb]; first | done | rfl, HB2.out⟩
theorem zoa (w : World) (v : Value) (L : List Int) (h : IRo w v L) (hl : L.length ≤ 1000000) (hL : Rng L) :
  Calls Tryz.prog 64 #[.int .i64 31, v] w (zM w (zP 31 L)) := by
 show Calls Tryz.prog 64 #[.int .i64 31, v] w (zM w (!L.isEmpty && (yt (L.take (L.length - 1)) 1024 && zw (L.drop (L.length - 1)) [2048])))
 obtain ⟨ao, cp, rfl⟩ := h.slice;by_cases h0 : L.length = 0
 ·have e : L = [] := List.eq_nil_of_length_eq_zero h0;subst e
  go_enter Tryz.func64, Tryz.ntmps64
  go_wp2_with fail;go_ret;exact ⟨rfl, ze _ _⟩
 ·have e : L.isEmpty = false := by cases L; exact absurd rfl h0; rfl
  rw [e];obtain ⟨g, o, rfl, hg, hcap, hc⟩ := h.get (by omega);obtain ⟨m, hm⟩ : ∃ m, L.length = m + 1 := ⟨L.length - 1, by omega⟩;have p1 := h.part 0 m cp (by omega) (by omega);have p2 := h.part m 1 (cp - m) (by omega) (by omega);have q1 : (L.drop 0).take m = L.take m := rfl;have q2 : (L.drop m).take 1 = L.drop m := List.take_of_length_le (by rw [List.length_drop]; omega);rw [q1] at p1;rw [q2] at p2;have r1 : Rng (L.take m) := fun k hk => hL k (List.mem_of_mem_take hk)
  have r2 : Rng (L.drop m) := fun k hk => hL k (List.mem_of_mem_drop hk)
  have AL1 := za (uh p1 (by rw [List.length_take]; omega) r1);have AR2 := za (xr p2 (by rw [List.length_drop]; omega) r2);rw [hm] at hcap ⊢;rw [show m + 1 - 1 = m from rfl];obtain ⟨G, hG⟩ : ∃ G, G = (!false && (yt (L.take m) 1024 && zw (L.drop m) [2048])) := ⟨_, rfl⟩;rw [← hG];have HGG := za hG;clear hG;clear p1 p2 q1 q2 r1 r2 h hL e h0;have hm0 : (0 : Int) ≤ (m : Int) := by omega
  have hcap2 : (m : Int) ≤ (cp : Int) := by omega
  have hcap3 : (m : Int) + 1 ≤ (cp : Int) := by omega
  go_enter Tryz.func64, Tryz.ntmps64
  go_wp2_with fail;refine (AL1.out 1024 (by decide)).mono ?_;rintro e w1 ⟨rfl, hB⟩;have HB := za hB;have hz := hB.size;clear hB;cases hb : yt (L.take m) 1024
  ·go_wp2_with fail;go_ret;exact ⟨by rw [HGG.out, hb]; first | done | rfl, HB.out⟩
  ·go_wp2_with fail;refine (AR2.out [2048] _ _ (HB.out.alloc hz _) (IRo.lit _ [2048] _ 1 rfl) (by decide) (by unfold Rng; decide)).mono ?_;rintro e w2 ⟨rfl, hB2⟩;have HB2 := za hB2;clear hB2;go_wp2_with fail;go_ret;exact ⟨by rw [HGG.out, hb]; first | done | rfl, HB2.out⟩
theorem zql (w : World) (v : Value) (L : List Int) (h : IRo w v L) (hl : L.length ≤ 1000000) (hL : Rng L) :
  Calls Tryz.prog 64 #[.int .i64 5, v] w (zM w (zP 5 L)) := by
 show Calls Tryz.prog 64 #[.int .i64 5, v] w (zM w (L.isEmpty))
 obtain ⟨ao, cp, rfl⟩ := h.slice;clear h hL;have hE := isE L;generalize L.isEmpty = b at *
 go_enter Tryz.func64, Tryz.ntmps64
 go_wp2_with fail;go_ret;exact ⟨rfl, ze _ _⟩
theorem zob (w : World) (v : Value) (L : List Int) (h : IRo w v L) (hl : L.length ≤ 1000000) (hL : Rng L) :
  Calls Tryz.prog 64 #[.int .i64 11, v] w (zM w (zP 11 L)) := by
 show Calls Tryz.prog 64 #[.int .i64 11, v] w (zM w (L.isEmpty))
 obtain ⟨ao, cp, rfl⟩ := h.slice;clear h hL;have hE := isE L;generalize L.isEmpty = b at *
 go_enter Tryz.func64, Tryz.ntmps64
 go_wp2_with fail;go_ret;exact ⟨rfl, ze _ _⟩
theorem zoc (w : World) (v : Value) (L : List Int) (h : IRo w v L) (hl : L.length ≤ 1000000) (hL : Rng L) :
  Calls Tryz.prog 64 #[.int .i64 12, v] w (zM w (zP 12 L)) := by
 show Calls Tryz.prog 64 #[.int .i64 12, v] w (zM w (L.isEmpty))
 obtain ⟨ao, cp, rfl⟩ := h.slice;clear h hL;have hE := isE L;generalize L.isEmpty = b at *
 go_enter Tryz.func64, Tryz.ntmps64
 go_wp2_with fail;go_ret;exact ⟨rfl, ze _ _⟩
theorem zod (w : World) (v : Value) (L : List Int) (h : IRo w v L) (hl : L.length ≤ 1000000) (hL : Rng L) :
  Calls Tryz.prog 64 #[.int .i64 19, v] w (zM w (zP 19 L)) := by
 show Calls Tryz.prog 64 #[.int .i64 19, v] w (zM w (L.isEmpty))
 obtain ⟨ao, cp, rfl⟩ := h.slice;clear h hL;have hE := isE L;generalize L.isEmpty = b at *
 go_enter Tryz.func64, Tryz.ntmps64
 go_wp2_with fail;go_ret;exact ⟨rfl, ze _ _⟩
end Go.Proofs.YtfcgpphodacdmaaGreatDoor
