/- Part of a proof: contracts of functions. -/
import Derived.Test.YtfcgpphodacdmaaGreatDoorY37
set_option maxRecDepth 100000
set_option maxHeartbeats 4000000
set_option linter.all false
namespace Go.Proofs.YtfcgpphodacdmaaGreatDoor
open Go.RowKit
def NRo (w : World) (v : Value) (L : List LN) : Prop :=
 (L = [] ∧ ∃ ao cap, v = .slice ao 0 cap) ∨ ∃ g o cap, g < w.heap.size ∧ v = .slice (some ⟨g, o, none⟩) L.length cap ∧ ∀ (i : Nat) (h : i < L.length), w.cell? ⟨g, o + i * 5, none⟩ = some (.int .i64 L[i].kind) ∧ w.cell? ⟨g, o + i * 5 + 1, none⟩ = some (.int .i64 (L[i].n : Int)) ∧ w.cell? ⟨g, o + i * 5 + 2, none⟩ = some (.int .i64 (L[i].size : Int)) ∧ w.cell? ⟨g, o + i * 5 + 3, none⟩ = some (.string (bs L[i].text)) ∧ w.cell? ⟨g, o + i * 5 + 4, none⟩ = some (.int .u64 L[i].bits)
theorem NRo.slice {w : World} {v : Value} {L : List LN} (h : NRo w v L) : ∃ ao cap, v = .slice ao L.length cap := by
 rcases h with ⟨rfl, ao, cap, h⟩ | ⟨g, o, cap, _, h, _⟩
 ·exact ⟨ao, cap, h⟩
 ·exact ⟨_, cap, h⟩
theorem NRo.get {w : World} {ao : Option Addr} {cap : Nat} {L : List LN} (h : NRo w (.slice ao L.length cap) L) (hl : 0 < L.length) : ∃ g o, ao = some ⟨g, o, none⟩ ∧ g < w.heap.size ∧ ∀ (i : Nat) (h : i < L.length), w.cell? ⟨g, o + i * 5, none⟩ = some (.int .i64 L[i].kind) ∧ w.cell? ⟨g, o + i * 5 + 1, none⟩ = some (.int .i64 (L[i].n : Int)) ∧ w.cell? ⟨g, o + i * 5 + 2, none⟩ = some (.int .i64 (L[i].size : Int)) ∧ w.cell? ⟨g, o + i * 5 + 3, none⟩ = some (.string (bs L[i].text)) ∧ w.cell? ⟨g, o + i * 5 + 4, none⟩ = some (.int .u64 L[i].bits) := by
 rcases h with ⟨h, _⟩ | ⟨g, o, cap', hg, hv, hc⟩
 ·rw [h] at hl; exact absurd hl (Nat.lt_irrefl 0)
 ·injection hv with h1 _ _;exact ⟨g, o, h1, hg, hc⟩
theorem xf.ro {w : World} {v : Value} {L : List LN} (h : xf w v L) : NRo w v L := by
 rcases h with h | ⟨g, cap, hg, hv, hc⟩
 ·exact .inl h
 ·refine .inr ⟨g, 0, cap, hg, hv, fun i hi => ?_⟩;have := hc i hi;rw [Nat.zero_add]; exact this
theorem zjh (w : World) (va vb : Value) (L : List LN) (ha : NRo w va L) (hb : NRo w vb L) (hl : L.length ≤ 100000) :
  Calls Tryz.prog 14 #[va, vb] w fun e w' => e = .returned (.bool true) ∧ Below w.heap.size w w' := by
 obtain ⟨aa, ca, rfl⟩ := ha.slice;obtain ⟨ab, cb, rfl⟩ := hb.slice;have HA := za ha;have HB := za hb;clear ha hb
 go_enter Tryz.func14, Tryz.ntmps14
 go_wp2_with fail
 go_loopg [4, 5] L.length (fun g2 rr ii wr => ∃ i : Nat, rr = .bool false ∧ ii = .int .i64 (i : Int) ∧ g2 = L.length - i ∧ i ≤ L.length ∧ Hid (Below w.heap.size w wr))
 case atStart => exact ⟨0, rfl, rfl, rfl, Nat.zero_le _, ze _ _⟩
 case round =>
  obtain ⟨i, rfl, rfl, rfl, hi, HW⟩ := hrel;by_cases hlt : i < L.length
  ·obtain ⟨ga, oa, rfl, hga, ka⟩ := HA.out.get (by omega);obtain ⟨gb, ob, rfl, hgb, kb⟩ := HB.out.get (by omega);obtain ⟨a0, a1, a2, a3, a4⟩ := ka i hlt;obtain ⟨b0, b1, b2, b3, b4⟩ := kb i hlt;have x0 := (HW.out.cell (p := ⟨ga, _, none⟩) hga).trans a0;have x1 := (HW.out.cell (p := ⟨ga, _, none⟩) hga).trans a1;have x2 := (HW.out.cell (p := ⟨ga, _, none⟩) hga).trans a2;have x3 := (HW.out.cell (p := ⟨ga, _, none⟩) hga).trans a3;have x4 := (HW.out.cell (p := ⟨ga, _, none⟩) hga).trans a4;have y0 := (HW.out.cell (p := ⟨gb, _, none⟩) hgb).trans b0;have y1 := (HW.out.cell (p := ⟨gb, _, none⟩) hgb).trans b1;have y2 := (HW.out.cell (p := ⟨gb, _, none⟩) hgb).trans b2;have y3 := (HW.out.cell (p := ⟨gb, _, none⟩) hgb).trans b3;have y4 := (HW.out.cell (p := ⟨gb, _, none⟩) hgb).trans b4;clear ka kb a0 a1 a2 a3 a4 b0 b1 b2 b3 b4;generalize L[i] = q at *;obtain ⟨qk, qn, qs, qx, qb⟩ := q;simp only at x0 x1 x2 x3 x4 y0 y1 y2 y3 y4;go_wp2_with fail
   go_quiet (fail)
   go_wp2_with fail
   go_roundg (L.length - (i + 1))
   case measure => omega
   case rel => exact ⟨i + 1, rfl, by simp, rfl, hlt, below_drewN HW.out _⟩
  ·go_wp2_with fail;go_ret;exact ⟨rfl, HW.out⟩
end Go.Proofs.YtfcgpphodacdmaaGreatDoor
