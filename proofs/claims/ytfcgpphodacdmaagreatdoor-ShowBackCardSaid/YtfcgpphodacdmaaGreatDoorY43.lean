/- Part of a proof: contracts of functions. -/
import Derived.Test.YtfcgpphodacdmaaGreatDoorY37
set_option maxRecDepth 100000
set_option maxHeartbeats 4000000
set_option linter.all false
namespace Go.Proofs.YtfcgpphodacdmaaGreatDoor
open Go.RowKit
theorem zok (w : World) (v : Value) (L : List LN) (i : Nat) (x : List UInt8) (b : Int) (ks : List Int) (p0 : Int) (s0 q : List UInt8) (hat : AtN w v L i 30 x b [p0]) (h0 : CtF w 44 v p0 s0) (b0 : (bs s0).size ≤ 1000000000) (hq : ∀ w1, Below w.heap.size w w1 → Calls Tryz.prog 45 #[.string (bs x)] w1 (zS w1 q)) (bq : (bs q).size ≤ 1000000000) (bx : (bs x).size ≤ 1000000000) :
    Calls Tryz.prog 28 #[v, .int .i64 (i : Int)] w (zS w (q ++ [58, 32] ++ s0)) := by
  have hmf := hmf;obtain ⟨T, hT⟩ : ∃ T : List UInt8, T = q ++ [58, 32] ++ s0 := ⟨_, rfl⟩;rw [← hT];have HTT := za hT;clear hT;have zf0 : (9223372036854775807 < (bs q).size + 2) = False := eq_false (by omega);have zf1 : (9223372036854775807 < (bs q).size + 2 + (bs s0).size) = False := eq_false (by omega);obtain ⟨hrow, hl, hnm, u, hs, hu, hx, hb, hks⟩ := hat;have hlt : i < L.length := by have := hs.lt; have := yk u; omega
  have hat := hs.at;rw [List.getElem?_eq_getElem hlt] at hat;injection hat with hat;have KI := za (fun (w1 : World) (hb1 : Below w.heap.size w w1) => xC w1 v L (hrow.below hb1) hl hnm i hlt);obtain ⟨ao, cp, rfl⟩ := hrow.slice;obtain ⟨g, rfl, hg, hc⟩ := hrow.get (by omega);have hci := hc i hlt;rw [hat] at hci;rw [hat] at KI;simp only at hci;rw [hu, hx, hb] at hci;rw [hs.kidsF] at KI;have hi0 : ¬ (i : Int) < 0 := by omega
  have hi1 : ¬ (L.length : Int) ≤ (i : Int) := by omega
  generalize zZ u.kids (i + 1) = KL at *;generalize u.kids.length = kn at *;generalize (zs u.kids).length + 1 = sz at *;have HKS := za hks;obtain ⟨c0, c1, c2, c3, c4⟩ := hci;have B0 := ze w.heap.size w;clear hrow hl hnm hs hat hc hu hx hb hks;obtain ⟨wz0, wz1, wz2, wz3, wz4, wf0, wf1, wf2, wf3, wf4⟩ := yK w;obtain ⟨wa0, wa1, wa2, wa3, wa4⟩ := yL c0 c1 c2 c3 c4
  go_enter Tryz.func28, Tryz.ntmps28
  go_wp2_with fail
  go_region_with (first
    | (go_at_call 38; (with_reducible show Calls _ _ _ (World.drew (World.alloc _ _)) _); refine (KI.out _ (Below.alloc B0 (zd _) _).drew).mono ?_; rintro e wq ⟨kv, rfl, hko, hBq⟩; obtain ⟨d0, d1, d2, d3, d4⟩ := nd_kB hBq c0 c1 c2 c3 c4; obtain ⟨z0, z1, z2, z3, z4, f0, f1, f2, f3, f4⟩ := zf5 (xH hBq))
    | (go_at_call 38; refine (KI.out _ B0.drew).mono ?_; rintro e wq ⟨kv, rfl, hko, hBq⟩; obtain ⟨d0, d1, d2, d3, d4⟩ := nd_kA hBq c0 c1 c2 c3 c4; obtain ⟨qa0, qa1, qa2, qa3, qa4⟩ := yL d0 d1 d2 d3 d4; obtain ⟨qz0, qz1, qz2, qz3, qz4, qf0, qf1, qf2, qf3, qf4⟩ := yK wq))
  all_goals
    first
      | (have NF1 := uc B0.drew hBq hko 30 (kn : Int) (sz : Int) x b
         rw [HKS.out] at NF1;generalize wq.alloc (.cells #[.int .i64 30, .int .i64 (kn : Int), .int .i64 (sz : Int), .string (bs x), .int .u64 b] 40) = wn at NF1 ⊢;generalize wq.heap.size = nb at NF1 ⊢)
      | (have NF1 := ud hBq hko (xH hBq) 30 (kn : Int) (sz : Int) x b
         rw [HKS.out] at NF1;generalize (((((wq.setCell ⟨w.heap.size, 0, none⟩ (.int .i64 30)).setCell ⟨w.heap.size, 1, none⟩ (.int .i64 (kn : Int))).setCell ⟨w.heap.size, 2, none⟩ (.int .i64 (sz : Int))).setCell ⟨w.heap.size, 3, none⟩ (.string (bs x))).setCell ⟨w.heap.size, 4, none⟩ (.int .u64 b)) = wn at NF1 ⊢;generalize w.heap.size = nb at NF1 ⊢)
    obtain ⟨n0, n1, n2, n3, n4, nk, nB⟩ := NF1;clear wz0 wf0 wa0 wz1 wf1 wa1 wz2 wf2 wa2 wz3 wf3 wa3 wz4 wf4 wa4 d0 d1 d2 d3 d4 c0 c1 c2 c3 c4;try clear qa0 qa1 qa2 qa3 qa4 qz0 qf0 qz1 qf1 qz2 qf2 qz3 qf3 qz4 qf4
    try clear z0 z1 z2 z3 z4 f0 f1 f2 f3 f4
    clear hko hBq wq;have H0 := za (fun w2 (hb2 : Below wn.heap.size wn w2) => h0 w2 (yc nB hb2));have QC := za (fun w2 (hb2 : Below wn.heap.size wn w2) => hq w2 (yc nB hb2));clear h0 hq;obtain ⟨ak, ck, rfl⟩ := nk.slice;obtain ⟨gk, ok, rfl, hgk, hck, hkc⟩ := nk.get (by simp);have k0 : wn.cell? ⟨gk, ok, none⟩ = some (.int .i64 p0) := hkc 0 (by simp);clear hkc nk;have HK0 : Kp wn wn ⟨gk, ok, none⟩ (.int .i64 p0) ⟨nb, 3, none⟩ (.string (bs x)) ⟨nb, 3, none⟩ (.string (bs x)) ⟨nb, 3, none⟩ (.string (bs x)) ⟨nb, 3, none⟩ (.string (bs x)) := ⟨k0, n3, n3, n3, n3, ze _ _⟩;have HNB := za nB;clear nB;go_wp2_with fail
    go_region_held3 (fun wc => Kp wn wc ⟨gk, ok, none⟩ (.int .i64 p0) ⟨nb, 3, none⟩ (.string (bs x)) ⟨nb, 3, none⟩ (.string (bs x)) ⟨nb, 3, none⟩ (.string (bs x)) ⟨nb, 3, none⟩ (.string (bs x))) (first | assumption | exact yW (by assumption)) (first
      | (go_at_call 44; refine (H0.out _ (z8 (by assumption))).mono ?_; rintro e wq ⟨rfl, hBq⟩; have hSq := zU (w := wn) (a0 := ⟨gk, ok, none⟩) (a1 := ⟨nb, 3, none⟩) (a2 := ⟨nb, 3, none⟩) (a3 := ⟨nb, 3, none⟩) (a4 := ⟨nb, 3, none⟩) (by assumption) hBq; clear hBq)
      | (go_at_call 45; refine (QC.out _ (z8 (by assumption))).mono ?_; rintro e wq ⟨rfl, hBq⟩; have hSq := zU (w := wn) (a0 := ⟨gk, ok, none⟩) (a1 := ⟨nb, 3, none⟩) (a2 := ⟨nb, 3, none⟩) (a3 := ⟨nb, 3, none⟩) (a4 := ⟨nb, 3, none⟩) (by assumption) hBq; clear hBq))
    all_goals
      go_wp2_with fail;go_ret;exact ⟨by rw [HTT.out]; simp only [z7]; first | done | rfl, yc HNB.out (z8 (by assumption))⟩
end Go.Proofs.YtfcgpphodacdmaaGreatDoor
