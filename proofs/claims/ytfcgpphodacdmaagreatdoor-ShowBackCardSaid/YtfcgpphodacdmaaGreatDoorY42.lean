/- Part of a proof: contracts of functions. -/
import Derived.Test.YtfcgpphodacdmaaGreatDoorY37
set_option maxRecDepth 100000
set_option maxHeartbeats 4000000
set_option linter.all false
namespace Go.Proofs.YtfcgpphodacdmaaGreatDoor
open Go.RowKit
theorem zoh (w : World) (v : Value) (L : List LN) (i : Nat) (x : List UInt8) (b : Int) (ks : List Int) (p0 : Int) (s0 : List UInt8) (hat : AtN w v L i 17 x b [p0]) (h0 : CtF w 28 v p0 s0) (b0 : (bs s0).size ≤ 1000000000) :
    Calls Tryz.prog 28 #[v, .int .i64 (i : Int)] w (zS w ([32, 102, 105, 110, 97, 108, 108, 121, 32] ++ s0)) := by
  obtain ⟨T, hT⟩ : ∃ T : List UInt8, T = [32, 102, 105, 110, 97, 108, 108, 121, 32] ++ s0 := ⟨_, rfl⟩;rw [← hT];have HTT := za hT;clear hT;have zf0 : (9223372036854775807 < 9 + (bs s0).size) = False := eq_false (by omega);obtain ⟨hrow, hl, hnm, u, hs, hu, hx, hb, hks⟩ := hat;have hlt : i < L.length := by have := hs.lt; have := yk u; omega
  have hat := hs.at;rw [List.getElem?_eq_getElem hlt] at hat;injection hat with hat;have KI := za (fun (w1 : World) (hb1 : Below w.heap.size w w1) => xC w1 v L (hrow.below hb1) hl hnm i hlt);obtain ⟨ao, cp, rfl⟩ := hrow.slice;obtain ⟨g, rfl, hg, hc⟩ := hrow.get (by omega);have hci := hc i hlt;rw [hat] at hci;rw [hat] at KI;simp only at hci;rw [hu, hx, hb] at hci;rw [hs.kidsF] at KI;have hi0 : ¬ (i : Int) < 0 := by omega
  have hi1 : ¬ (L.length : Int) ≤ (i : Int) := by omega
  generalize zZ u.kids (i + 1) = KL at *;generalize u.kids.length = kn at *;generalize (zs u.kids).length + 1 = sz at *;have HKS := za hks;obtain ⟨c0, c1, c2, c3, c4⟩ := hci;have B0 := ze w.heap.size w;clear hrow hl hnm hs hat hc hu hx hb hks;obtain ⟨wz0, wz1, wz2, wz3, wz4, wf0, wf1, wf2, wf3, wf4⟩ := yK w;obtain ⟨wa0, wa1, wa2, wa3, wa4⟩ := yL c0 c1 c2 c3 c4
  go_enter Tryz.func28, Tryz.ntmps28
  go_wp2_with fail
  go_region_with (first
    | (go_at_call 38; (with_reducible show Calls _ _ _ (World.drew (World.alloc _ _)) _); refine (KI.out _ (Below.alloc B0 (zd _) _).drew).mono ?_; rintro e wq ⟨kv, rfl, hko, hBq⟩; obtain ⟨d0, d1, d2, d3, d4⟩ := nd_kB hBq c0 c1 c2 c3 c4; obtain ⟨z0, z1, z2, z3, z4, f0, f1, f2, f3, f4⟩ := zf5 (xH hBq))
    | (go_at_call 38; refine (KI.out _ B0.drew).mono ?_; rintro e wq ⟨kv, rfl, hko, hBq⟩; obtain ⟨d0, d1, d2, d3, d4⟩ := nd_kA hBq c0 c1 c2 c3 c4; obtain ⟨qa0, qa1, qa2, qa3, qa4⟩ := yL d0 d1 d2 d3 d4; obtain ⟨qz0, qz1, qz2, qz3, qz4, qf0, qf1, qf2, qf3, qf4⟩ := yK wq))
  all_goals
    first
      | (have NF1 := uc B0.drew hBq hko 17 (kn : Int) (sz : Int) x b
         rw [HKS.out] at NF1;generalize wq.alloc (.cells #[.int .i64 17, .int .i64 (kn : Int), .int .i64 (sz : Int), .string (bs x), .int .u64 b] 40) = wn at NF1 ⊢;generalize wq.heap.size = nb at NF1 ⊢)
      | (have NF1 := ud hBq hko (xH hBq) 17 (kn : Int) (sz : Int) x b
         rw [HKS.out] at NF1;generalize (((((wq.setCell ⟨w.heap.size, 0, none⟩ (.int .i64 17)).setCell ⟨w.heap.size, 1, none⟩ (.int .i64 (kn : Int))).setCell ⟨w.heap.size, 2, none⟩ (.int .i64 (sz : Int))).setCell ⟨w.heap.size, 3, none⟩ (.string (bs x))).setCell ⟨w.heap.size, 4, none⟩ (.int .u64 b)) = wn at NF1 ⊢;generalize w.heap.size = nb at NF1 ⊢)
    obtain ⟨n0, n1, n2, n3, n4, nk, nB⟩ := NF1;clear wz0 wf0 wa0 wz1 wf1 wa1 wz2 wf2 wa2 wz3 wf3 wa3 wz4 wf4 wa4 d0 d1 d2 d3 d4 c0 c1 c2 c3 c4;try clear qa0 qa1 qa2 qa3 qa4 qz0 qf0 qz1 qf1 qz2 qf2 qz3 qf3 qz4 qf4
    try clear z0 z1 z2 z3 z4 f0 f1 f2 f3 f4
    clear hko hBq wq;obtain ⟨ak, ck, rfl⟩ := nk.slice;obtain ⟨gk, ok, rfl, hgk, hck, hkc⟩ := nk.get (by simp);have k0 : wn.cell? ⟨gk, ok, none⟩ = some (.int .i64 p0) := hkc 0 (by simp);clear hkc nk;have H0 := za (h0 wn nB);clear h0;go_wp2_with fail;refine H0.out.mono ?_;rintro e w2 ⟨rfl, hB2⟩;have HW := za (yc nB hB2);clear hB2;go_wp2_with fail;go_ret;exact ⟨by rw [HTT.out]; simp only [z7]; first | done | rfl, HW.out⟩
theorem zoi (w : World) (v : Value) (L : List LN) (i : Nat) (x : List UInt8) (b : Int) (ks : List Int) (hat : AtN w v L i 19 x b ks) :
    Calls Tryz.prog 28 #[v, .int .i64 (i : Int)] w (zS w x) := by
  obtain ⟨hrow, hl, hnm, u, hs, hu, hx, hb, hks⟩ := hat;have hlt : i < L.length := by have := hs.lt; have := yk u; omega
  have hat := hs.at;rw [List.getElem?_eq_getElem hlt] at hat;injection hat with hat;have KI := za (fun (w1 : World) (hb1 : Below w.heap.size w w1) => xC w1 v L (hrow.below hb1) hl hnm i hlt);obtain ⟨ao, cp, rfl⟩ := hrow.slice;obtain ⟨g, rfl, hg, hc⟩ := hrow.get (by omega);have hci := hc i hlt;rw [hat] at hci;rw [hat] at KI;simp only at hci;rw [hu, hx, hb] at hci;rw [hs.kidsF] at KI;have hi0 : ¬ (i : Int) < 0 := by omega
  have hi1 : ¬ (L.length : Int) ≤ (i : Int) := by omega
  generalize zZ u.kids (i + 1) = KL at *;generalize u.kids.length = kn at *;generalize (zs u.kids).length + 1 = sz at *;have HKS := za hks;obtain ⟨c0, c1, c2, c3, c4⟩ := hci;have B0 := ze w.heap.size w;clear hrow hl hnm hs hat hc hu hx hb hks;obtain ⟨wz0, wz1, wz2, wz3, wz4, wf0, wf1, wf2, wf3, wf4⟩ := yK w;obtain ⟨wa0, wa1, wa2, wa3, wa4⟩ := yL c0 c1 c2 c3 c4
  go_enter Tryz.func28, Tryz.ntmps28
  go_wp2_with fail
  go_region_with (first
    | (go_at_call 38; (with_reducible show Calls _ _ _ (World.drew (World.alloc _ _)) _); refine (KI.out _ (Below.alloc B0 (zd _) _).drew).mono ?_; rintro e wq ⟨kv, rfl, hko, hBq⟩; obtain ⟨d0, d1, d2, d3, d4⟩ := nd_kB hBq c0 c1 c2 c3 c4; obtain ⟨z0, z1, z2, z3, z4, f0, f1, f2, f3, f4⟩ := zf5 (xH hBq))
    | (go_at_call 38; refine (KI.out _ B0.drew).mono ?_; rintro e wq ⟨kv, rfl, hko, hBq⟩; obtain ⟨d0, d1, d2, d3, d4⟩ := nd_kA hBq c0 c1 c2 c3 c4; obtain ⟨qa0, qa1, qa2, qa3, qa4⟩ := yL d0 d1 d2 d3 d4; obtain ⟨qz0, qz1, qz2, qz3, qz4, qf0, qf1, qf2, qf3, qf4⟩ := yK wq))
  all_goals
    first
      | (have NF1 := uc B0.drew hBq hko 19 (kn : Int) (sz : Int) x b
         rw [HKS.out] at NF1;generalize wq.alloc (.cells #[.int .i64 19, .int .i64 (kn : Int), .int .i64 (sz : Int), .string (bs x), .int .u64 b] 40) = wn at NF1 ⊢;generalize wq.heap.size = nb at NF1 ⊢)
      | (have NF1 := ud hBq hko (xH hBq) 19 (kn : Int) (sz : Int) x b
         rw [HKS.out] at NF1;generalize (((((wq.setCell ⟨w.heap.size, 0, none⟩ (.int .i64 19)).setCell ⟨w.heap.size, 1, none⟩ (.int .i64 (kn : Int))).setCell ⟨w.heap.size, 2, none⟩ (.int .i64 (sz : Int))).setCell ⟨w.heap.size, 3, none⟩ (.string (bs x))).setCell ⟨w.heap.size, 4, none⟩ (.int .u64 b)) = wn at NF1 ⊢;generalize w.heap.size = nb at NF1 ⊢)
    obtain ⟨n0, n1, n2, n3, n4, nk, nB⟩ := NF1;clear wz0 wf0 wa0 wz1 wf1 wa1 wz2 wf2 wa2 wz3 wf3 wa3 wz4 wf4 wa4 d0 d1 d2 d3 d4 c0 c1 c2 c3 c4;try clear qa0 qa1 qa2 qa3 qa4 qz0 qf0 qz1 qf1 qz2 qf2 qz3 qf3 qz4 qf4
    try clear z0 z1 z2 z3 z4 f0 f1 f2 f3 f4
    clear hko hBq wq;go_wp2_with fail;go_ret;exact ⟨rfl, nB⟩
end Go.Proofs.YtfcgpphodacdmaaGreatDoor
