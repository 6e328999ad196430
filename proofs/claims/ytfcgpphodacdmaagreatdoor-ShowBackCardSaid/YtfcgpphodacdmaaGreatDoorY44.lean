/- Part of a proof: contracts of functions. -/
import Derived.Test.YtfcgpphodacdmaaGreatDoorY37
set_option maxRecDepth 100000
set_option maxHeartbeats 4000000
set_option linter.all false
namespace Go.Proofs.YtfcgpphodacdmaaGreatDoor
open Go.RowKit
theorem zp0 (w : World) (v : Value) (L : List LN) (i : Nat) (x : List UInt8) (b : Int) (ks : List Int) (T1 s0 : List UInt8) (ks0 : List Int) (pl : Int) (hkl : ks0.length ≤ 100000) (hat : AtN w v L i 18 x b (ks0 ++ [pl])) (h0 : CtF w 28 v pl s0) (b0 : (bs s0).size ≤ 1000000000) (hc1 : ∀ (kv : Value) (w1 : World), Below w.heap.size w w1 → IRo w1 kv ks0 → Calls Tryz.prog 42 #[kv, .func (.func 28) #[v] #[]] w1 (zS w1 T1)) (bT : (bs T1).size ≤ 1000000000) (bx : (bs x).size ≤ 1000000000) :
    Calls Tryz.prog 28 #[v, .int .i64 (i : Int)] w (zS w ([102, 117, 110, 99, 116, 105, 111, 110, 32] ++ x ++ [40] ++ T1 ++ [41, 32] ++ s0)) := by
  have hmf := hmf;obtain ⟨T, hT⟩ : ∃ T : List UInt8, T = [102, 117, 110, 99, 116, 105, 111, 110, 32] ++ x ++ [40] ++ T1 ++ [41, 32] ++ s0 := ⟨_, rfl⟩;rw [← hT];have HTT := za hT;clear hT;have zf0 : (9223372036854775807 < 9 + (bs x).size) = False := eq_false (by omega);have zf1 : (9223372036854775807 < 9 + (bs x).size + 1) = False := eq_false (by omega);have zf2 : (9223372036854775807 < 9 + (bs x).size + 1 + (bs T1).size) = False := eq_false (by omega);have zf3 : (9223372036854775807 < 9 + (bs x).size + 1 + (bs T1).size + 2) = False := eq_false (by omega);have zf4 : (9223372036854775807 < 9 + (bs x).size + 1 + (bs T1).size + 2 + (bs s0).size) = False := eq_false (by omega);obtain ⟨hrow, hl, hnm, u, hs, hu, hx, hb, hks⟩ := hat;have hlt : i < L.length := by have := hs.lt; have := yk u; omega
  have hat := hs.at;rw [List.getElem?_eq_getElem hlt] at hat;injection hat with hat;have KI := za (fun (w1 : World) (hb1 : Below w.heap.size w w1) => xC w1 v L (hrow.below hb1) hl hnm i hlt);obtain ⟨ao, cp, rfl⟩ := hrow.slice;obtain ⟨g, rfl, hg, hc⟩ := hrow.get (by omega);have hci := hc i hlt;rw [hat] at hci;rw [hat] at KI;simp only at hci;rw [hu, hx, hb] at hci;rw [hs.kidsF] at KI;have hi0 : ¬ (i : Int) < 0 := by omega
  have hi1 : ¬ (L.length : Int) ≤ (i : Int) := by omega
  generalize zZ u.kids (i + 1) = KL at *;generalize u.kids.length = kn at *;generalize (zs u.kids).length + 1 = sz at *;have HKS := za hks;obtain ⟨c0, c1, c2, c3, c4⟩ := hci;have B0 := ze w.heap.size w;clear hrow hl hnm hs hat hc hu hx hb hks;obtain ⟨wz0, wz1, wz2, wz3, wz4, wf0, wf1, wf2, wf3, wf4⟩ := yK w;obtain ⟨wa0, wa1, wa2, wa3, wa4⟩ := yL c0 c1 c2 c3 c4
  go_enter Tryz.func28, Tryz.ntmps28
  go_wp2_with fail
  go_region_with (first
    | (go_at_call 38; (with_reducible show Calls _ _ _ (World.drew (World.alloc _ _)) _); refine (KI.out _ (Below.alloc B0 (zd _) _).drew).mono ?_; rintro e wq ⟨kv, rfl, hko, hBq⟩; obtain ⟨d0, d1, d2, d3, d4⟩ := nd_kB hBq c0 c1 c2 c3 c4; obtain ⟨z0, z1, z2, z3, z4, f0, f1, f2, f3, f4⟩ := zf5 (xH hBq))
    | (go_at_call 38; refine (KI.out _ B0.drew).mono ?_; rintro e wq ⟨kv, rfl, hko, hBq⟩; obtain ⟨d0, d1, d2, d3, d4⟩ := nd_kA hBq c0 c1 c2 c3 c4; obtain ⟨qa0, qa1, qa2, qa3, qa4⟩ := yL d0 d1 d2 d3 d4; obtain ⟨qz0, qz1, qz2, qz3, qz4, qf0, qf1, qf2, qf3, qf4⟩ := yK wq))
  iterate 6
   ·
     first
       | (have NF1 := uc B0.drew hBq hko 18 (kn : Int) (sz : Int) x b
          rw [HKS.out] at NF1;generalize wq.alloc (.cells #[.int .i64 18, .int .i64 (kn : Int), .int .i64 (sz : Int), .string (bs x), .int .u64 b] 40) = wn at NF1 ⊢;generalize wq.heap.size = nb at NF1 ⊢)
       | (have NF1 := ud hBq hko (xH hBq) 18 (kn : Int) (sz : Int) x b
          rw [HKS.out] at NF1;generalize (((((wq.setCell ⟨w.heap.size, 0, none⟩ (.int .i64 18)).setCell ⟨w.heap.size, 1, none⟩ (.int .i64 (kn : Int))).setCell ⟨w.heap.size, 2, none⟩ (.int .i64 (sz : Int))).setCell ⟨w.heap.size, 3, none⟩ (.string (bs x))).setCell ⟨w.heap.size, 4, none⟩ (.int .u64 b)) = wn at NF1 ⊢;generalize w.heap.size = nb at NF1 ⊢)
     obtain ⟨n0, n1, n2, n3, n4, nk, nB⟩ := NF1;clear wz0 wf0 wa0 wz1 wf1 wa1 wz2 wf2 wa2 wz3 wf3 wa3 wz4 wf4 wa4 d0 d1 d2 d3 d4 c0 c1 c2 c3 c4;try clear qa0 qa1 qa2 qa3 qa4 qz0 qf0 qz1 qf1 qz2 qf2 qz3 qf3 qz4 qf4
     try clear z0 z1 z2 z3 z4 f0 f1 f2 f3 f4
     clear hko hBq wq;have H0 := za (fun w2 (hb2 : Below wn.heap.size wn w2) => h0 w2 (yc nB hb2));clear h0;obtain ⟨ak, ck, rfl⟩ := nk.slice;obtain ⟨gk, ok, rfl, hgk, hck, hkc⟩ := nk.get (by simp);have hlen : (ks0 ++ [pl]).length = ks0.length + 1 := by simp
     have k0 : wn.cell? ⟨gk, ok + ks0.length, none⟩ = some (.int .i64 pl) := by
       have := hkc ks0.length (by rw [hlen]; omega);rw [this]; simp
     have hp := nk.part 0 ks0.length ck (by rw [hlen]; omega) (by omega);have ht : ((ks0 ++ [pl]).drop 0).take ks0.length = ks0 := by simp
     rw [ht] at hp;have hp2 : IRo wn (.slice (some ⟨gk, ok, none⟩) ks0.length ck) ks0 := hp;have OC := za (fun w2 (hb2 : Below wn.heap.size wn w2) => hc1 _ w2 (yc nB hb2) (hp2.below hb2));rw [hlen] at hck ⊢;clear hkc nk hp hp2 ht hlen hc1;generalize ks0.length = m at *;have hm0 : (0 : Int) ≤ (m : Int) := by omega
     have hm1 : (m : Int) ≤ (ck : Int) := by omega
     have hm2 : (m : Int) < (m : Int) + 1 := by omega
     clear hck;have hmw : RowKit.wrap64 (m : Int) = (m : Int) := IntWalk.wrap64_in _ ⟨by omega, by omega⟩;clear hkl;have HK0 : Kp wn wn ⟨gk, ok + m, none⟩ (.int .i64 pl) ⟨nb, 3, none⟩ (.string (bs x)) ⟨nb, 3, none⟩ (.string (bs x)) ⟨nb, 3, none⟩ (.string (bs x)) ⟨nb, 3, none⟩ (.string (bs x)) := ⟨k0, n3, n3, n3, n3, ze _ _⟩;have HNB := za nB;clear nB;go_wp2_with fail
     go_region_held3 (fun wc => Kp wn wc ⟨gk, ok + m, none⟩ (.int .i64 pl) ⟨nb, 3, none⟩ (.string (bs x)) ⟨nb, 3, none⟩ (.string (bs x)) ⟨nb, 3, none⟩ (.string (bs x)) ⟨nb, 3, none⟩ (.string (bs x))) (first | assumption | exact yW (by assumption)) (first
       | (go_at_call 28; refine (H0.out _ (z8 (by assumption))).mono ?_; rintro e wq ⟨rfl, hBq⟩; have hSq := zU (w := wn) (a0 := ⟨gk, ok + m, none⟩) (a1 := ⟨nb, 3, none⟩) (a2 := ⟨nb, 3, none⟩) (a3 := ⟨nb, 3, none⟩) (a4 := ⟨nb, 3, none⟩) (by assumption) hBq; clear hBq)
       | (go_at_call 42; refine (OC.out _ (z8 (by assumption))).mono ?_; rintro e wq ⟨rfl, hBq⟩; have hSq := zU (w := wn) (a0 := ⟨gk, ok + m, none⟩) (a1 := ⟨nb, 3, none⟩) (a2 := ⟨nb, 3, none⟩) (a3 := ⟨nb, 3, none⟩) (a4 := ⟨nb, 3, none⟩) (by assumption) hBq; clear hBq))
     all_goals
       go_wp2_with fail;go_ret;exact ⟨by rw [HTT.out]; simp only [z7]; first | done | rfl, yc HNB.out (z8 (by assumption))⟩
end Go.Proofs.YtfcgpphodacdmaaGreatDoor
