/- Part of a proof: contracts of functions. -/
import Derived.Test.YtfcgpphodacdmaaGreatDoorY37
set_option maxRecDepth 100000
set_option maxHeartbeats 4000000
set_option linter.all false
namespace Go.Proofs.YtfcgpphodacdmaaGreatDoor
open Go.RowKit
theorem zol (w : World) (v : Value) (L : List LN) (i : Nat) (x : List UInt8) (b : Int) (ks : List Int) (T1 : List UInt8) (hat : AtN w v L i 20 x b ks) (hc1 : ∀ (kv : Value) (w1 : World), Below w.heap.size w w1 → IRo w1 kv ks → Calls Tryz.prog 41 #[v, kv, .string ⟨#[32]⟩] w1 (zS w1 T1)) (bT : (bs T1).size ≤ 1000000000) :
    Calls Tryz.prog 28 #[v, .int .i64 (i : Int)] w (zS w ([123, 32] ++ T1 ++ [125])) := by
  have CC := za hc1;have hmf := hmf;obtain ⟨T, hT⟩ : ∃ T : List UInt8, T = [123, 32] ++ T1 ++ [125] := ⟨_, rfl⟩;rw [← hT];have HTT := za hT;clear hT;have zf0 : (9223372036854775807 < 2 + (bs T1).size) = False := eq_false (by omega);have zf1 : (9223372036854775807 < 2 + (bs T1).size + 1) = False := eq_false (by omega);clear hc1;obtain ⟨hrow, hl, hnm, u, hs, hu, hx, hb, hks⟩ := hat;have hlt : i < L.length := by have := hs.lt; have := yk u; omega
  have hat := hs.at;rw [List.getElem?_eq_getElem hlt] at hat;injection hat with hat;have KI := za (fun (w1 : World) (hb1 : Below w.heap.size w w1) => xC w1 v L (hrow.below hb1) hl hnm i hlt);obtain ⟨ao, cp, rfl⟩ := hrow.slice;obtain ⟨g, rfl, hg, hc⟩ := hrow.get (by omega);have hci := hc i hlt;rw [hat] at hci;rw [hat] at KI;simp only at hci;rw [hu, hx, hb] at hci;rw [hs.kidsF] at KI;have hi0 : ¬ (i : Int) < 0 := by omega
  have hi1 : ¬ (L.length : Int) ≤ (i : Int) := by omega
  generalize zZ u.kids (i + 1) = KL at *;generalize u.kids.length = kn at *;generalize (zs u.kids).length + 1 = sz at *;have HKS := za hks;obtain ⟨c0, c1, c2, c3, c4⟩ := hci;have B0 := ze w.heap.size w;clear hrow hl hnm hs hat hc hu hx hb hks;obtain ⟨wz0, wz1, wz2, wz3, wz4, wf0, wf1, wf2, wf3, wf4⟩ := yK w;obtain ⟨wa0, wa1, wa2, wa3, wa4⟩ := yL c0 c1 c2 c3 c4
  go_enter Tryz.func28, Tryz.ntmps28
  go_wp2_with fail
  go_region_with (first
    | (go_at_call 38; (with_reducible show Calls _ _ _ (World.drew (World.alloc _ _)) _); refine (KI.out _ (Below.alloc B0 (zd _) _).drew).mono ?_; rintro e wq ⟨kv, rfl, hko, hBq⟩; obtain ⟨d0, d1, d2, d3, d4⟩ := nd_kB hBq c0 c1 c2 c3 c4; obtain ⟨z0, z1, z2, z3, z4, f0, f1, f2, f3, f4⟩ := zf5 (xH hBq))
    | (go_at_call 38; refine (KI.out _ B0.drew).mono ?_; rintro e wq ⟨kv, rfl, hko, hBq⟩; obtain ⟨d0, d1, d2, d3, d4⟩ := nd_kA hBq c0 c1 c2 c3 c4; obtain ⟨qa0, qa1, qa2, qa3, qa4⟩ := yL d0 d1 d2 d3 d4; obtain ⟨qz0, qz1, qz2, qz3, qz4, qf0, qf1, qf2, qf3, qf4⟩ := yK wq))
  all_goals
    first
      | (have NF1 := uc B0.drew hBq hko 20 (kn : Int) (sz : Int) x b
         rw [HKS.out] at NF1;generalize wq.alloc (.cells #[.int .i64 20, .int .i64 (kn : Int), .int .i64 (sz : Int), .string (bs x), .int .u64 b] 40) = wn at NF1 ⊢;generalize wq.heap.size = nb at NF1 ⊢)
      | (have NF1 := ud hBq hko (xH hBq) 20 (kn : Int) (sz : Int) x b
         rw [HKS.out] at NF1;generalize (((((wq.setCell ⟨w.heap.size, 0, none⟩ (.int .i64 20)).setCell ⟨w.heap.size, 1, none⟩ (.int .i64 (kn : Int))).setCell ⟨w.heap.size, 2, none⟩ (.int .i64 (sz : Int))).setCell ⟨w.heap.size, 3, none⟩ (.string (bs x))).setCell ⟨w.heap.size, 4, none⟩ (.int .u64 b)) = wn at NF1 ⊢;generalize w.heap.size = nb at NF1 ⊢)
    obtain ⟨n0, n1, n2, n3, n4, nk, nB⟩ := NF1;clear wz0 wf0 wa0 wz1 wf1 wa1 wz2 wf2 wa2 wz3 wf3 wa3 wz4 wf4 wa4 d0 d1 d2 d3 d4 c0 c1 c2 c3 c4;try clear qa0 qa1 qa2 qa3 qa4 qz0 qf0 qz1 qf1 qz2 qf2 qz3 qf3 qz4 qf4
    try clear z0 z1 z2 z3 z4 f0 f1 f2 f3 f4
    clear hko hBq wq;go_wp2_with fail;refine (CC.out _ wn nB nk).mono ?_;rintro e w2 ⟨rfl, hB2⟩;have HW := za (yc nB hB2);clear hB2;go_wp2_with fail;go_ret;exact ⟨by rw [HTT.out]; simp only [z7]; first | done | rfl, HW.out⟩
theorem zqs (w : World) (v : Value) (L : List LN) (i : Nat) (x : List UInt8) (b : Int) (ks : List Int) (T1 : List UInt8) (hat : AtN w v L i 3 x b ks) (hc1 : ∀ (kv : Value) (w1 : World), Below w.heap.size w w1 → IRo w1 kv ks → Calls Tryz.prog 42 #[kv, .func (.func 28) #[v] #[]] w1 (zS w1 T1)) (bT : (bs T1).size ≤ 1000000000) :
    Calls Tryz.prog 28 #[v, .int .i64 (i : Int)] w (zS w ([118, 97, 114, 32] ++ T1 ++ [59])) := by
  have CC := za hc1;have hmf := hmf;obtain ⟨T, hT⟩ : ∃ T : List UInt8, T = [118, 97, 114, 32] ++ T1 ++ [59] := ⟨_, rfl⟩;rw [← hT];have HTT := za hT;clear hT;have zf0 : (9223372036854775807 < 4 + (bs T1).size) = False := eq_false (by omega);have zf1 : (9223372036854775807 < 4 + (bs T1).size + 1) = False := eq_false (by omega);clear hc1;obtain ⟨hrow, hl, hnm, u, hs, hu, hx, hb, hks⟩ := hat;have hlt : i < L.length := by have := hs.lt; have := yk u; omega
  have hat := hs.at;rw [List.getElem?_eq_getElem hlt] at hat;injection hat with hat;have KI := za (fun (w1 : World) (hb1 : Below w.heap.size w w1) => xC w1 v L (hrow.below hb1) hl hnm i hlt);obtain ⟨ao, cp, rfl⟩ := hrow.slice;obtain ⟨g, rfl, hg, hc⟩ := hrow.get (by omega);have hci := hc i hlt;rw [hat] at hci;rw [hat] at KI;simp only at hci;rw [hu, hx, hb] at hci;rw [hs.kidsF] at KI;have hi0 : ¬ (i : Int) < 0 := by omega
  have hi1 : ¬ (L.length : Int) ≤ (i : Int) := by omega
  generalize zZ u.kids (i + 1) = KL at *;generalize u.kids.length = kn at *;generalize (zs u.kids).length + 1 = sz at *;have HKS := za hks;obtain ⟨c0, c1, c2, c3, c4⟩ := hci;have B0 := ze w.heap.size w;clear hrow hl hnm hs hat hc hu hx hb hks;obtain ⟨wz0, wz1, wz2, wz3, wz4, wf0, wf1, wf2, wf3, wf4⟩ := yK w;obtain ⟨wa0, wa1, wa2, wa3, wa4⟩ := yL c0 c1 c2 c3 c4
  go_enter Tryz.func28, Tryz.ntmps28
  go_wp2_with fail
  go_region_with (first
    | (go_at_call 38; (with_reducible show Calls _ _ _ (World.drew (World.alloc _ _)) _); refine (KI.out _ (Below.alloc B0 (zd _) _).drew).mono ?_; rintro e wq ⟨kv, rfl, hko, hBq⟩; obtain ⟨d0, d1, d2, d3, d4⟩ := nd_kB hBq c0 c1 c2 c3 c4; obtain ⟨z0, z1, z2, z3, z4, f0, f1, f2, f3, f4⟩ := zf5 (xH hBq))
    | (go_at_call 38; refine (KI.out _ B0.drew).mono ?_; rintro e wq ⟨kv, rfl, hko, hBq⟩; obtain ⟨d0, d1, d2, d3, d4⟩ := nd_kA hBq c0 c1 c2 c3 c4; obtain ⟨qa0, qa1, qa2, qa3, qa4⟩ := yL d0 d1 d2 d3 d4; obtain ⟨qz0, qz1, qz2, qz3, qz4, qf0, qf1, qf2, qf3, qf4⟩ := yK wq))
  all_goals
    first
      | (have NF1 := uc B0.drew hBq hko 3 (kn : Int) (sz : Int) x b
         rw [HKS.out] at NF1;generalize wq.alloc (.cells #[.int .i64 3, .int .i64 (kn : Int), .int .i64 (sz : Int), .string (bs x), .int .u64 b] 40) = wn at NF1 ⊢;generalize wq.heap.size = nb at NF1 ⊢)
      | (have NF1 := ud hBq hko (xH hBq) 3 (kn : Int) (sz : Int) x b
         rw [HKS.out] at NF1;generalize (((((wq.setCell ⟨w.heap.size, 0, none⟩ (.int .i64 3)).setCell ⟨w.heap.size, 1, none⟩ (.int .i64 (kn : Int))).setCell ⟨w.heap.size, 2, none⟩ (.int .i64 (sz : Int))).setCell ⟨w.heap.size, 3, none⟩ (.string (bs x))).setCell ⟨w.heap.size, 4, none⟩ (.int .u64 b)) = wn at NF1 ⊢;generalize w.heap.size = nb at NF1 ⊢)
    obtain ⟨n0, n1, n2, n3, n4, nk, nB⟩ := NF1;clear wz0 wf0 wa0 wz1 wf1 wa1 wz2 wf2 wa2 wz3 wf3 wa3 wz4 wf4 wa4 d0 d1 d2 d3 d4 c0 c1 c2 c3 c4;try clear qa0 qa1 qa2 qa3 qa4 qz0 qf0 qz1 qf1 qz2 qf2 qz3 qf3 qz4 qf4
    try clear z0 z1 z2 z3 z4 f0 f1 f2 f3 f4
    clear hko hBq wq;go_wp2_with fail;refine (CC.out _ wn nB nk).mono ?_;rintro e w2 ⟨rfl, hB2⟩;have HW := za (yc nB hB2);clear hB2;go_wp2_with fail;go_ret;exact ⟨by rw [HTT.out]; simp only [z7]; first | done | rfl, HW.out⟩
end Go.Proofs.YtfcgpphodacdmaaGreatDoor
