/- The sign at a place, by the document's answer. -/
import Derived.Test.YtcpjggcpimghjaaUNext
import Derived.Test.YtcpjggcpimghjaaUPut
import Derived.LoopTactic
namespace Go.Proofs.Ytcpjggcpimghjaa
open Go.RowKit
set_option linter.unusedVariables false

/-- The first byte less what its kind has above the bits. -/
def offI (j : Nat) : Int := if j = 2 then 192 else if j = 3 then 224 else if j = 4 then 240 else 0
def gsA (L : List UInt8) (k : Nat) (u : Int) : Nat → Int
  | 0 => u
  | j + 1 => gsA L k u j * 64 + by8 L (k + (j + 1)) - 128
theorem gsA_is (L : List UInt8) (k j : Nat) (h1 : 1 ≤ j) (h4 : j ≤ 4) : gsA L k (by8 L k - offI j) (j - 1) = gsI L k j := by
  rcases (by omega : j = 1 ∨ j = 2 ∨ j = 3 ∨ j = 4) with rfl | rfl | rfl | rfl <;> unfold gsI offI <;> simp [gsA, n2, n3, n4] <;> omega
theorem gsA_bound (L : List UInt8) (k : Nat) {u : Int} (h0 : -256 ≤ u) (h1 : u < 256) {j : Nat} (hj : j ≤ 3) : -1000000000 ≤ gsA L k u j ∧ gsA L k u j ≤ 1000000000 := by
  have a1 := by8_lo L (k + 1); have a2 := by8_lo L (k + 2); have a3 := by8_lo L (k + 3)
  have b1 := by8_hi L (k + 1); have b2 := by8_hi L (k + 2); have b3 := by8_hi L (k + 3)
  rcases (by omega : j = 0 ∨ j = 1 ∨ j = 2 ∨ j = 3) with rfl | rfl | rfl | rfl <;> simp only [gsA, Nat.zero_add, Nat.reduceAdd] <;> omega

set_option maxRecDepth 100000 in
set_option maxHeartbeats 1000000 in
theorem guess_any (s : ByteArray) (j : Nat) (h1 : 1 ≤ j) (h4 : j ≤ 4) (hs : j ≤ s.size) (hm : s.size ≤ 9223372036854775807) (w : World) :
    Calls Try.prog 39 #[.string s, .int .i64 (j : Int)] w fun e w' => e = .returned (.int .i64 (gsI s.data.toList 0 j)) ∧ w = w' := by
  have h0 : 0 < s.size := by omega
  have hb0 : (0 : Int) ≤ (s[0].toNat : Int) := Int.natCast_nonneg _
  have hb1 : (s[0].toNat : Int) < 256 := by have := s[0].toNat_lt; omega
  have HB := Lib.hid (by8_in h0)
  have HG := Lib.hid (gsA_is s.data.toList 0 j h1 h4)
  have hu : -256 ≤ (s[0].toNat : Int) - offI j ∧ (s[0].toNat : Int) - offI j < 256 := by unfold offI; repeat' split
                                                                                         all_goals omega
  rw [HB.out] at HG
  have HO : Hid (offI j = if j = 2 then 192 else if j = 3 then 224 else if j = 4 then 240 else 0) := rfl
  generalize gsI s.data.toList 0 j = g at *
  generalize offI j = o at *
  rcases (by omega : j = 1 ∨ j = 2 ∨ j = 3 ∨ j = 4) with rfl | rfl | rfl | rfl
  all_goals
    have HO2 := Lib.hid (HO.out.trans (by rfl))
    obtain ⟨u, hu0⟩ : ∃ u, u = (s[0].toNat : Int) - o := ⟨_, rfl⟩
    rw [← hu0] at hu HG
    have HU := Lib.hid hu0
    clear hu0
    try rw [show ((1 : Nat) : Int) = 1 from rfl]
    go_enter Try.func39, Try.ntmps39
    go_wp2
  · go_loop [5, 6] (fun v i => ∃ t : Nat, i = .int .i64 ((t + 1 : Nat) : Int) ∧ t + 1 ≤ 1 ∧ v = .int .i64 (gsA s.data.toList 0 u t)) (fun _ i => 4 - (intOf i).toNat)
    case atStart => exact ⟨0, rfl, by omega, congrArg (Value.int .i64) (by show _ = u; rw [HU.out, HO2.out]; omega)⟩
    case round =>
      obtain ⟨t, rfl, ht, rfl⟩ := hrel
      have hr := gsA_bound s.data.toList 0 hu.1 hu.2 (show t ≤ 3 by omega)
      have hlt : ¬ t + 1 < 1 := by omega
      go_wp2
      go_ret
      exact ⟨ret_int (by rw [← HG.out, show 1 - 1 = t by omega]), rfl⟩
  · go_loop [5, 6] (fun v i => ∃ t : Nat, i = .int .i64 ((t + 1 : Nat) : Int) ∧ t + 1 ≤ 2 ∧ v = .int .i64 (gsA s.data.toList 0 u t)) (fun _ i => 4 - (intOf i).toNat)
    case atStart => exact ⟨0, rfl, by omega, congrArg (Value.int .i64) (by show _ = u; rw [HU.out, HO2.out]; simp)⟩
    case round =>
      obtain ⟨t, rfl, ht, rfl⟩ := hrel
      have hr := gsA_bound s.data.toList 0 hu.1 hu.2 (show t ≤ 3 by omega)
      by_cases hlt : t + 1 < 2
      · have hin : t + 1 < s.size := by omega
        have c0 : (0 : Int) ≤ (s[t + 1].toNat : Int) := Int.natCast_nonneg _
        have c1 : (s[t + 1].toNat : Int) < 256 := by have := s[t + 1].toNat_lt; omega
        have HBJ := Lib.hid (by8_in hin)
        have HA : Hid (gsA s.data.toList 0 u (t + 1) = gsA s.data.toList 0 u t * 64 + by8 s.data.toList (0 + (t + 1)) - 128) := rfl
        rw [Nat.zero_add, HBJ.out] at HA
        go_wp2
        refine ⟨⟨t + 1, by go_num, by omega, ?_⟩, by simp [intOf]; omega⟩
        rw [HA.out]
      · go_wp2
        go_ret
        exact ⟨ret_int (by rw [← HG.out, show 2 - 1 = t by omega]), rfl⟩
  · go_loop [5, 6] (fun v i => ∃ t : Nat, i = .int .i64 ((t + 1 : Nat) : Int) ∧ t + 1 ≤ 3 ∧ v = .int .i64 (gsA s.data.toList 0 u t)) (fun _ i => 4 - (intOf i).toNat)
    case atStart => exact ⟨0, rfl, by omega, congrArg (Value.int .i64) (by show _ = u; rw [HU.out, HO2.out]; simp)⟩
    case round =>
      obtain ⟨t, rfl, ht, rfl⟩ := hrel
      have hr := gsA_bound s.data.toList 0 hu.1 hu.2 (show t ≤ 3 by omega)
      by_cases hlt : t + 1 < 3
      · have hin : t + 1 < s.size := by omega
        have c0 : (0 : Int) ≤ (s[t + 1].toNat : Int) := Int.natCast_nonneg _
        have c1 : (s[t + 1].toNat : Int) < 256 := by have := s[t + 1].toNat_lt; omega
        have HBJ := Lib.hid (by8_in hin)
        have HA : Hid (gsA s.data.toList 0 u (t + 1) = gsA s.data.toList 0 u t * 64 + by8 s.data.toList (0 + (t + 1)) - 128) := rfl
        rw [Nat.zero_add, HBJ.out] at HA
        go_wp2
        refine ⟨⟨t + 1, by go_num, by omega, ?_⟩, by simp [intOf]; omega⟩
        rw [HA.out]
      · go_wp2
        go_ret
        exact ⟨ret_int (by rw [← HG.out, show 3 - 1 = t by omega]), rfl⟩
  · go_loop [5, 6] (fun v i => ∃ t : Nat, i = .int .i64 ((t + 1 : Nat) : Int) ∧ t + 1 ≤ 4 ∧ v = .int .i64 (gsA s.data.toList 0 u t)) (fun _ i => 4 - (intOf i).toNat)
    case atStart => exact ⟨0, rfl, by omega, congrArg (Value.int .i64) (by show _ = u; rw [HU.out, HO2.out]; simp)⟩
    case round =>
      obtain ⟨t, rfl, ht, rfl⟩ := hrel
      have hr := gsA_bound s.data.toList 0 hu.1 hu.2 (show t ≤ 3 by omega)
      by_cases hlt : t + 1 < 4
      · have hin : t + 1 < s.size := by omega
        have c0 : (0 : Int) ≤ (s[t + 1].toNat : Int) := Int.natCast_nonneg _
        have c1 : (s[t + 1].toNat : Int) < 256 := by have := s[t + 1].toNat_lt; omega
        have HBJ := Lib.hid (by8_in hin)
        have HA : Hid (gsA s.data.toList 0 u (t + 1) = gsA s.data.toList 0 u t * 64 + by8 s.data.toList (0 + (t + 1)) - 128) := rfl
        rw [Nat.zero_add, HBJ.out] at HA
        go_wp2
        refine ⟨⟨t + 1, by go_num, by omega, ?_⟩, by simp [intOf]; omega⟩
        rw [HA.out]
      · go_wp2
        go_ret
        exact ⟨ret_int (by rw [← HG.out, show 4 - 1 = t by omega]), rfl⟩

theorem by8_extract {s : ByteArray} {a b i : Nat} (hb : b ≤ s.size) (hi : a + i < b) : by8 (s.extract a b).data.toList i = by8 s.data.toList (a + i) := by
  unfold by8
  rw [Lib.extract_data]
  congr 2
  rw [List.getD_eq_getElem?_getD, List.getD_eq_getElem?_getD, List.getElem?_take_of_lt (by omega), List.getElem?_drop]
theorem gsI_extract {s : ByteArray} {k j : Nat} (h1 : 1 ≤ j) (h4 : j ≤ 4) (h : k + j ≤ s.size) : gsI (s.extract k (k + j)).data.toList 0 j = gsI s.data.toList k j := by
  rcases (by omega : j = 1 ∨ j = 2 ∨ j = 3 ∨ j = 4) with rfl | rfl | rfl | rfl
  · unfold gsI; rw [if_pos rfl, if_pos rfl, by8_extract h (by omega)]; rfl
  · unfold gsI; rw [if_neg (by decide), if_pos rfl, if_neg (by decide), if_pos rfl, by8_extract h (by omega), by8_extract h (by omega)]; rfl
  · unfold gsI; rw [if_neg (by decide), if_neg (by decide), if_pos rfl, if_neg (by decide), if_neg (by decide), if_pos rfl, by8_extract h (by omega), by8_extract h (by omega), by8_extract h (by omega)]; rfl
  · unfold gsI; rw [if_neg (by decide), if_neg (by decide), if_neg (by decide), if_neg (by decide), if_neg (by decide), if_neg (by decide), by8_extract h (by omega), by8_extract h (by omega), by8_extract h (by omega), by8_extract h (by omega)]; rfl

set_option maxRecDepth 100000 in
set_option maxHeartbeats 1000000 in
theorem rnext_out (s : ByteArray) (hs : s.size ≤ 9223372036854775807) (i : Int) (h : i < 0 ∨ (s.size : Int) ≤ i) (w : World) :
    Calls Try.prog 25 #[.string s, .int .i64 i] w fun e w' => e = .returned (.tuple #[.int .i64 (-1), .int .i64 0]) ∧ w = w' := by
  rcases h with h | h
  · go_enter Try.func25, Try.ntmps25
    go_wp2
    go_ret2
    exact ⟨rfl, rfl⟩
  · have h2 : ¬ i < 0 := by omega
    go_enter Try.func25, Try.ntmps25
    go_wp2
    go_ret2
    exact ⟨rfl, rfl⟩

set_option maxRecDepth 100000 in
set_option maxHeartbeats 2000000 in
theorem rnext_any (s : ByteArray) (hs : s.size ≤ 9223372036854775807) (k : Nat) (hk : k < s.size) (w : World) :
    Calls Try.prog 25 #[.string s, .int .i64 (k : Int)] w fun e w' => e = .returned (.tuple #[.int .i64 (signAt s.data.toList k), .int .i64 (stepAt s.data.toList k : Nat)]) ∧ Below w.heap.size w w' := by
  have HL := Lib.hid (list_size s)
  have Z := Lib.hid (@at_zero s.data.toList k)
  have SS := Lib.hid (fun j : Nat => @sign_size s.data.toList k j)
  have MA := Lib.hid (fun j : Nat => @match_any s.data.toList k j)
  have SR : Hid (0 ≤ sizeAt s.data.toList k ∧ sizeAt s.data.toList k ≤ 4) := siz4_range _ _ _ _
  have SI := Lib.hid (step_in (L := s.data.toList) (k := k) (by rw [HL.out]; exact hk))
  generalize signAt s.data.toList k = x at *
  generalize hy : stepAt s.data.toList k = y at *
  have HY := Lib.hid hy
  clear hy
  have hd1 : decide (s.size ≤ k) = false := decide_eq_false (by omega)
  have hd2 : decide ((k : Int) < 0) = false := decide_eq_false (by omega)
  go_enter Try.func25, Try.ntmps25
  go_wp2_with fail
  go_loopw [6] (fun i wr => ∃ j : Nat, i = .int .i64 ((j + 1 : Nat) : Int) ∧ j ≤ 4 ∧ Hid (∀ t : Nat, 1 ≤ t → t ≤ j → sizeAt s.data.toList k ≠ (t : Int)) ∧ Below w.heap.size w wr) (fun i _ => 5 - (intOf i).toNat)
  case atStart => exact ⟨0, rfl, by omega, fun t h1 h2 => absurd h2 (by omega), Below.refl _ _⟩
  case round =>
    rename_i wr hrel
    obtain ⟨j, rfl, hj, HN, hB⟩ := hrel
    by_cases hin : j + 1 ≤ 4 ∧ k + (j + 1) ≤ s.size
    · obtain ⟨g1, g2⟩ := hin
      have GA := Lib.hid (fun w => guess_any (s.extract k (k + (j + 1))) (j + 1) (by omega) g1 (by rw [ByteArray.size_extract]; omega) (by rw [ByteArray.size_extract]; omega) w)
      rw [gsI_extract (by omega) g1 g2] at GA
      have MJ := Lib.hid (MA.out (j + 1) (by omega) g1 (by rw [HL.out]; exact g2))
      have g3 : ((j + 1 : Nat) : Int) ≤ (s.size : Int) - (k : Int) := by omega
      have P := Lib.hid (fun w => rput_any (gsI s.data.toList k (j + 1)) w)
      have PE : Hid (putE (gsI s.data.toList k (j + 1)) = if sizeI (gsI s.data.toList k (j + 1)) = 0 then 2 else 0) := rfl
      have PL : Hid ((putS (gsI s.data.toList k (j + 1))).data.toList = putL (gsI s.data.toList k (j + 1))) := rfl
      have SJ := Lib.hid (SS.out (j + 1) (by omega) g1)
      have HX : Hid ((s.extract k (k + (j + 1))).data.toList = (s.data.toList.drop k).take (j + 1)) := by show _ = _; rw [Lib.extract_data, Nat.add_sub_cancel_left]
      have T1 := Lib.hid (Lib.toList_data (s.extract k (k + (j + 1))))
      have T2 := Lib.hid (Lib.toList_data (putS (gsI s.data.toList k (j + 1))))
      generalize gsI s.data.toList k (j + 1) = g at *
      by_cases h0 : sizeI g = 0
      · have hne : (putE g == 0) = false := by rw [PE.out, if_pos h0]; rfl
        have hnz : sizeAt s.data.toList k ≠ ((j + 1 : Nat) : Int) := fun h => (MJ.out.2 h).1 h0
        have HNZ := Lib.hid hnz
        clear hnz
        generalize putE g = pe at *
        generalize putS g = pt at *
        go_wp2_with (first | (go_at_call 39; refine (GA.out _).mono ?_; rintro e w' ⟨rfl, rfl⟩) | (go_at_call 40; refine (P.out _).mono ?_; rintro e w1 ⟨rfl, hB1⟩))
        go_roundw
        case rel =>
          refine ⟨j + 1, by go_num, by omega, ?_, below_trans hB hB1 hB.size⟩
          intro t h1 h2
          by_cases e : t ≤ j
          · exact HN.out t h1 e
          · obtain rfl : t = j + 1 := by omega
            exact HNZ.out
        case measure => simp [intOf]; omega
      · have hne : (putE g == 0) = true := by rw [PE.out, if_neg h0]; rfl
        generalize putE g = pe at *
        by_cases hm : putL g = (s.data.toList.drop k).take (j + 1)
        · have hq : ((putS g).toList == (s.extract k (k + (j + 1))).toList) = true := by rw [T1.out, T2.out, PL.out, HX.out, hm]; exact beq_self_eq_true _
          have E := Lib.hid (SJ.out (MJ.out.1 ⟨h0, hm⟩))
          generalize putS g = pt at *
          go_wp2_with (first | (go_at_call 39; refine (GA.out _).mono ?_; rintro e w' ⟨rfl, rfl⟩) | (go_at_call 40; refine (P.out _).mono ?_; rintro e w1 ⟨rfl, hB1⟩))
          go_ret2
          exact ⟨ret_ints E.out.1.symm (by rw [E.out.2]; rfl), below_trans hB hB1 hB.size⟩
        · have hq : ((putS g).toList == (s.extract k (k + (j + 1))).toList) = false := by rw [T1.out, T2.out, PL.out, HX.out, beq_eq_false_iff_ne]; exact hm
          have hnz : sizeAt s.data.toList k ≠ ((j + 1 : Nat) : Int) := fun h => hm (MJ.out.2 h).2
          have HNZ := Lib.hid hnz
          clear hnz
          generalize putS g = pt at *
          go_wp2_with (first | (go_at_call 39; refine (GA.out _).mono ?_; rintro e w' ⟨rfl, rfl⟩) | (go_at_call 40; refine (P.out _).mono ?_; rintro e w1 ⟨rfl, hB1⟩))
          go_roundw
          case rel =>
            refine ⟨j + 1, by go_num, by omega, ?_, below_trans hB hB1 hB.size⟩
            intro t h1 h2
            by_cases e : t ≤ j
            · exact HN.out t h1 e
            · obtain rfl : t = j + 1 := by omega
              exact HNZ.out
          case measure => simp [intOf]; omega
    · have hz : sizeAt s.data.toList k = 0 := by
        by_cases h0 : sizeAt s.data.toList k = 0
        · exact h0
        · exfalso
          have hy : y = (sizeAt s.data.toList k).toNat := by rw [← HY.out]; unfold stepAt; rw [if_neg h0]
          have hr := SR.out
          have hi := SI.out
          rw [HL.out] at hi
          have := HN.out (sizeAt s.data.toList k).toNat (by omega) (by omega)
          omega
      have E := Lib.hid (Z.out hz)
      clear hz
      by_cases g1 : j + 1 ≤ 4
      · have g3 : ¬ ((j + 1 : Nat) : Int) ≤ (s.size : Int) - (k : Int) := by omega
        go_wp2_with fail
        go_ret2
        exact ⟨ret_ints E.out.1.symm (by rw [E.out.2]; rfl), hB⟩
      · go_wp2_with fail
        go_ret2
        exact ⟨ret_ints E.out.1.symm (by rw [E.out.2]; rfl), hB⟩
end Go.Proofs.Ytcpjggcpimghjaa
