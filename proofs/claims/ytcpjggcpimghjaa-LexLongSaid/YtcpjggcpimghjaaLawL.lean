/- LexLong: many brackets that are open, and many bytes. -/
import Derived.Test.YtcpjggcpimghjaaLawA
namespace Go.Proofs.Ytcpjggcpimghjaa
open Go.RowKit
set_option linter.unusedVariables false

theorem u8info : (Try.prog.info? 5).map (fun i => (i.zero, i.size, i.bytes)) = some (some (.int .u8 0), 1, 1) := by kernel_rfl

theorem size_strOfNums (xs : List Int) : (strOfNums xs).size = xs.length := by
  unfold strOfNums
  simp [ByteArray.size]

theorem mod_ok (x m : Int) (hm : 0 < m) (h2 : m ≤ 10000) : ∃ n : Nat, (wrap64 (x.tmod m + m)).tmod m = n ∧ (n : Int) < m := by
  have a := Int.tmod_lt_of_pos x hm
  have b := Int.lt_tmod_of_pos x hm
  have e : wrap64 (x.tmod m + m) = x.tmod m + m := by unfold wrap64; omega
  rw [e, Int.tmod_eq_emod_of_nonneg (by omega)]
  have c := Int.emod_nonneg (x.tmod m + m) (show m ≠ 0 by omega)
  have d := Int.emod_lt_of_pos (x.tmod m + m) hm
  exact ⟨((x.tmod m + m) % m).toNat, by omega, by omega⟩

set_option maxRecDepth 100000 in
set_option maxHeartbeats 4000000 in
theorem law_LexLong (op : Int) (o0 : -9223372036854775808 ≤ op) (o1 : op ≤ 9223372036854775807) (bl : Int) (b0 : -9223372036854775808 ≤ bl) (b1 : bl ≤ 9223372036854775807) (wh : Int) (w0 : -9223372036854775808 ≤ wh) (w1 : wh ≤ 9223372036854775807) (w : World) (hm : MLw w) :
    Calls Try.prog 4 #[.int .i64 op, .int .i64 bl, .int .i64 wh] w fun e w' => e = .returned (.bool true) ∧ Below w.heap.size w w' := by
  obtain ⟨i0, hi, hz0, hz1, hz2⟩ := info_parts u8info
  have HII := Lib.hid hi
  have HZ0 := Lib.hid hz0
  have HZ1 := Lib.hid hz1
  have HZ2 := Lib.hid hz2
  clear hi hz0 hz1 hz2
  obtain ⟨n, hn, hn2⟩ := mod_ok op 260 (by decide) (by decide)
  obtain ⟨m, hmm, hm2⟩ := mod_ok bl 4200 (by decide) (by decide)
  have HN := Lib.hid hn
  have HM := Lib.hid hmm
  have HML := Lib.hid hm
  clear hn hmm hm
  go_enter Try.func4, Try.ntmps4
  go_wp2_with fail
  rw [HN.out, HM.out]
  go_loopw [7, 26] (fun bv kk wr => ∃ (k : Nat) (xs : List Int) (g cap : Nat), kk = .int .i64 (k : Int) ∧ k ≤ n ∧ xs.length = k ∧ bv = .slice (some ⟨g, 0, none⟩) k cap ∧ Hid (wr.ownsRow w.heap.size 5 1 (.slice (some ⟨g, 0, none⟩) k cap) k (xs.map (Value.int .u8))) ∧ Hid (Below w.heap.size w wr)) (fun _ kk _ => n - (intOf kk).toNat)
  case atStart =>
    refine ⟨0, [], w.heap.size, 0, rfl, Nat.zero_le _, rfl, rfl, ?_, (Below.refl _ w).alloc (Nat.le_refl _) _⟩
    exact ⟨by simp, .inr ⟨w.heap.size, 0, #[], rfl, Nat.le_refl _, heap_alloc_new w _, Nat.le_refl _, by decide, rfl, rfl⟩⟩
  case round =>
    obtain ⟨k, xs, g, cap, rfl, hk, hxs, rfl, HW, HB⟩ := hrel
    by_cases hlt : k < n
    · have hki : (k : Int) < (n : Int) := by omega
      have hy1 := Int.tmod_lt_of_pos wh (show (0 : Int) < 3 by decide)
      have hy2 := Int.lt_tmod_of_pos wh (show (0 : Int) < 3 by decide)
      have hidx : (((k : Int) + wh.tmod 3) % 3).toNat < (⟨#[123, 40, 91]⟩ : ByteArray).size := by show _ < 3; omega
      have hi := HII.out
      have hz0 := HZ0.out
      have hz1 := HZ1.out
      have hz2 := HZ2.out
      have hsz := HB.out.size
      go_wp2_with (at_builtin; refine wpList_append_own _ rfl _ _ 31 rfl w.heap.size 5 i0 _ 1 1 Try.underlying31 hi hz0 hz1 hz2 rfl (by decide) _ _ _ rfl (HW.out.alloc _) ⟨wr.heap.size, 0, none⟩ 1 1 [.int .u8 ((((⟨#[123, 40, 91]⟩ : ByteArray)[(((k : Int) + wh.tmod 3) % 3).toNat]'hidx).toNat : Nat) : Int)] rfl rfl ?c1 ?c2 ?c3 ?c4 ?c5 ?_)
      case c1 =>
        intro j u hj
        match j, hj with
        | 0, hj => simp at hj; subst hj; simp [Addr.add]
      case c2 => intro u hu; simp at hu; subst hu; rfl
      case c3 => unfold maxLen; omega
      case c4 => omega
      case c5 => simp; omega
      intro v' w3 hown' hgrow _
      have hbel : Below w.heap.size wr w3 := ((Below.refl _ wr).alloc hsz _).grown hgrow (by simp; omega) (fun k hk => (HW.out.lt k hk).1)
      have HB3 := Lib.hid (HB.out.trans hbel)
      have HO3 : Hid (w3.ownsRow w.heap.size 5 1 v' (k + 1) ((xs ++ [((((⟨#[123, 40, 91]⟩ : ByteArray)[(((k : Int) + wh.tmod 3) % 3).toNat]'hidx).toNat : Nat) : Int)]).map (Value.int .u8))) := by show World.ownsRow _ _ _ _ _ _ _; rw [List.map_append]; exact hown'
      clear hown' hgrow hbel hi hz0 hz1 hz2
      obtain ⟨g3, cap3, rfl, _, _⟩ := HO3.out.form (by omega)
      go_wp2_with fail
      exact ⟨⟨k + 1, xs ++ [((((⟨#[123, 40, 91]⟩ : ByteArray)[(((k : Int) + wh.tmod 3) % 3).toNat]'hidx).toNat : Nat) : Int)], g3, cap3, by go_num, by omega, by simp [hxs], rfl, HO3.out, HB3.out⟩, by simp [intOf]; omega⟩
    · have hki : ¬ (k : Int) < (n : Int) := by omega
      go_wp2_with fail
      go_loopw [7, 41] (fun bv kk wr => ∃ (j k : Nat) (xs : List Int) (g cap : Nat), kk = .int .i64 (j : Int) ∧ j ≤ m ∧ k ≤ j + 260 ∧ xs.length = k ∧ bv = .slice (some ⟨g, 0, none⟩) k cap ∧ Hid (wr.ownsRow w.heap.size 5 1 (.slice (some ⟨g, 0, none⟩) k cap) k (xs.map (Value.int .u8))) ∧ Hid (Below w.heap.size w wr)) (fun _ kk _ => m - (intOf kk).toNat)
      case atStart => exact ⟨0, k, xs, g, cap, rfl, Nat.zero_le _, by omega, hxs, rfl, HW.out, HB.out⟩
      case round =>
        clear HW HB
        rename_i wr hrel
        obtain ⟨j, k, xs, g, cap, rfl, hj, hkj, hxs, rfl, HW, HB⟩ := hrel
        by_cases hlt : j < m
        · have hki : (j : Int) < (m : Int) := by omega
          have hi := HII.out
          have hz0 := HZ0.out
          have hz1 := HZ1.out
          have hz2 := HZ2.out
          have hsz := HB.out.size
          go_wp2_with (at_builtin; refine wpList_append_own _ rfl _ _ 31 rfl w.heap.size 5 i0 _ 1 1 Try.underlying31 hi hz0 hz1 hz2 rfl (by decide) _ _ _ rfl (HW.out.alloc _) ⟨wr.heap.size, 0, none⟩ 1 1 [.int .u8 32] rfl rfl ?c1 ?c2 ?c3 ?c4 ?c5 ?_)
          case c1 =>
            intro j u hj
            match j, hj with
            | 0, hj => simp at hj; subst hj; simp [Addr.add]
          case c2 => intro u hu; simp at hu; subst hu; rfl
          case c3 => unfold maxLen; omega
          case c4 => omega
          case c5 => simp; omega
          intro v' w3 hown' hgrow _
          have hbel : Below w.heap.size wr w3 := ((Below.refl _ wr).alloc hsz _).grown hgrow (by simp; omega) (fun k hk => (HW.out.lt k hk).1)
          have HB3 := Lib.hid (HB.out.trans hbel)
          have HO3 : Hid (w3.ownsRow w.heap.size 5 1 v' (k + 1) ((xs ++ [32]).map (Value.int .u8))) := by show World.ownsRow _ _ _ _ _ _ _; rw [List.map_append]; exact hown'
          clear hown' hgrow hbel hi hz0 hz1 hz2
          obtain ⟨g3, cap3, rfl, _, _⟩ := HO3.out.form (by omega)
          go_wp2_with fail
          exact ⟨⟨j + 1, k + 1, xs ++ [32], g3, cap3, by go_num, by omega, by omega, by simp [hxs], rfl, HO3.out, HB3.out⟩, by simp [intOf]; omega⟩
        · have hki : ¬ (j : Int) < (m : Int) := by omega
          have hrun := run_convert_bytes_arg (P := Try.prog) wr 31 5 Try.underlying31 Try.underlying5 g 0 k cap xs hxs (fun i hi => by
            rw [Nat.zero_add, HW.out.cellAt i (by omega)]
            simp [List.getD_eq_getElem?_getD, List.getElem?_eq_getElem (show i < xs.length by omega)]) 9 Try.underlying9
          have hz : (strOfNums xs).size ≤ 5000 := by rw [size_strOfNums]; omega
          have T := Lib.hid (fun w hm => Tokens_any (strOfNums xs) (by omega) w hm)
          have R := Lib.hid (fun w => rTokens_any (strOfNums xs) (by omega) w)
          generalize strOfNums xs = s at *
          generalize lexL s.data.toList = x at *
          have HM0 := Lib.hid (HML.out.below HB.out)
          go_wp2_with fail
          refine (T.out _ HM0.out).mono ?_; rintro e w1 F1
          obtain ⟨v1, a, c, rfl⟩ := fp_form F1
          have HF1 := Lib.hid F1
          have HB1 := Lib.hid (fp_below F1)
          clear F1
          go_wp2_with fail
          refine (R.out _).mono ?_; rintro e w2 F2
          have HB2 := Lib.hid (fp_below F2)
          obtain ⟨v2, rfl, S⟩ := fp_two (p := true) HF1.out F2 HB2.out
          have HS := Lib.hid S
          clear S F2
          go_wp2_with fail
          refine HS.out.mono ?_; rintro e w3 ⟨rfl, hB⟩
          have HB3 := Lib.hid hB
          clear hB
          go_wp2_with fail
          have hm3 := ((HM0.out.below HB1.out).below HB2.out).below HB3.out
          refine (works_any _ hm3).mono ?_; rintro e w4 ⟨rfl, hB⟩
          have HB4 := Lib.hid hB
          clear hB hm3
          go_wp2_with fail
          go_ret
          have h0 := HB.out.size
          have h1 := HB1.out.size
          have h2 := HB2.out.size
          have h3 := HB3.out.size
          exact ⟨rfl, below_trans (below_trans (below_trans (below_trans HB.out HB1.out (by omega)) HB2.out (by omega)) HB3.out (by omega)) HB4.out (by omega)⟩
end Go.Proofs.Ytcpjggcpimghjaa
