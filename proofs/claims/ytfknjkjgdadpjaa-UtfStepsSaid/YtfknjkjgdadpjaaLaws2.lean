/- UtfJoins, UtfSteps, UtfColumns. -/
import Derived.Test.YtfknjkjgdadpjaaLine
import Derived.Test.YtfknjkjgdadpjaaJoin
namespace Go.Proofs.Ytfknjkjgdadpjaa
open Go.RowKit
set_option linter.unusedVariables false

set_option maxRecDepth 100000 in
set_option maxHeartbeats 1000000 in
theorem law_UtfJoins (s : ByteArray) (hs : s.size ≤ 9223372036854775807) (s2 : ByteArray) (hs2 : s2.size ≤ 9223372036854775807) (w : World) :
    Calls Try.prog 7 #[.string s, .string s2] w fun e w' => e = .returned (.bool true) ∧ Below w.heap.size w w' := by
  have FW := Lib.hid (fun w => few_any s hs w)
  have FW2 := Lib.hid (fun w => few_any s2 hs2 w)
  have hz := fewS_le s
  have hz2 := fewS_le s2
  generalize fewS s = a at *
  generalize fewS s2 = b at *
  have hab : (a ++ b).size = a.size + b.size := ByteArray.size_append
  have HAB : Hid ((a ++ b).data.toList = a.data.toList ++ b.data.toList) := by show _ = _; simp
  have C := Lib.hid (fun w => check_any a (by omega) w)
  have C2 := Lib.hid (fun w => check_any b (by omega) w)
  have C3 := Lib.hid (fun w => check_any (a ++ b) (by omega) w)
  have K := Lib.hid (fun w => count_any a (by omega) w)
  have K2 := Lib.hid (fun w => count_any b (by omega) w)
  have K3 := Lib.hid (fun w => count_any (a ++ b) (by omega) w)
  rw [HAB.out] at C3 K3
  rw [show (a ++ b).size = (a.data.toList ++ b.data.toList).length by rw [List.length_append, list_size, list_size, hab]] at K3
  rw [← list_size a] at K
  rw [← list_size b] at K2
  have J := Lib.hid (@chkE_join a.data.toList b.data.toList)
  have JA := Lib.hid (@chkA_zero (a.data.toList ++ b.data.toList))
  have JS := Lib.hid (fun h : chkE a.data.toList = 0 => stp_join (A := a.data.toList) (B := b.data.toList) (chkE_zero.1 h))
  have R1 := Lib.hid (chkE_range a.data.toList)
  have R2 := Lib.hid (chkE_range b.data.toList)
  have sl1 : stp a.data.toList 0 a.data.toList.length ≤ 5000 := Nat.le_trans (stp_le a.data.toList a.data.toList.length _ 0 (Nat.le_refl _)) (by rw [list_size]; omega)
  have sl2 : stp b.data.toList 0 b.data.toList.length ≤ 5000 := Nat.le_trans (stp_le b.data.toList b.data.toList.length _ 0 (Nat.le_refl _)) (by rw [list_size]; omega)
  generalize chkE a.data.toList = e1 at *
  generalize chkE b.data.toList = e2 at *
  generalize chkE (a.data.toList ++ b.data.toList) = e3 at *
  generalize chkA a.data.toList = f1 at *
  generalize chkA b.data.toList = f2 at *
  generalize chkA (a.data.toList ++ b.data.toList) = f3 at *
  generalize stp a.data.toList 0 a.data.toList.length = n1 at *
  generalize stp b.data.toList 0 b.data.toList.length = n2 at *
  generalize stp (a.data.toList ++ b.data.toList) 0 (a.data.toList ++ b.data.toList).length = n3 at *
  rcases R1.out with rfl | rfl
  · rcases R2.out with rfl | rfl
    · have h3 := J.out rfl
      subst h3
      have h4 := JA.out rfl
      subst h4
      have h5 := JS.out rfl
      have hq : ((n3 : Int) == (n1 : Int) + (n2 : Int)) = true := by rw [h5, beq_iff_eq]; omega
      have H5 := Lib.hid h5
      clear h5
      clear R1 R2 J JA JS
      go_enter Try.func7, Try.ntmps7
      go_wp2_with fail
      refine (FW.out _).mono ?_; rintro e w' ⟨rfl, rfl⟩
      go_wp2_with fail
      refine (FW2.out _).mono ?_; rintro e w' ⟨rfl, rfl⟩
      go_wp2_with fail
      refine (C.out _).mono ?_; rintro e w' ⟨rfl, rfl⟩
      go_wp2_with fail
      refine (C2.out _).mono ?_; rintro e w' ⟨rfl, rfl⟩
      go_wp2_with fail
      refine (C3.out _).mono ?_; rintro e w' ⟨rfl, rfl⟩
      go_wp2_with fail
      refine (K3.out _).mono ?_; rintro e w' ⟨rfl, rfl⟩
      go_wp2_with fail
      refine (K.out _).mono ?_; rintro e w' ⟨rfl, rfl⟩
      go_wp2_with fail
      refine (K2.out _).mono ?_; rintro e w' ⟨rfl, rfl⟩
      go_wp2_with fail
      refine (works_any _).mono ?_; rintro e w1 ⟨rfl, hB1⟩
      go_wp2_with fail
      go_ret
      exact ⟨rfl, hB1⟩
    · have h3 := J.out rfl
      subst h3
      clear R1 R2 J JA JS
      go_enter Try.func7, Try.ntmps7
      go_wp2_with fail
      refine (FW.out _).mono ?_; rintro e w' ⟨rfl, rfl⟩
      go_wp2_with fail
      refine (FW2.out _).mono ?_; rintro e w' ⟨rfl, rfl⟩
      go_wp2_with fail
      refine (C.out _).mono ?_; rintro e w' ⟨rfl, rfl⟩
      go_wp2_with fail
      refine (C2.out _).mono ?_; rintro e w' ⟨rfl, rfl⟩
      go_wp2_with fail
      refine (C3.out _).mono ?_; rintro e w' ⟨rfl, rfl⟩
      go_wp2_with fail
      refine (works_any _).mono ?_; rintro e w1 ⟨rfl, hB1⟩
      go_wp2_with fail
      go_ret
      exact ⟨rfl, hB1⟩
  · clear R1 R2 J JA JS
    go_enter Try.func7, Try.ntmps7
    go_wp2_with fail
    refine (FW.out _).mono ?_; rintro e w' ⟨rfl, rfl⟩
    go_wp2_with fail
    refine (FW2.out _).mono ?_; rintro e w' ⟨rfl, rfl⟩
    go_wp2_with fail
    refine (C.out _).mono ?_; rintro e w' ⟨rfl, rfl⟩
    go_wp2_with fail
    refine (C2.out _).mono ?_; rintro e w' ⟨rfl, rfl⟩
    go_wp2_with fail
    refine (C3.out _).mono ?_; rintro e w' ⟨rfl, rfl⟩
    go_wp2_with fail
    refine (works_any _).mono ?_; rintro e w1 ⟨rfl, hB1⟩
    go_wp2_with fail
    go_ret
    exact ⟨rfl, hB1⟩

theorem extract_more (s : ByteArray) {k y : Nat} (h : k + y ≤ s.size) : s.extract 0 k ++ s.extract k (k + y) = s.extract 0 (k + y) := by
  apply ByteArray.ext
  apply Array.toList_inj.1
  have e : ∀ a b : ByteArray, (a ++ b).data.toList = a.data.toList ++ b.data.toList := by intro a b; simp
  rw [e, Lib.extract_data, Lib.extract_data, Lib.extract_data, List.drop_zero, Nat.sub_zero, Nat.sub_zero, Nat.add_sub_cancel_left]
  first | exact List.take_add | exact List.take_add.symm | exact (List.take_add ..).symm | simp [List.take_add]

set_option maxRecDepth 100000 in
set_option maxHeartbeats 2000000 in
theorem law_UtfSteps (s : ByteArray) (hs : s.size ≤ 9223372036854775807) (w : World) :
    Calls Try.prog 9 #[.string s] w fun e w' => e = .returned (.bool true) ∧ Below w.heap.size w w' := by
  have FW := Lib.hid (fun w => few_any s hs w)
  have hz := fewS_le s
  generalize fewS s = t at *
  have HL := Lib.hid (list_size t)
  have NO := Lib.hid (fun w => next_out t (by omega) t.size (.inr (Int.le_refl _)) w)
  have HW := Lib.hid (extract_all t)
  have H0 := Lib.hid (extract_none t)
  go_enter Try.func9, Try.ntmps9
  go_wp2_with fail
  refine (FW.out _).mono ?_; rintro e w' ⟨rfl, rfl⟩
  go_wp2_with fail
  go_loopw [3, 4] (fun v i wr => ∃ (k : Nat) (q : ByteArray), i = .int .i64 (k : Int) ∧ v = .string q ∧ k ≤ t.size ∧ q.size = k ∧ Hid (q = t.extract 0 k) ∧ Below w.heap.size w wr) (fun _ i _ => t.size - (intOf i).toNat)
  case atStart => exact ⟨0, ByteArray.empty, rfl, rfl, by omega, rfl, H0.out.symm, Below.refl _ _⟩
  case round =>
    rename_i wr hrel
    obtain ⟨k, q, rfl, rfl, hk, hqk, HQ, hB⟩ := hrel
    have HQK := Lib.hid hqk
    have hql : q.size ≤ 5000 := by omega
    clear hqk
    by_cases hlt : k < t.size
    · have N := Lib.hid (fun w => next_any t (by omega) k hlt w)
      have hsr := stepAt_range t.data.toList k
      have hin := step_in (L := t.data.toList) (k := k) (by rw [HL.out]; exact hlt)
      rw [HL.out] at hin
      have P := Lib.hid (fun w => put_any (signAt t.data.toList k) w)
      have hbody : q ++ t.extract k (k + stepAt t.data.toList k) = t.extract 0 (k + stepAt t.data.toList k) := by rw [HQ.out]; exact extract_more t hin
      have HBODY := Lib.hid hbody
      clear hbody
      have HSZ : Hid ((q ++ t.extract k (k + stepAt t.data.toList k)).size = k + stepAt t.data.toList k) := by
        show _ = _
        rw [ByteArray.size_append, HQK.out, ByteArray.size_extract]; omega
      have hsg := sign_range t.data.toList k
      by_cases hz0 : sizeAt t.data.toList k = 0
      · have hy : stepAt t.data.toList k = 1 := (at_zero hz0).2
        have hneg : signAt t.data.toList k < 0 := hsg.2.2.1.2 hz0
        rw [hy] at hin N HBODY HSZ
        generalize putS (signAt t.data.toList k) = ps at *
        generalize putE (signAt t.data.toList k) = pe at *
        generalize signAt t.data.toList k = x at *
        clear hsg hsr hy hz0
        go_wp2_with (first | (go_at_call 11; refine (N.out _).mono ?_; rintro e w' ⟨rfl, rfl⟩) | (go_at_call 16; refine (P.out _).mono ?_; rintro e w1 ⟨rfl, hB1⟩))
        refine ⟨⟨k + 1, q ++ t.extract k (k + 1), by go_num, rfl, by omega, HSZ.out, HBODY.out, below_trans hB hB1 hB.size⟩, by simp [intOf]; omega⟩
      · have hnn : ¬ signAt t.data.toList k < 0 := fun h => hz0 (hsg.2.2.1.1 h)
        obtain ⟨p1, p2⟩ := put_sign (L := t.data.toList) (k := k) (by rw [HL.out]; exact hlt) hz0
        have hpe : putE (signAt t.data.toList k) = 0 := by unfold putE; rw [if_neg p1]
        have hps : putS (signAt t.data.toList k) = t.extract k (k + stepAt t.data.toList k) := by
          apply ByteArray.ext
          apply Array.toList_inj.1
          rw [Lib.extract_data, Nat.add_sub_cancel_left]; exact p2
        rw [hpe, hps] at P
        generalize signAt t.data.toList k = x at *
        generalize stepAt t.data.toList k = y at *
        clear hsg p1 p2 hpe hps hz0
        go_wp2_with (first | (go_at_call 11; refine (N.out _).mono ?_; rintro e w' ⟨rfl, rfl⟩) | (go_at_call 16; refine (P.out _).mono ?_; rintro e w1 ⟨rfl, hB1⟩))
        refine ⟨⟨k + y, q ++ t.extract k (k + y), by go_num, rfl, by omega, HSZ.out, HBODY.out, below_trans hB hB1 hB.size⟩, by simp [intOf]; omega⟩
    · go_wp2_with fail
      refine (NO.out _).mono ?_; rintro e w' ⟨rfl, rfl⟩
      have hkk : k = t.size := by omega
      have hq2 : (q.toList == t.toList) = true := by rw [HQ.out, hkk, HW.out]; exact beq_self_eq_true _
      clear hkk
      go_wp2_with fail
      refine (works_any _).mono ?_; rintro e w1 ⟨rfl, hB1⟩
      go_wp2_with fail
      go_ret
      exact ⟨rfl, below_trans hB hB1 hB.size⟩

theorem clip_in {L : List UInt8} {k : Nat} (h : k ≤ L.length) : clip L (k : Int) = k := by
  unfold clip; rw [if_neg (by omega), if_neg (by omega)]; omega

set_option maxRecDepth 100000 in
set_option maxHeartbeats 2000000 in
theorem law_UtfColumns (s : ByteArray) (hs : s.size ≤ 9223372036854775807) (w : World) :
    Calls Try.prog 8 #[.string s] w fun e w' => e = .returned (.bool true) ∧ Below w.heap.size w w' := by
  have FW := Lib.hid (fun w => few_any s hs w)
  have hz := fewS_le s
  generalize fewS s = u at *
  by_cases hc : 300 < u.size
  · have hi : (300 : Int) < (u.size : Int) := by omega
    go_enter Try.func8, Try.ntmps8
    go_wp2_with fail
    refine (FW.out _).mono ?_; rintro e w' ⟨rfl, rfl⟩
    go_wp2_with fail
    have hsz : (u.extract 0 300).size ≤ 300 := by rw [ByteArray.size_extract]; omega
    generalize u.extract 0 300 = t at *
    have HL := Lib.hid (list_size t)
    go_loop [3, 4, 5] (fun l c i => ∃ k g m : Nat, i = .int .i64 (k : Int) ∧ l = .int .i64 ((g + 1 : Nat) : Int) ∧ c = .int .i64 ((m + 1 : Nat) : Int) ∧ k ≤ t.size ∧ g ≤ k ∧ m ≤ k ∧ Hid (g = lfs t.data.toList k ∧ m = stp t.data.toList (begI t.data.toList k) k ∧ onLine t.data.toList k)) (fun _ _ i => t.size - (intOf i).toNat)
    case atStart => exact ⟨0, 0, 0, rfl, rfl, rfl, by omega, by omega, by omega, rfl, by rw [stp_done (show 0 ≤ begI t.data.toList 0 from Nat.zero_le _)], onLine_zero _⟩
    case round =>
      obtain ⟨k, g, m, rfl, rfl, rfl, hk, hg, hm, HK⟩ := hrel
      by_cases hlt : k < t.size
      · have N := Lib.hid (fun w => next_any t (by omega) k hlt w)
        have LN := Lib.hid (fun w => line_at t (by omega) (k : Int) (by omega) (by omega) w)
        have e1 : lineI t.data.toList (k : Int) = ((g + 1 : Nat) : Int) := by unfold lineI; rw [clip_in (by rw [HL.out]; omega), ← HK.out.1]; omega
        have e2 : colI t.data.toList (k : Int) = ((m + 1 : Nat) : Int) := by unfold colI; rw [clip_in (by rw [HL.out]; omega), ← HK.out.2.1]; omega
        rw [e1, e2] at LN
        clear e1 e2
        have hsr := stepAt_range t.data.toList k
        have hin := step_in (L := t.data.toList) (k := k) (by rw [HL.out]; exact hlt)
        rw [HL.out] at hin
        have HBY := Lib.hid (by8_in hlt)
        have F1 := Lib.hid (@line_feed t.data.toList k)
        have F2 := Lib.hid (fun h => @line_same t.data.toList k h HK.out.2.2)
        have F3 := Lib.hid (@feed_one t.data.toList k)
        rw [HBY.out] at F1 F2 F3
        rw [← HK.out.1] at F1 F2
        rw [← HK.out.2.1] at F2
        by_cases hf : (t[k].toNat : Int) = 10
        · have hq : ((t[k].toNat : Int) == 10) = true := by rw [hf]; rfl
          have HR := Lib.hid (F1.out hf)
          have hy : 1 ≤ stepAt t.data.toList k := by omega
          generalize signAt t.data.toList k = x at *
          generalize stepAt t.data.toList k = y at *
          clear F1 F2 F3 hf HK
          go_wp2_with (first | (go_at_call 20; refine (LN.out _).mono ?_; rintro e w' ⟨rfl, rfl⟩) | (go_at_call 11; refine (N.out _).mono ?_; rintro e w' ⟨rfl, rfl⟩))
          go_round
          case rel => exact ⟨k + y, g + 1, 0, by go_num, by go_num, by go_num, by omega, by omega, by omega, HR.out.1.symm, HR.out.2.1.symm, HR.out.2.2⟩
          case measure => simp [intOf]; omega
        · have hq : ((t[k].toNat : Int) == 10) = false := by rw [beq_eq_false_iff_ne]; exact hf
          have HR := Lib.hid (F2.out hf)
          have hy : 1 ≤ stepAt t.data.toList k := by omega
          generalize signAt t.data.toList k = x at *
          generalize stepAt t.data.toList k = y at *
          clear F1 F2 F3 hf HK
          go_wp2_with (first | (go_at_call 20; refine (LN.out _).mono ?_; rintro e w' ⟨rfl, rfl⟩) | (go_at_call 11; refine (N.out _).mono ?_; rintro e w' ⟨rfl, rfl⟩))
          go_round
          case rel => exact ⟨k + y, g, m + 1, by go_num, by go_num, by go_num, by omega, by omega, by omega, HR.out.1.symm, HR.out.2.1.symm, HR.out.2.2⟩
          case measure => simp [intOf]; omega
      · go_wp2_with fail
        refine (works_any _).mono ?_; rintro e w1 ⟨rfl, hB1⟩
        go_wp2_with fail
        go_ret
        exact ⟨rfl, hB1⟩
  · have hi : ¬ (300 : Int) < (u.size : Int) := by omega
    go_enter Try.func8, Try.ntmps8
    go_wp2_with fail
    refine (FW.out _).mono ?_; rintro e w' ⟨rfl, rfl⟩
    go_wp2_with fail
    obtain ⟨t, rfl⟩ : ∃ t, t = u := ⟨_, rfl⟩
    have HL := Lib.hid (list_size t)
    go_loop [3, 4, 5] (fun l c i => ∃ k g m : Nat, i = .int .i64 (k : Int) ∧ l = .int .i64 ((g + 1 : Nat) : Int) ∧ c = .int .i64 ((m + 1 : Nat) : Int) ∧ k ≤ t.size ∧ g ≤ k ∧ m ≤ k ∧ Hid (g = lfs t.data.toList k ∧ m = stp t.data.toList (begI t.data.toList k) k ∧ onLine t.data.toList k)) (fun _ _ i => t.size - (intOf i).toNat)
    case atStart => exact ⟨0, 0, 0, rfl, rfl, rfl, by omega, by omega, by omega, rfl, by rw [stp_done (show 0 ≤ begI t.data.toList 0 from Nat.zero_le _)], onLine_zero _⟩
    case round =>
      obtain ⟨k, g, m, rfl, rfl, rfl, hk, hg, hm, HK⟩ := hrel
      by_cases hlt : k < t.size
      · have N := Lib.hid (fun w => next_any t (by omega) k hlt w)
        have LN := Lib.hid (fun w => line_at t (by omega) (k : Int) (by omega) (by omega) w)
        have e1 : lineI t.data.toList (k : Int) = ((g + 1 : Nat) : Int) := by unfold lineI; rw [clip_in (by rw [HL.out]; omega), ← HK.out.1]; omega
        have e2 : colI t.data.toList (k : Int) = ((m + 1 : Nat) : Int) := by unfold colI; rw [clip_in (by rw [HL.out]; omega), ← HK.out.2.1]; omega
        rw [e1, e2] at LN
        clear e1 e2
        have hsr := stepAt_range t.data.toList k
        have hin := step_in (L := t.data.toList) (k := k) (by rw [HL.out]; exact hlt)
        rw [HL.out] at hin
        have HBY := Lib.hid (by8_in hlt)
        have F1 := Lib.hid (@line_feed t.data.toList k)
        have F2 := Lib.hid (fun h => @line_same t.data.toList k h HK.out.2.2)
        have F3 := Lib.hid (@feed_one t.data.toList k)
        rw [HBY.out] at F1 F2 F3
        rw [← HK.out.1] at F1 F2
        rw [← HK.out.2.1] at F2
        by_cases hf : (t[k].toNat : Int) = 10
        · have hq : ((t[k].toNat : Int) == 10) = true := by rw [hf]; rfl
          have HR := Lib.hid (F1.out hf)
          have hy : 1 ≤ stepAt t.data.toList k := by omega
          generalize signAt t.data.toList k = x at *
          generalize stepAt t.data.toList k = y at *
          clear F1 F2 F3 hf HK
          go_wp2_with (first | (go_at_call 20; refine (LN.out _).mono ?_; rintro e w' ⟨rfl, rfl⟩) | (go_at_call 11; refine (N.out _).mono ?_; rintro e w' ⟨rfl, rfl⟩))
          go_round
          case rel => exact ⟨k + y, g + 1, 0, by go_num, by go_num, by go_num, by omega, by omega, by omega, HR.out.1.symm, HR.out.2.1.symm, HR.out.2.2⟩
          case measure => simp [intOf]; omega
        · have hq : ((t[k].toNat : Int) == 10) = false := by rw [beq_eq_false_iff_ne]; exact hf
          have HR := Lib.hid (F2.out hf)
          have hy : 1 ≤ stepAt t.data.toList k := by omega
          generalize signAt t.data.toList k = x at *
          generalize stepAt t.data.toList k = y at *
          clear F1 F2 F3 hf HK
          go_wp2_with (first | (go_at_call 20; refine (LN.out _).mono ?_; rintro e w' ⟨rfl, rfl⟩) | (go_at_call 11; refine (N.out _).mono ?_; rintro e w' ⟨rfl, rfl⟩))
          go_round
          case rel => exact ⟨k + y, g, m + 1, by go_num, by go_num, by go_num, by omega, by omega, by omega, HR.out.1.symm, HR.out.2.1.symm, HR.out.2.2⟩
          case measure => simp [intOf]; omega
      · go_wp2_with fail
        refine (works_any _).mono ?_; rintro e w1 ⟨rfl, hB1⟩
        go_wp2_with fail
        go_ret
        exact ⟨rfl, hB1⟩
end Go.Proofs.Ytfknjkjgdadpjaa
