/- Lines and columns, by the program and by the document's answer. -/
import Derived.Test.YtfknjkjgdadpjaaWalk
import Derived.LoopTactic
import Derived.Lib.Bytealg
namespace Go.Proofs.Ytfknjkjgdadpjaa
open Go.RowKit
set_option linter.unusedVariables false

theorem lfs_count (L : List UInt8) : ∀ k, k ≤ L.length → lfs L k = Lib.countByte (L.take k) 10
  | 0, _ => rfl
  | k + 1, h => by
    have ih := lfs_count L k (by omega)
    have hk : k < L.length := by omega
    have hg : L.getD k 0 = L[k] := by rw [List.getD_eq_getElem?_getD, List.getElem?_eq_getElem hk]; rfl
    rw [List.take_succ_eq_append_getElem hk]
    unfold Lib.countByte at ih ⊢
    rw [List.count_append, ← ih]
    show (if by8 L k = 10 then lfs L k + 1 else lfs L k) = _
    unfold by8
    rw [hg]
    by_cases e : L[k] = 10
    · rw [if_pos (by rw [e]; rfl), e]; rfl
    · rw [if_neg (fun h => e (by rw [← UInt8.toNat_inj]; have : (10 : UInt8).toNat = 10 := rfl; omega)), List.count_eq_zero.2 (by simpa using fun h => e h.symm)]; rfl

set_option maxRecDepth 100000 in
set_option maxHeartbeats 1000000 in
theorem strCount_any (s : ByteArray) (hs : s.size ≤ 1000000) (w : World) :
    Calls Try.prog 30 #[.string s, .string ⟨#[10]⟩] w fun e w' => e = .returned (.int .i64 (lfs s.data.toList s.size : Nat)) ∧ w = w' := by
  have HC := Lib.hid (lfs_count s.data.toList s.size (by rw [list_size]; exact Nat.le_refl _))
  rw [List.take_of_length_le (by rw [list_size]; exact Nat.le_refl _)] at HC
  go_enter Try.func30, Try.ntmps30
  go_wp2
  rw [run_callFunc_extern Try.func33 (by kernel_rfl) (by kernel_rfl) (by kernel_rfl) (e := Extern.BytealgCount.count) (by kernel_rfl), Lib.run_countString]
  simp only [Result.andThen]
  rw [Oper.upon_value]
  go_wp2
  go_ret
  exact ⟨ret_int (by rw [HC.out]; rfl), rfl⟩

set_option maxRecDepth 100000 in
set_option maxHeartbeats 1000000 in
theorem lastByte_any (s : ByteArray) (hs : s.size ≤ 1000000) (w : World) :
    Calls Try.prog 31 #[.string s, .int .u8 10] w fun e w' => e = .returned (.int .i64 ((begI s.data.toList s.size : Nat) - 1 : Int)) ∧ w = w' := by
  have hbl := begI_le s.data.toList s.size
  obtain ⟨z, hz⟩ : ∃ z, z = begI s.data.toList s.size := ⟨_, rfl⟩
  rw [← hz] at hbl ⊢
  have HZ := Lib.hid hz
  clear hz
  go_enter Try.func31, Try.ntmps31
  go_wp2
  go_loop [5] (fun i => ∃ k : Nat, i = .int .i64 ((k : Int) - 1) ∧ k ≤ s.size ∧ Hid (z = begI s.data.toList k)) (fun i => (intOf i + 1).toNat)
  case atStart => exact ⟨s.size, rfl, Nat.le_refl _, HZ.out⟩
  case round =>
    obtain ⟨k, rfl, hk, HC⟩ := hrel
    cases k with
    | zero =>
      have HC0 : Hid (z = 0) := HC.out
      go_wp2
      go_ret
      exact ⟨ret_int (by rw [HC0.out]; rfl), rfl⟩
    | succ k =>
      have hks : k < s.size := by omega
      have HB := Lib.hid (by8_in hks)
      have e : (((k + 1 : Nat) : Int) - 1) = (k : Int) := by omega
      rw [e]
      clear e
      have HD : Hid (begI s.data.toList (k + 1) = if by8 s.data.toList k = 10 then k + 1 else begI s.data.toList k) := rfl
      rw [HB.out] at HD
      by_cases ht : (s[k].toNat : Int) = 10
      · have hq : ((s[k].toNat : Int) == 10) = true := by rw [ht]; rfl
        have HR := Lib.hid (HC.out.trans (HD.out.trans (if_pos ht)))
        clear ht
        go_wp2
        go_ret
        exact ⟨ret_int (by rw [HR.out]; omega), rfl⟩
      · have hq : ((s[k].toNat : Int) == 10) = false := by rw [beq_eq_false_iff_ne]; exact ht
        have HR := Lib.hid (HC.out.trans (HD.out.trans (if_neg ht)))
        clear ht
        go_wp2
        go_round
        case rel => exact ⟨k, by go_num, by omega, HR.out⟩
        case measure => simp [intOf]

set_option maxRecDepth 100000 in
set_option maxHeartbeats 1000000 in
theorem lastIndex_any (s : ByteArray) (hs : s.size ≤ 1000000) (w : World) :
    Calls Try.prog 29 #[.string s, .int .u8 10] w fun e w' => e = .returned (.int .i64 ((begI s.data.toList s.size : Nat) - 1 : Int)) ∧ w = w' := by
  have C := Lib.hid (fun w => lastByte_any s hs w)
  generalize (((begI s.data.toList s.size : Nat) : Int) - 1) = z at *
  go_enter Try.func29, Try.ntmps29
  go_wp2_with (go_at_call 31; refine (C.out _).mono ?_; rintro e w' ⟨rfl, rfl⟩)
  go_ret
  exact ⟨rfl, rfl⟩
theorem extract_all (s : ByteArray) : s.extract 0 s.size = s := by
  apply ByteArray.ext
  apply Array.toList_inj.1
  rw [Lib.extract_data, List.drop_zero, Nat.sub_zero]
  exact List.take_of_length_le (by rw [list_size]; exact Nat.le_refl _)
theorem extract_none (s : ByteArray) : s.extract 0 0 = ByteArray.empty := by
  apply ByteArray.ext
  apply Array.toList_inj.1
  rw [Lib.extract_data]; rfl

theorem begI_extract (s : ByteArray) (a : Nat) (ha : a ≤ s.size) : ∀ k, k ≤ a → begI (s.extract 0 a).data.toList k = begI s.data.toList k ∧ lfs (s.extract 0 a).data.toList k = lfs s.data.toList k
  | 0, _ => ⟨rfl, rfl⟩
  | k + 1, h => by
    obtain ⟨i1, i2⟩ := begI_extract s a ha k (by omega)
    have e : by8 (s.extract 0 a).data.toList k = by8 s.data.toList k := by rw [by8_extract ha (by omega), Nat.zero_add]
    constructor
    · show (if _ = _ then _ else _) = (if _ = _ then _ else _)
      rw [e, i1]
    · show (if _ = _ then _ else _) = (if _ = _ then _ else _)
      rw [e, i2]

set_option maxRecDepth 100000 in
set_option maxHeartbeats 1000000 in
theorem line_at (s : ByteArray) (hs : s.size ≤ 1000000) (i : Int) (hi0 : -9223372036854775808 ≤ i) (hi1 : i ≤ 9223372036854775807) (w : World) :
    Calls Try.prog 20 #[.string s, .int .i64 i] w fun e w' => e = .returned (.tuple #[.int .i64 (lineI s.data.toList i), .int .i64 (colI s.data.toList i)]) ∧ w = w' := by
  have HL := Lib.hid (list_size s)
  have hcl := clip_le s.data.toList i
  rw [HL.out] at hcl
  have HI : Hid (lineI s.data.toList i = (lfs s.data.toList (clip s.data.toList i) : Int) + 1) := rfl
  have HJ : Hid (colI s.data.toList i = (stp s.data.toList (begI s.data.toList (clip s.data.toList i)) (clip s.data.toList i) : Int) + 1) := rfl
  have HCL : Hid (clip s.data.toList i = if i < 0 then 0 else if (s.size : Int) < i then s.size else i.toNat) := by show _ = _; rw [← HL.out]; rfl
  generalize lineI s.data.toList i = vl at *
  generalize colI s.data.toList i = vc at *
  generalize clip s.data.toList i = a at *
  obtain ⟨x1, x2⟩ := begI_extract s a hcl a (Nat.le_refl _)
  have hsz : (s.extract 0 a).size = a := by rw [ByteArray.size_extract]; omega
  have LB := Lib.hid (fun w => lastIndex_any (s.extract 0 a) (by omega) w)
  have SC := Lib.hid (fun w => strCount_any (s.extract 0 a) (by omega) w)
  rw [hsz, x1] at LB
  rw [hsz, x2] at SC
  have hbl := begI_le s.data.toList a
  have hll := lfs_le s.data.toList a
  have ST := Lib.hid (fun w => steps_any s hs (begI s.data.toList a) a hcl (by omega) w)
  have hsl := stp_le s.data.toList a _ (begI s.data.toList a) (Nat.le_refl _)
  have HSZ := Lib.hid hsz
  clear hsz x1 x2
  generalize stp s.data.toList (begI s.data.toList a) a = z at *
  generalize begI s.data.toList a = b at *
  generalize lfs s.data.toList a = l at *
  by_cases h0 : i < 0
  · have ha : a = 0 := by rw [HCL.out, if_pos h0]
    subst ha
    rw [extract_none] at LB SC
    have hb : b = 0 := by omega
    subst hb
    clear HSZ HCL
    go_enter Try.func20, Try.ntmps20
    go_wp2_with (first | (go_at_call 29; refine (LB.out _).mono ?_; rintro e w' ⟨rfl, rfl⟩) | (go_at_call 30; refine (SC.out _).mono ?_; rintro e w' ⟨rfl, rfl⟩))
    refine (ST.out _).mono ?_
    rintro e w' ⟨rfl, rfl⟩
    go_wp2_with fail
    go_ret2
    exact ⟨ret_ints (by rw [HI.out]) (by rw [HJ.out]), rfl⟩
  · by_cases h1 : (s.size : Int) < i
    · have ha : a = s.size := by rw [HCL.out, if_neg h0, if_pos h1]
      subst ha
      rw [extract_all] at LB SC
      clear HSZ HCL
      go_enter Try.func20, Try.ntmps20
      go_wp2_with (first | (go_at_call 29; refine (LB.out _).mono ?_; rintro e w' ⟨rfl, rfl⟩) | (go_at_call 30; refine (SC.out _).mono ?_; rintro e w' ⟨rfl, rfl⟩))
      refine (ST.out _).mono ?_
      rintro e w' ⟨rfl, rfl⟩
      go_wp2_with fail
      go_ret2
      exact ⟨ret_ints (by rw [HI.out]) (by rw [HJ.out]), rfl⟩
    · have ha : (a : Int) = i := by rw [HCL.out, if_neg h0, if_neg h1]; omega
      subst ha
      clear HSZ HCL
      go_enter Try.func20, Try.ntmps20
      go_wp2_with (first | (go_at_call 29; refine (LB.out _).mono ?_; rintro e w' ⟨rfl, rfl⟩) | (go_at_call 30; refine (SC.out _).mono ?_; rintro e w' ⟨rfl, rfl⟩))
      refine (ST.out _).mono ?_
      rintro e w' ⟨rfl, rfl⟩
      go_wp2_with fail
      go_ret2
      exact ⟨ret_ints (by rw [HI.out]) (by rw [HJ.out]), rfl⟩

set_option maxRecDepth 100000 in
set_option maxHeartbeats 2000000 in
/-- The loops of the document's answer, from a place that is clipped. -/
theorem rline_at (s : ByteArray) (hs : s.size ≤ 1000000) (i : Int) (hi0 : -9223372036854775808 ≤ i) (hi1 : i ≤ 9223372036854775807) (w : World) :
    Calls Try.prog 21 #[.string s, .int .i64 i] w fun e w' => e = .returned (.tuple #[.int .i64 (lineI s.data.toList i), .int .i64 (colI s.data.toList i)]) ∧ Below w.heap.size w w' := by
  have HL := Lib.hid (list_size s)
  have hcl := clip_le s.data.toList i
  rw [HL.out] at hcl
  have HI : Hid (lineI s.data.toList i = (lfs s.data.toList (clip s.data.toList i) : Int) + 1) := rfl
  have HJ : Hid (colI s.data.toList i = (stp s.data.toList (begI s.data.toList (clip s.data.toList i)) (clip s.data.toList i) : Int) + 1) := rfl
  have HCL : Hid (clip s.data.toList i = if i < 0 then 0 else if (s.size : Int) < i then s.size else i.toNat) := by show _ = _; rw [← HL.out]; rfl
  generalize lineI s.data.toList i = vl at *
  generalize colI s.data.toList i = vc at *
  generalize clip s.data.toList i = a at *
  obtain ⟨b, hb⟩ : ∃ b, b = begI s.data.toList a := ⟨_, rfl⟩
  rw [← hb] at HJ
  have hba : b ≤ a := by rw [hb]; exact begI_le _ _
  have HBE := Lib.hid hb
  clear hb
  by_cases h0 : i < 0
  · have ha : a = 0 := by rw [HCL.out, if_pos h0]
    subst ha
    clear HCL
    go_enter Try.func21, Try.ntmps21
    go_wp2_with fail
    go_loop [6, 7, 8] (fun l f i => ∃ g h k : Nat, l = .int .i64 ((g + 1 : Nat) : Int) ∧ f = .int .i64 (h : Int) ∧ i = .int .i64 (k : Int) ∧ k ≤ 0 ∧ g ≤ k ∧ h ≤ k ∧ Hid (g = lfs s.data.toList k ∧ h = begI s.data.toList k)) (fun _ _ i => s.size - (intOf i).toNat)
    case atStart => exact ⟨0, 0, 0, rfl, rfl, rfl, by omega, by omega, by omega, rfl, rfl⟩
    case round =>
      obtain ⟨g, h, k, rfl, rfl, rfl, hk, hg, hh, HK⟩ := hrel
      by_cases hlt : k < 0
      · exfalso; omega
      · have hka : k = 0 := by omega
        have HG : Hid (g = lfs s.data.toList 0) := by show _ = _; rw [← hka]; exact HK.out.1
        have HH : Hid (h = b) := by show _ = _; rw [HBE.out, ← hka]; exact HK.out.2
        have HJ2 : Hid (vc = (stp s.data.toList h 0 : Int) + 1) := by show _ = _; rw [HH.out]; exact HJ.out
        have HI2 : Hid (vl = (g : Int) + 1) := by show _ = _; rw [HG.out]; exact HI.out
        have hsl := stp_le s.data.toList 0 _ h (Nat.le_refl _)
        clear hka HK HG HH HI HJ HBE
        go_wp2_with fail
        go_loopw [7, 9] (fun f c wr => ∃ m n : Nat, f = .int .i64 (m : Int) ∧ c = .int .i64 ((n + 1 : Nat) : Int) ∧ m ≤ s.size ∧ n ≤ m ∧ Hid (stp s.data.toList h 0 = stp s.data.toList m 0 + n) ∧ Below w.heap.size w wr) (fun f _ _ => s.size - (intOf f).toNat)
        case atStart => exact ⟨h, 0, rfl, rfl, by omega, by omega, rfl, Below.refl _ _⟩
        case round =>
          rename_i wr hrel
          obtain ⟨m, n, rfl, rfl, hm, hn, HC, hB⟩ := hrel
          by_cases hlt : m < 0
          · exfalso; omega
          · have HR := Lib.hid (stp_done (L := s.data.toList) (show 0 ≤ m by omega))
            go_wp2_with fail
            go_ret2
            exact ⟨ret_ints (by rw [HI2.out]) (by rw [HJ2.out, HC.out, HR.out]; omega), hB⟩
  · by_cases h1 : (s.size : Int) < i
    · have ha : a = s.size := by rw [HCL.out, if_neg h0, if_pos h1]
      subst ha
      clear HCL
      go_enter Try.func21, Try.ntmps21
      go_wp2_with fail
      go_loop [6, 7, 8] (fun l f i => ∃ g h k : Nat, l = .int .i64 ((g + 1 : Nat) : Int) ∧ f = .int .i64 (h : Int) ∧ i = .int .i64 (k : Int) ∧ k ≤ s.size ∧ g ≤ k ∧ h ≤ k ∧ Hid (g = lfs s.data.toList k ∧ h = begI s.data.toList k)) (fun _ _ i => s.size - (intOf i).toNat)
      case atStart => exact ⟨0, 0, 0, rfl, rfl, rfl, by omega, by omega, by omega, rfl, rfl⟩
      case round =>
        obtain ⟨g, h, k, rfl, rfl, rfl, hk, hg, hh, HK⟩ := hrel
        by_cases hlt : k < s.size
        · have hks : k < s.size := by omega
          have HBY := Lib.hid (by8_in hks)
          have HD : Hid (begI s.data.toList (k + 1) = if by8 s.data.toList k = 10 then k + 1 else begI s.data.toList k) := rfl
          have HF : Hid (lfs s.data.toList (k + 1) = if by8 s.data.toList k = 10 then lfs s.data.toList k + 1 else lfs s.data.toList k) := rfl
          rw [HBY.out] at HD HF
          by_cases ht : (s[k].toNat : Int) = 10
          · have hq : ((s[k].toNat : Int) == 10) = true := by rw [ht]; rfl
            have HR : Hid (g + 1 = lfs s.data.toList (k + 1) ∧ k + 1 = begI s.data.toList (k + 1)) := ⟨by rw [HF.out, if_pos ht, HK.out.1], by rw [HD.out, if_pos ht]⟩
            clear ht HD HF HK
            go_wp2
            go_round
            case rel => exact ⟨g + 1, k + 1, k + 1, by go_num, by go_num, by go_num, by omega, by omega, by omega, HR.out⟩
            case measure => simp [intOf]; omega
          · have hq : ((s[k].toNat : Int) == 10) = false := by rw [beq_eq_false_iff_ne]; exact ht
            have HR : Hid (g = lfs s.data.toList (k + 1) ∧ h = begI s.data.toList (k + 1)) := ⟨by rw [HF.out, if_neg ht, HK.out.1], by rw [HD.out, if_neg ht, HK.out.2]⟩
            clear ht HD HF HK
            go_wp2
            go_round
            case rel => exact ⟨g, h, k + 1, by go_num, by go_num, by go_num, by omega, by omega, by omega, HR.out⟩
            case measure => simp [intOf]; omega
        · have hka : k = s.size := by omega
          have HG : Hid (g = lfs s.data.toList s.size) := by show _ = _; rw [← hka]; exact HK.out.1
          have HH : Hid (h = b) := by show _ = _; rw [HBE.out, ← hka]; exact HK.out.2
          have HJ2 : Hid (vc = (stp s.data.toList h s.size : Int) + 1) := by show _ = _; rw [HH.out]; exact HJ.out
          have HI2 : Hid (vl = (g : Int) + 1) := by show _ = _; rw [HG.out]; exact HI.out
          have hsl := stp_le s.data.toList s.size _ h (Nat.le_refl _)
          clear hka HK HG HH HI HJ HBE
          go_wp2_with fail
          go_loopw [7, 9] (fun f c wr => ∃ m n : Nat, f = .int .i64 (m : Int) ∧ c = .int .i64 ((n + 1 : Nat) : Int) ∧ m ≤ s.size ∧ n ≤ m ∧ Hid (stp s.data.toList h s.size = stp s.data.toList m s.size + n) ∧ Below w.heap.size w wr) (fun f _ _ => s.size - (intOf f).toNat)
          case atStart => exact ⟨h, 0, rfl, rfl, by omega, by omega, rfl, Below.refl _ _⟩
          case round =>
            rename_i wr hrel
            obtain ⟨m, n, rfl, rfl, hm, hn, HC, hB⟩ := hrel
            by_cases hlt : m < s.size
            · have hms : m < s.size := by omega
              have N := Lib.hid (fun w => rnext_any s (by omega) m hms w)
              have hsr := stepAt_range s.data.toList m
              have hin := step_in (L := s.data.toList) (k := m) (by rw [HL.out]; exact hms)
              rw [HL.out] at hin
              have HM := Lib.hid (@stp_more s.data.toList m s.size hlt)
              generalize signAt s.data.toList m = x at *
              generalize stepAt s.data.toList m = y at *
              go_wp2_with (go_at_call 12; refine (N.out _).mono ?_; rintro e w1 ⟨rfl, hB1⟩)
              go_roundw
              case rel => exact ⟨m + y, n + 1, by go_num, by go_num, by omega, by omega, by show _ = _; rw [HC.out, HM.out]; omega, below_trans hB hB1 hB.size⟩
              case measure => simp [intOf]; omega
            · have HR := Lib.hid (stp_done (L := s.data.toList) (show s.size ≤ m by omega))
              go_wp2_with fail
              go_ret2
              exact ⟨ret_ints (by rw [HI2.out]) (by rw [HJ2.out, HC.out, HR.out]; omega), hB⟩
    · have ha : (a : Int) = i := by rw [HCL.out, if_neg h0, if_neg h1]; omega
      subst ha
      clear HCL
      go_enter Try.func21, Try.ntmps21
      go_wp2_with fail
      go_loop [6, 7, 8] (fun l f i => ∃ g h k : Nat, l = .int .i64 ((g + 1 : Nat) : Int) ∧ f = .int .i64 (h : Int) ∧ i = .int .i64 (k : Int) ∧ k ≤ a ∧ g ≤ k ∧ h ≤ k ∧ Hid (g = lfs s.data.toList k ∧ h = begI s.data.toList k)) (fun _ _ i => s.size - (intOf i).toNat)
      case atStart => exact ⟨0, 0, 0, rfl, rfl, rfl, by omega, by omega, by omega, rfl, rfl⟩
      case round =>
        obtain ⟨g, h, k, rfl, rfl, rfl, hk, hg, hh, HK⟩ := hrel
        by_cases hlt : k < a
        · have hks : k < s.size := by omega
          have HBY := Lib.hid (by8_in hks)
          have HD : Hid (begI s.data.toList (k + 1) = if by8 s.data.toList k = 10 then k + 1 else begI s.data.toList k) := rfl
          have HF : Hid (lfs s.data.toList (k + 1) = if by8 s.data.toList k = 10 then lfs s.data.toList k + 1 else lfs s.data.toList k) := rfl
          rw [HBY.out] at HD HF
          by_cases ht : (s[k].toNat : Int) = 10
          · have hq : ((s[k].toNat : Int) == 10) = true := by rw [ht]; rfl
            have HR : Hid (g + 1 = lfs s.data.toList (k + 1) ∧ k + 1 = begI s.data.toList (k + 1)) := ⟨by rw [HF.out, if_pos ht, HK.out.1], by rw [HD.out, if_pos ht]⟩
            clear ht HD HF HK
            go_wp2
            go_round
            case rel => exact ⟨g + 1, k + 1, k + 1, by go_num, by go_num, by go_num, by omega, by omega, by omega, HR.out⟩
            case measure => simp [intOf]; omega
          · have hq : ((s[k].toNat : Int) == 10) = false := by rw [beq_eq_false_iff_ne]; exact ht
            have HR : Hid (g = lfs s.data.toList (k + 1) ∧ h = begI s.data.toList (k + 1)) := ⟨by rw [HF.out, if_neg ht, HK.out.1], by rw [HD.out, if_neg ht, HK.out.2]⟩
            clear ht HD HF HK
            go_wp2
            go_round
            case rel => exact ⟨g, h, k + 1, by go_num, by go_num, by go_num, by omega, by omega, by omega, HR.out⟩
            case measure => simp [intOf]; omega
        · have hka : k = a := by omega
          have HG : Hid (g = lfs s.data.toList a) := by show _ = _; rw [← hka]; exact HK.out.1
          have HH : Hid (h = b) := by show _ = _; rw [HBE.out, ← hka]; exact HK.out.2
          have HJ2 : Hid (vc = (stp s.data.toList h a : Int) + 1) := by show _ = _; rw [HH.out]; exact HJ.out
          have HI2 : Hid (vl = (g : Int) + 1) := by show _ = _; rw [HG.out]; exact HI.out
          have hsl := stp_le s.data.toList a _ h (Nat.le_refl _)
          clear hka HK HG HH HI HJ HBE
          go_wp2_with fail
          go_loopw [7, 9] (fun f c wr => ∃ m n : Nat, f = .int .i64 (m : Int) ∧ c = .int .i64 ((n + 1 : Nat) : Int) ∧ m ≤ s.size ∧ n ≤ m ∧ Hid (stp s.data.toList h a = stp s.data.toList m a + n) ∧ Below w.heap.size w wr) (fun f _ _ => s.size - (intOf f).toNat)
          case atStart => exact ⟨h, 0, rfl, rfl, by omega, by omega, rfl, Below.refl _ _⟩
          case round =>
            rename_i wr hrel
            obtain ⟨m, n, rfl, rfl, hm, hn, HC, hB⟩ := hrel
            by_cases hlt : m < a
            · have hms : m < s.size := by omega
              have N := Lib.hid (fun w => rnext_any s (by omega) m hms w)
              have hsr := stepAt_range s.data.toList m
              have hin := step_in (L := s.data.toList) (k := m) (by rw [HL.out]; exact hms)
              rw [HL.out] at hin
              have HM := Lib.hid (@stp_more s.data.toList m a hlt)
              generalize signAt s.data.toList m = x at *
              generalize stepAt s.data.toList m = y at *
              go_wp2_with (go_at_call 12; refine (N.out _).mono ?_; rintro e w1 ⟨rfl, hB1⟩)
              go_roundw
              case rel => exact ⟨m + y, n + 1, by go_num, by go_num, by omega, by omega, by show _ = _; rw [HC.out, HM.out]; omega, below_trans hB hB1 hB.size⟩
              case measure => simp [intOf]; omega
            · have HR := Lib.hid (stp_done (L := s.data.toList) (show a ≤ m by omega))
              go_wp2_with fail
              go_ret2
              exact ⟨ret_ints (by rw [HI2.out]) (by rw [HJ2.out, HC.out, HR.out]; omega), hB⟩
end Go.Proofs.Ytfknjkjgdadpjaa
