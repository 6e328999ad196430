/- Whole numbers up to 2^53 in digits, written and read: the walk of the statement. -/
import Derived.Test.YtmepgpiihhilaaaDoorRead
import Derived.Test.YtmepgpiihhilaaaDoorWords
import Derived.Lib.ItoaLen
import Derived.Deep.RegionWith
namespace Go.Proofs.YtmepgpiihhilaaaDoor
open Go.RowKit
set_option linter.unusedVariables false

theorem text_of {n : Int} (h0 : -9007199254740992 ≤ n) (h1 : n ≤ 9007199254740992) : textI (ofI n) = wholeS n := by
  obtain ⟨x, e, h⟩ := of_is h0 h1
  obtain ⟨w1, w2⟩ := of_whole h0 h1
  unfold textI
  rw [e, h.not_nan, h.not_inf, ← e, w1, w2]
  rfl

theorem append_list (a b : ByteArray) : (a ++ b).data.toList = a.data.toList ++ b.data.toList := by simp

theorem hex_char {d : Int} (h0 : 0 ≤ d) (h1 : d < 16) :
    (ByteArray.extract ⟨#[48, 49, 50, 51, 52, 53, 54, 55, 56, 57, 97, 98, 99, 100, 101, 102]⟩ d.toNat (d + 1).toNat).data.toList = [UInt8.ofNat (hexD d.toNat).toNat] ∧
    (digB ((UInt8.ofNat (hexD d.toNat).toNat).toNat : Int)).toNat = d.toNat ∧ digB ((UInt8.ofNat (hexD d.toNat).toNat).toNat : Int) < 16 ∧ 33 ≤ (UInt8.ofNat (hexD d.toNat).toNat).toNat := by
  have h3 : d = 0 ∨ d = 1 ∨ d = 2 ∨ d = 3 ∨ d = 4 ∨ d = 5 ∨ d = 6 ∨ d = 7 ∨ d = 8 ∨ d = 9 ∨ d = 10 ∨ d = 11 ∨ d = 12 ∨ d = 13 ∨ d = 14 ∨ d = 15 := by omega
  rcases h3 with rfl | rfl | rfl | rfl | rfl | rfl | rfl | rfl | rfl | rfl | rfl | rfl | rfl | rfl | rfl | rfl <;> decide +kernel

theorem zeros_val (i : Nat) : valL 10 (List.replicate i 48) 0 = 0 := by
  induction i with
  | zero => rfl
  | succ i ih => rw [List.replicate_succ', valL_append, ih]; decide

theorem parse_zeros (i u : Nat) (h : u ≤ 9007199254740992) : parseI (List.replicate i 48 ++ Lib.decDigits u) = ofI (u : Int) := by
  have hall : ∀ c ∈ List.replicate i (48 : UInt8) ++ Lib.decDigits u, 48 ≤ c.toNat ∧ c.toNat ≤ 57 := by
    intro c hc
    rcases List.mem_append.1 hc with hc | hc
    · rw [List.eq_of_mem_replicate hc]; decide
    · exact dec_all u c hc
  have hv : valL 10 (List.replicate i 48 ++ Lib.decDigits u) 0 = u := by rw [valL_append, zeros_val, dec_val]
  have hne : List.replicate i (48 : UInt8) ++ Lib.decDigits u ≠ [] := by
    intro h2; exact dec_ne u (List.append_eq_nil_iff.1 h2).2
  unfold parseI
  rw [trim_same (by intro c hc; have := hall c hc; omega), parseT_digits hne hall, digits_word (.inl rfl) hne (dec_small hall) (by show valL 10 _ 0 ≤ _; rw [hv]; exact h), of_nonneg]
  show ((wordN false (valL 10 _ 0) : Nat) : Int) = _
  rw [hv]

theorem parse_plus (u : Nat) (h : u ≤ 9007199254740992) : parseI ([43] ++ Lib.decDigits u) = ofI (u : Int) := by
  have hall := dec_all u
  have hv := dec_val u
  unfold parseI
  rw [List.singleton_append, trim_same (by
    intro c hc
    rcases List.mem_cons.1 hc with rfl | hc
    · decide
    · have := hall c hc; omega), parseT_cons, if_neg (by decide), if_neg (by
      intro h2
      rcases h2 with h2 | h2
      · exact absurd (prefix_head h2).1 (by decide)
      · exact absurd (prefix_head h2).1 (by decide)), if_neg (by decide), if_pos rfl, plain_digits hall, digits_word (.inl rfl) (dec_ne u) (dec_small hall) (by show valL 10 _ 0 ≤ _; rw [hv]; exact h), of_nonneg]
  show ((wordN false (valL 10 _ 0) : Nat) : Int) = _
  rw [hv]

theorem parse_hex {l : List UInt8} (hl : ∀ c ∈ l, digB c.toNat < 16 ∧ 33 ≤ c.toNat) (h : valL 16 l 0 ≤ 9007199254740992) : parseI ([48, 120, 48] ++ l) = ofI (valL 16 l 0 : Nat) := by
  have e : [48, 120, 48] ++ l = 48 :: 120 :: 48 :: l := rfl
  have hp : Lib.hasPrefix (48 :: 120 :: 48 :: l) [48, 120] = true := by
    unfold Lib.hasPrefix
    exact List.isPrefixOf_iff_prefix.2 ⟨48 :: l, rfl⟩
  have hv : valL 16 (48 :: l) 0 = valL 16 l 0 := rfl
  unfold parseI
  rw [e, trim_same (by
    intro c hc
    simp only [List.mem_cons] at hc
    rcases hc with rfl | rfl | rfl | hc
    · decide
    · decide
    · decide
    · exact (hl c hc).2), parseT_cons, if_neg (by decide), if_pos (.inl hp)]
  show digitsI 16 (48 :: l) = _
  rw [digits_word (.inr rfl) (by simp) (by
    intro c hc
    rcases List.mem_cons.1 hc with rfl | hc
    · decide
    · exact (hl c hc).1) (by show valL 16 (48 :: l) 0 ≤ _; rw [hv]; exact h), of_nonneg]
  rfl

theorem wholeS_size {n : Int} (h0 : -9007199254740992 ≤ n) (h1 : n ≤ 9007199254740992) : (wholeS n).size ≤ 21 := by
  have := Lib.itoa_length_le n (by omega) (by omega)
  have e : (wholeS n).size = (Lib.itoa n).length := by rw [Lib.size_eq]; rfl
  omega

set_option maxRecDepth 100000 in
set_option maxHeartbeats 1000000 in
theorem dig_neg (n : Int) (h0 : -9223372036854775808 ≤ n) (h1 : n ≤ 9223372036854775807) (k : Int) (k0 : -9223372036854775808 ≤ k) (k1 : k ≤ 9223372036854775807) (hm : n.tmod 9007199254740993 < 0) (w : World) (htab : tab w) :
    Calls Tryd.prog 13 #[.int .i64 n, .int .i64 k] w fun e w' => e = .returned (.bool true) ∧ Below w.heap.size w w' := by
  obtain ⟨m0, m1⟩ := tmod_53 n
  have K := Lib.hid htab
  clear htab
  generalize en : n.tmod 9007199254740993 = m at m0 m1 hm
  have ek0 : -20 < k.tmod 20 ∧ k.tmod 20 < 20 := by
    by_cases h : 0 ≤ k
    · rw [Int.tmod_eq_emod_of_nonneg h]; omega
    · have := Int.neg_tmod (-k) 20
      rw [Int.neg_neg] at this
      rw [this, Int.tmod_eq_emod_of_nonneg (by omega)]; omega
  generalize ek : k.tmod 20 = t at ek0
  obtain ⟨t0, t1⟩ := ek0
  have TX := Lib.hid (fun w ht => text_any (ofI m) (ofI_nonneg _) (ofI_lt _) w ht)
  have PX := Lib.hid (fun w => parse_any (wholeS m) (by have := wholeS_size m0 m1; omega) w)
  have hpi : parseI (wholeS m).data.toList = ofI m := parse_itoa m0 m1
  rw [text_of m0 m1] at TX
  rw [hpi] at PX
  clear hpi
  have hsz := wholeS_size m0 m1
  have hS : (wholeS m).data.toList = 45 :: Lib.decDigits m.natAbs := by show Lib.itoa m = _; unfold Lib.itoa; rw [if_pos hm]
  have hU : (wholeS (-m)).data.toList = Lib.decDigits m.natAbs := by show Lib.itoa (-m) = _; unfold Lib.itoa; rw [if_neg (by omega)]; congr 1; omega
  have T2 := Lib.hid (fun w ht => text_any (ofI (-m)) (ofI_nonneg _) (ofI_lt _) w ht)
  rw [text_of (show -9007199254740992 ≤ -m by omega) (by omega)] at T2
  have hpos : 0 < (wholeS m).size := by rw [Lib.size_eq, hS, List.length_cons]; omega
  have hidx : ∀ h, (((wholeS m)[0]'h).toNat : Int) = 45 := by
    intro h
    have h2 := list_of_size h
    rw [hS] at h2
    rw [← (List.cons.inj h2).1]; rfl
  have heq : ((wholeS (-m)).toList == ((wholeS m).extract 1 (wholeS m).size).toList) = true := by
    rw [Lib.toList_data, Lib.toList_data, hU]
    have h2 := list_of_size hpos
    rw [hS] at h2
    rw [← (List.cons.inj h2).2]; exact beq_self_eq_true _
  generalize wholeS m = S at *
  generalize wholeS (-m) = U at *
  clear hS hU
  go_enter Tryd.func13, Tryd.ntmps13
  go_wp2_with (first
    | (go_at_call 40; refine (of_any _ _).mono ?_; rintro e w' ⟨rfl, rfl⟩)
    | (go_at_call 42; refine (TX.out _ K.out).mono ?_; rintro e w1 ⟨rfl, hB1⟩)
    | (go_at_call 44; refine (PX.out _).mono ?_; rintro e w2 ⟨rfl, hB2⟩))
  have K2 := Lib.hid (tab_below K.out (below_trans hB1 hB2))
  have hwr : IntKind.i64.wrap (-m) = -m := IntWalk.i64_in _ (by omega)
  go_region_with (first
    | (go_at_call 40; refine (of_any _ _).mono ?_; rintro e w' ⟨rfl, rfl⟩)
    | (go_at_call 42; refine (T2.out _ ?_).mono ?_; exact tab_below K2.out (Below.refl _ _).drew; rintro e w3 ⟨rfl, hB3⟩)
    | (go_at_call 25; refine (works_any _ ?_).mono ?_; exact tab_below (tab_below K2.out (Below.refl _ _).drew) hB3; rintro e w4 ⟨rfl, hB4⟩))
  all_goals
    go_wp2
    go_ret
    exact ⟨rfl, below_trans (below_trans (below_trans hB1 hB2).drew hB3) hB4⟩

set_option maxRecDepth 100000 in
set_option maxHeartbeats 1000000 in
theorem dig_pos (n : Int) (h0 : -9223372036854775808 ≤ n) (h1 : n ≤ 9223372036854775807) (k : Int) (k0 : -9223372036854775808 ≤ k) (k1 : k ≤ 9223372036854775807) (hm : ¬ n.tmod 9007199254740993 < 0) (w : World) (htab : tab w) :
    Calls Tryd.prog 13 #[.int .i64 n, .int .i64 k] w fun e w' => e = .returned (.bool true) ∧ Below w.heap.size w w' := by
  obtain ⟨m0, m1⟩ := tmod_53 n
  have K := Lib.hid htab
  clear htab
  generalize en : n.tmod 9007199254740993 = m at m0 m1 hm
  have ek0 : -20 < k.tmod 20 ∧ k.tmod 20 < 20 := by
    by_cases h : 0 ≤ k
    · rw [Int.tmod_eq_emod_of_nonneg h]; omega
    · have := Int.neg_tmod (-k) 20
      rw [Int.neg_neg] at this
      rw [this, Int.tmod_eq_emod_of_nonneg (by omega)]; omega
  generalize ek : k.tmod 20 = t at ek0
  obtain ⟨t0, t1⟩ := ek0
  have TX := Lib.hid (fun w ht => text_any (ofI m) (ofI_nonneg _) (ofI_lt _) w ht)
  have PX := Lib.hid (fun w => parse_any (wholeS m) (by have := wholeS_size m0 m1; omega) w)
  have hpi : parseI (wholeS m).data.toList = ofI m := parse_itoa m0 m1
  rw [text_of m0 m1] at TX
  rw [hpi] at PX
  clear hpi
  have hsz := wholeS_size m0 m1
  have hS : (wholeS m).data.toList = Lib.decDigits m.natAbs := by show Lib.itoa m = _; unfold Lib.itoa; rw [if_neg hm]; congr 1; omega
  have q0 : 0 ≤ t % 20 := by omega
  have q1 : t % 20 < 20 := by omega
  go_enter Tryd.func13, Tryd.ntmps13
  go_wp2_with (first
    | (go_at_call 40; refine (of_any _ _).mono ?_; rintro e w' ⟨rfl, rfl⟩)
    | (go_at_call 42; refine (TX.out _ K.out).mono ?_; rintro e w1 ⟨rfl, hB1⟩)
    | (go_at_call 44; refine (PX.out _).mono ?_; rintro e w2 ⟨rfl, hB2⟩))
  go_loop [6, 41] (fun v f => ∃ (z : ByteArray) (i : Nat), v = .string z ∧ f = .int .i64 (i : Int) ∧ (i : Int) ≤ t % 20 ∧ z.size ≤ i ∧ Hid (z.data.toList = List.replicate i 48)) (fun _ f => (20 - intOf f).toNat)
  case atStart => exact ⟨⟨#[]⟩, 0, rfl, rfl, by omega, Nat.le_refl _, rfl⟩
  case round =>
    obtain ⟨z, i, rfl, rfl, hi, hz, HZ⟩ := hrel
    have hadd : ∀ W : World, (Op.stringOp .add z ⟨#[48]⟩).run Tryd.prog W = .ok (.string (z ++ ⟨#[48]⟩)) W := fun W =>
      run_string_add_sum (P := Tryd.prog) (w := W) z ⟨#[48]⟩ (by show z.size + 1 ≤ _; omega)
    by_cases hlt : (i : Int) < t % 20
    · go_wp2
      refine ⟨⟨z ++ ⟨#[48]⟩, i + 1, rfl, by go_num, by omega, ?_, ?_⟩, by simp [intOf]; omega⟩
      · rw [ByteArray.size_append]; show z.size + 1 ≤ _; omega
      · show _ = _
        rw [append_list, HZ.out, List.replicate_succ']
    · go_wp2
      go_loop [7, 8] (fun v f => ∃ (h : ByteArray) (q : Int), v = .string h ∧ f = .int .i64 q ∧ 0 ≤ q ∧ q ≤ m ∧ h.size + q ≤ m ∧ Hid ((∀ c ∈ h.data.toList, digB c.toNat < 16 ∧ 33 ≤ c.toNat) ∧ valL 16 h.data.toList q.toNat = m.toNat)) (fun _ f => (intOf f).toNat)
      case atStart => exact ⟨⟨#[]⟩, m, rfl, rfl, by omega, by omega, by show (0 : Int) + m ≤ m; omega, ⟨fun c hc => (by cases hc), rfl⟩⟩
      case round =>
        obtain ⟨h, q, rfl, rfl, hq0, hq1, hq2, HH⟩ := hrel
        by_cases hlt2 : 0 < q
        · have hx := hex_char (d := q % 16) (by omega) (by omega)
          have HXC := Lib.hid hx
          clear hx
          go_wp2
          refine ⟨⟨_, q / 16, rfl, rfl, by omega, by omega, ?_, ?_⟩, by simp [intOf]; omega⟩
          · have e : (ByteArray.extract ⟨#[48, 49, 50, 51, 52, 53, 54, 55, 56, 57, 97, 98, 99, 100, 101, 102]⟩ (q % 16).toNat (q % 16 + 1).toNat).size = 1 := by rw [Lib.size_eq, HXC.out.1]; rfl
            rw [ByteArray.size_append, e]; omega
          · show _ ∧ _
            rw [append_list, HXC.out.1]
            refine ⟨fun c hc => ?_, ?_⟩
            · rcases List.mem_cons.1 hc with rfl | hc
              · exact HXC.out.2.2
              · exact HH.out.1 c hc
            · rw [List.singleton_append, valL_cons, HXC.out.2.1, show (q / 16).toNat * 16 + (q % 16).toNat = q.toNat by omega]
              exact HH.out.2
        · have hq : q = 0 := by omega
          have hmm : (m.toNat : Int) = m := by omega
          have e1 : parseI (z ++ wholeS m).data.toList = ofI m := by
            rw [append_list, HZ.out, hS, ← hmm, show ((m.toNat : Nat) : Int).natAbs = m.toNat by omega]
            exact parse_zeros _ _ (by omega)
          have e2 : parseI ((⟨#[43]⟩ : ByteArray) ++ wholeS m).data.toList = ofI m := by
            rw [append_list, hS, ← hmm, show ((m.toNat : Nat) : Int).natAbs = m.toNat by omega]
            exact parse_plus _ (by omega)
          have e3 : parseI ((⟨#[48, 120, 48]⟩ : ByteArray) ++ h).data.toList = ofI m := by
            rw [append_list]
            have hv := HH.out.2
            rw [hq] at hv
            have := parse_hex HH.out.1 (by rw [show (0 : Nat) = (0 : Int).toNat from rfl, hv]; omega)
            rw [show (0 : Nat) = (0 : Int).toNat from rfl, hv, hmm] at this
            exact this
          have a1 : ∀ W : World, (Op.stringOp .add z (wholeS m)).run Tryd.prog W = .ok (.string (z ++ wholeS m)) W := fun W =>
            run_string_add_sum (P := Tryd.prog) (w := W) _ _ (by omega)
          have a2 : ∀ W : World, (Op.stringOp .add ⟨#[43]⟩ (wholeS m)).run Tryd.prog W = .ok (.string (⟨#[43]⟩ ++ wholeS m)) W := fun W =>
            run_string_add_sum (P := Tryd.prog) (w := W) _ _ (by show 1 + (wholeS m).size ≤ _; omega)
          have a3 : ∀ W : World, (Op.stringOp .add ⟨#[48, 120, 48]⟩ h).run Tryd.prog W = .ok (.string (⟨#[48, 120, 48]⟩ ++ h)) W := fun W =>
            run_string_add_sum (P := Tryd.prog) (w := W) _ _ (by show 3 + h.size ≤ _; omega)
          have P1 := Lib.hid (fun w => parse_any (z ++ wholeS m) (by rw [ByteArray.size_append]; omega) w)
          have P2 := Lib.hid (fun w => parse_any (⟨#[43]⟩ ++ wholeS m) (by rw [ByteArray.size_append]; show 1 + (wholeS m).size ≤ _; omega) w)
          have P3 := Lib.hid (fun w => parse_any (⟨#[48, 120, 48]⟩ ++ h) (by rw [ByteArray.size_append]; show 3 + h.size ≤ _; omega) w)
          rw [e1] at P1
          rw [e2] at P2
          rw [e3] at P3
          have K2 := Lib.hid (tab_below K.out (below_trans hB1 hB2))
          clear hadd e1 e2 e3 hmm hq hS
          generalize hzs : z ++ wholeS m = Z1 at *
          generalize hps : (⟨#[43]⟩ : ByteArray) ++ wholeS m = Z2 at *
          generalize hxs : (⟨#[48, 120, 48]⟩ : ByteArray) ++ h = Z3 at *
          clear hzs hps hxs
          go_wp2_with fail
          refine (P1.out _).mono ?_
          rintro e w3 ⟨rfl, hB3⟩
          go_wp2_with fail
          refine (of_any _ _).mono ?_
          rintro e w' ⟨rfl, rfl⟩
          go_wp2_with fail
          refine (P2.out _).mono ?_
          rintro e w4 ⟨rfl, hB4⟩
          go_wp2_with fail
          refine (of_any _ _).mono ?_
          rintro e w' ⟨rfl, rfl⟩
          go_wp2_with fail
          refine (P3.out _).mono ?_
          rintro e w5 ⟨rfl, hB5⟩
          go_wp2_with fail
          refine (of_any _ _).mono ?_
          rintro e w' ⟨rfl, rfl⟩
          go_wp2_with fail
          refine (works_any _ (tab_below K2.out (below_trans (below_trans hB3 hB4) hB5))).mono ?_
          rintro e w6 ⟨rfl, hB6⟩
          go_wp2_with fail
          go_ret
          exact ⟨rfl, below_trans (below_trans (below_trans (below_trans (below_trans hB1 hB2) hB3) hB4) hB5) hB6⟩

theorem law_BitsDigits (n : Int) (h0 : -9223372036854775808 ≤ n) (h1 : n ≤ 9223372036854775807) (k : Int) (k0 : -9223372036854775808 ≤ k) (k1 : k ≤ 9223372036854775807) (w : World) (htab : tab w) :
    Calls Tryd.prog 13 #[.int .i64 n, .int .i64 k] w fun e w' => e = .returned (.bool true) ∧ Below w.heap.size w w' := by
  by_cases hm : n.tmod 9007199254740993 < 0
  · exact dig_neg n h0 h1 k k0 k1 hm w htab
  · exact dig_pos n h0 h1 k k0 k1 hm w htab
end Go.Proofs.YtmepgpiihhilaaaDoor
