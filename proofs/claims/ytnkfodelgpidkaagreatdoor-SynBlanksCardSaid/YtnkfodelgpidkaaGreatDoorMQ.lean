/- A token, as it is written: by the program. A text between quotes: by the program. A text between quotes: by the document. A token, as it is written, and a name: by the program and by the document. -/
import Derived.Test.YtnkfodelgpidkaaGreatDoorML4
import Derived.Test.YtnkfodelgpidkaaGreatDoorML1
import Derived.Test.YtnkfodelgpidkaaGreatDoorMB1
import Derived.Test.YtnkfodelgpidkaaGreatDoorMB2
namespace Go.Proofs.YtnkfodelgpidkaaGreatDoor
open Go.RowKit
set_option linter.unusedVariables false

theorem esc_vals : ∀ n, n < 32 → n = 0 ∨ n = 1 ∨ n = 2 ∨ n = 3 ∨ n = 4 ∨ n = 5 ∨ n = 6 ∨ n = 7 ∨ n = 8 ∨ n = 9 ∨ n = 10 ∨ n = 11 ∨ n = 12 ∨ n = 13 ∨ n = 14 ∨ n = 15 ∨ n = 16 ∨ n = 17 ∨ n = 18 ∨ n = 19 ∨ n = 20 ∨ n = 21 ∨ n = 22 ∨ n = 23 ∨ n = 24 ∨ n = 25 ∨ n = 26 ∨ n = 27 ∨ n = 28 ∨ n = 29 ∨ n = 30 ∨ n = 31 := by omega

set_option maxRecDepth 100000 in
set_option maxHeartbeats 4000000 in
theorem escaped_any (c : UInt8) (hc : c.toNat < 32) (w : World) :
    Calls Tryz.prog 65 #[.int .u8 (c.toNat : Int)] w fun e w' => e = .returned (.string (bs (escL c))) ∧ ∃ n, w' = w.drewN n := by
  have hcc : c = UInt8.ofNat c.toNat := (UInt8.ofNat_toNat).symm
  generalize c.toNat = n at *
  subst hcc
  rcases esc_vals n hc with rfl | rfl | rfl | rfl | rfl | rfl | rfl | rfl | rfl | rfl | rfl | rfl | rfl | rfl | rfl | rfl | rfl | rfl | rfl | rfl | rfl | rfl | rfl | rfl | rfl | rfl | rfl | rfl | rfl | rfl | rfl | rfl
  all_goals
    clear hc
    go_enter Tryz.func65, Tryz.ntmps65
    go_wp2_with fail
    first
    | (go_ret; exact ⟨rfl, 0, rfl⟩)
    | (go_quiet (fail)
       go_wp2_with fail
       go_ret
       exact ⟨rfl, nq, rfl⟩)
end Go.Proofs.YtnkfodelgpidkaaGreatDoor
namespace Go.Proofs.YtnkfodelgpidkaaGreatDoor
open Go.RowKit
set_option linter.unusedVariables false

theorem escs_take {s : ByteArray} {k : Nat} (h : k < s.size) : escsL (s.data.toList.take (k + 1)) = escsL (s.data.toList.take k) ++ escL s[k] := by
  have hl : k < s.data.toList.length := by rw [list_size']; exact h
  rw [List.take_succ_eq_append_getElem hl, escsL_append]
  congr 1
  rw [escsL_cons]; show escL _ ++ [] = _; rw [List.append_nil]; rfl
theorem esc_two {c : UInt8} (h : c = 92 ∨ c = 34) : escL c = [92] ++ [c] := by unfold escL; rw [if_pos h]; rfl
theorem esc_self {c : UInt8} (h : ¬ (c = 92 ∨ c = 34)) (h2 : ¬ c.toNat < 32) : escL c = [c] := by
  have n2 : ¬ c = 10 := by rintro rfl; exact h2 (by decide)
  have n3 : ¬ c = 13 := by rintro rfl; exact h2 (by decide)
  have n4 : ¬ c = 9 := by rintro rfl; exact h2 (by decide)
  unfold escL; rw [if_neg h, if_neg n2, if_neg n3, if_neg n4, if_neg h2]
theorem escs_take_size (s : ByteArray) (k : Nat) (h : k ≤ s.size) : (escsL (s.data.toList.take k)).length ≤ 6 * k := by
  have := escs_size (s.data.toList.take k)
  rw [List.length_take, list_size'] at this; omega

set_option maxRecDepth 100000 in
set_option maxHeartbeats 400000 in
theorem quoted_any (s : ByteArray) (hs : s.size ≤ 100000) (w : World) :
    Calls Tryz.prog 38 #[.string s] w fun e w' => e = .returned (.string (bs (quoteL s.data.toList))) ∧ Below w.heap.size w w' := by
  have hW : (w.alloc (.cells #[.pointer none, .slice none 0 0] 104)).heap.size = w.heap.size + 1 := by simp
  have HB0 := Lib.hid (Bld.new w)
  have HL0 := Lib.hid ((Below.refl w.heap.size w).alloc (Nat.le_refl _) (.cells #[.pointer none, .slice none 0 0] 104))
  have W0 := Lib.hid (fun w2 h hs => wbyte_any w.heap.size w.heap.size [] 34 w2 h (by simp) hs)
  rw [show (((34 : UInt8).toNat : Nat) : Int) = 34 from rfl, List.nil_append] at W0
  go_enter Tryz.func38, Tryz.ntmps38
  go_wp2_with fail
  refine (W0.out _ HB0.out (by omega)).mono ?_; rintro e w1 ⟨rfl, hB1, hL1⟩
  have HB1 := Lib.hid hB1
  have HL1 := Lib.hid (HL0.out.trans hL1)
  clear hB1 hL1
  go_wp2_with fail
  go_loopw [9] (fun i wr => ∃ k : Nat, i = .int .i64 (k : Int) ∧ k ≤ s.size ∧ Hid (Bld wr w.heap.size w.heap.size (34 :: escsL (s.data.toList.take k))) ∧ Hid (Below w.heap.size w wr)) (fun i _ => s.size - (intOf i).toNat)
  case atStart => exact ⟨0, rfl, by omega, HB1.out, HL1.out⟩
  case round =>
    obtain ⟨k, rfl, hk, HB, HL⟩ := hrel
    have hlen : w.heap.size ≤ wr.heap.size := HL.out.size
    have hz := escs_take_size s k hk
    by_cases hlt : k < s.size
    · have hki : (k : Int) < (s.size : Int) := by omega
      have ET := Lib.hid (escs_take hlt)
      generalize escsL (s.data.toList.take k) = acc at *
      have EO := Lib.hid (esc_one s[k])
      by_cases h2 : s[k] = 92 ∨ s[k] = 34
      · have E2 := Lib.hid (esc_two h2)
        rw [E2.out] at ET
        have W1 := Lib.hid (fun w2 h hs => wbyte_any w.heap.size w.heap.size (34 :: acc) 92 w2 h (by simp; omega) hs)
        rw [show (((92 : UInt8).toNat : Nat) : Int) = 92 from rfl] at W1
        have W2 := Lib.hid (fun w2 h hs => wbyte_any w.heap.size w.heap.size (34 :: acc ++ [92]) s[k] w2 h (by simp; omega) hs)
        have hq : ((s[k].toNat : Int) == 92) = true ∨ (((s[k].toNat : Int) == 92) = false ∧ ((s[k].toNat : Int) == 34) = true) := by
          rcases h2 with h2 | h2
          · left; rw [h2]; rfl
          · right; rw [h2]; exact ⟨rfl, rfl⟩
        clear h2
        have FIN : Hid (∀ w4, Bld w4 w.heap.size w.heap.size (34 :: acc ++ [92] ++ [s[k]]) → Below w.heap.size w w4 → ∃ k2 : Nat, (Value.int .i64 ((k : Int) + 1)) = .int .i64 (k2 : Int) ∧ k2 ≤ s.size ∧ Hid (Bld w4 w.heap.size w.heap.size (34 :: escsL (s.data.toList.take k2))) ∧ Hid (Below w.heap.size w w4)) := by
          intro w4 h4 l4
          exact ⟨k + 1, by simp, hlt, by show Bld _ _ _ _; rw [ET.out]; simpa using h4, l4⟩
        rcases hq with hq | ⟨hq1, hq2⟩
        all_goals
          go_wp2_with fail
          refine (W1.out _ HB.out hlen).mono ?_; rintro e w2 ⟨rfl, hB2, hL2⟩
          have HB2 := Lib.hid hB2
          have HL2 := Lib.hid (HL.out.trans hL2)
          have hl2 : w.heap.size ≤ w2.heap.size := HL2.out.size
          clear hB2 hL2
          go_wp2_with fail
          refine (W2.out _ HB2.out hl2).mono ?_; rintro e w3 ⟨rfl, hB3, hL3⟩
          have HB3 := Lib.hid hB3
          have HL3 := Lib.hid (HL2.out.trans hL3)
          clear hB3 hL3
          go_wp2_with fail
          go_round
          case rel => exact ⟨k + 1, by go_num, hlt, by show Bld _ _ _ _; rw [ET.out]; simpa using HB3.out, HL3.out⟩
          case measure => simp [intOf]; omega
      · have q92 : ((s[k].toNat : Int) == 92) = false := by
          rw [beq_eq_false_iff_ne]; intro e; exact h2 (.inl (ci_inj (show ci s[k] = ci 92 from e)))
        have q34 : ((s[k].toNat : Int) == 34) = false := by
          rw [beq_eq_false_iff_ne]; intro e; exact h2 (.inr (ci_inj (show ci s[k] = ci 34 from e)))
        by_cases hlow : s[k].toNat < 32
        · have hlo : (s[k].toNat : Int) < 32 := by omega
          have EE := Lib.hid (fun w => escaped_any s[k] hlow w)
          have hbo : (bs (escL s[k])).size ≤ 1000000 := by rw [bs_size]; have := EO.out.2.2.2; omega
          have WS := Lib.hid (fun w2 h hs => wstring_any w.heap.size w.heap.size (34 :: acc) (bs (escL s[k])) w2 h (by simp; omega) hbo hs)
          rw [bs_list] at WS
          generalize escL s[k] = es at *
          have HBS : Hid ((bs es).data.toList = es) := rfl
          generalize bs es = bo at *
          clear h2 hlow hbo
          go_wp2_with fail
          refine (EE.out _).mono ?_; rintro e w2 ⟨rfl, n2, rfl⟩
          have HB2 : Hid (Bld (wr.drewN n2) w.heap.size w.heap.size (34 :: acc)) := HB.out
          have HL2 : Hid (Below w.heap.size w (wr.drewN n2)) := below_drewN HL.out n2
          have hl2 : w.heap.size ≤ (wr.drewN n2).heap.size := hlen
          generalize wr.drewN n2 = w2 at *
          go_wp2_with fail
          refine (WS.out _ HB2.out hl2).mono ?_; rintro e w3 ⟨rfl, hB3, hL3⟩
          have HB3 := Lib.hid hB3
          have HL3 := Lib.hid (HL2.out.trans hL3)
          clear hB3 hL3
          go_wp2_with fail
          go_round
          case rel => exact ⟨k + 1, by go_num, hlt, by show Bld _ _ _ _; rw [ET.out]; simpa using HB3.out, HL3.out⟩
          case measure => simp [intOf]; omega
        · have hlo : ¬ (s[k].toNat : Int) < 32 := by omega
          have E2 := Lib.hid (esc_self h2 hlow)
          rw [E2.out] at ET
          have W2 := Lib.hid (fun w2 h hs => wbyte_any w.heap.size w.heap.size (34 :: acc) s[k] w2 h (by simp; omega) hs)
          clear h2 hlow
          go_wp2_with fail
          refine (W2.out _ HB.out hlen).mono ?_; rintro e w3 ⟨rfl, hB3, hL3⟩
          have HB3 := Lib.hid hB3
          have HL3 := Lib.hid (HL.out.trans hL3)
          clear hB3 hL3
          go_wp2_with fail
          go_round
          case rel => exact ⟨k + 1, by go_num, hlt, by show Bld _ _ _ _; rw [ET.out]; simpa using HB3.out, HL3.out⟩
          case measure => simp [intOf]; omega
    · have hki : ¬ (k : Int) < (s.size : Int) := by omega
      have HB' : Hid (Bld wr w.heap.size w.heap.size (34 :: escsL s.data.toList)) := by
        have e : s.data.toList.take k = s.data.toList := List.take_of_length_le (by rw [list_size']; omega)
        rw [← e]; exact HB.out
      have hz2 := escs_size s.data.toList
      rw [list_size'] at hz2
      have HQ : Hid (quoteL s.data.toList = 34 :: escsL s.data.toList ++ [34]) := rfl
      generalize escsL s.data.toList = E at *
      clear HB
      have W2 := Lib.hid (fun w2 h hs => wbyte_any w.heap.size w.heap.size (34 :: E) 34 w2 h (by simp; omega) hs)
      rw [show (((34 : UInt8).toNat : Nat) : Int) = 34 from rfl] at W2
      have ST := Lib.hid (fun w2 h hs => bstring_any w.heap.size w.heap.size (34 :: E ++ [34]) w2 h hs)
      go_wp2_with fail
      refine (W2.out _ HB'.out hlen).mono ?_; rintro e w3 ⟨rfl, hB3, hL3⟩
      have HB3 := Lib.hid hB3
      have HL3 := Lib.hid (HL.out.trans hL3)
      have hl3 : w.heap.size ≤ w3.heap.size := HL3.out.size
      clear hB3 hL3
      go_wp2_with fail
      refine (ST.out _ HB3.out hl3).mono ?_; rintro e w4 ⟨rfl, hL4⟩
      have HL4 := Lib.hid (HL3.out.trans hL4)
      clear hL4
      go_wp2_with fail
      go_ret
      exact ⟨by rw [HQ.out]; rfl, HL4.out⟩
end Go.Proofs.YtnkfodelgpidkaaGreatDoor
namespace Go.Proofs.YtnkfodelgpidkaaGreatDoor
open Go.RowKit
set_option linter.unusedVariables false

theorem ext_one {s : ByteArray} {k : Nat} (h : k < s.size) : (s.extract k (k + 1)).data.toList = [s[k]] := by
  rw [Lib.extract_data, drop_cons s k h]; simp
theorem ba_list (a b : ByteArray) : (a ++ b).data.toList = a.data.toList ++ b.data.toList := by simp
theorem byte_ne {c : UInt8} {n : UInt8} (h : ¬ c = n) : ((c.toNat : Int) == (n.toNat : Int)) = false := by
  rw [beq_eq_false_iff_ne]; intro e; exact h (ci_inj (show ci c = ci n from e))
theorem esc_nl : escL 10 = [92, 110] := rfl
theorem esc_cr : escL 13 = [92, 114] := rfl
theorem esc_tab : escL 9 = [92, 116] := rfl

set_option maxRecDepth 100000 in
set_option maxHeartbeats 400000 in
theorem rquote_any (s : ByteArray) (hs : s.size ≤ 100000) (w : World) :
    Calls Tryz.prog 134 #[.string s] w fun e w' => e = .returned (.string (bs (quoteL s.data.toList))) ∧ ∃ n, w' = w.drewN n := by
  have HQ : Hid (quoteL s.data.toList = 34 :: escsL s.data.toList ++ [34]) := rfl
  go_enter Tryz.func134, Tryz.ntmps134
  go_wp2_with fail
  go_loopw [3, 4] (fun oo ii wr => ∃ (k : Nat) (a : ByteArray), ii = .int .i64 (k : Int) ∧ oo = .string a ∧ k ≤ s.size ∧ a.size ≤ 6 * k + 1 ∧ Hid (a.data.toList = 34 :: escsL (s.data.toList.take k)) ∧ Hid (∃ n, wr = w.drewN n)) (fun _ ii _ => s.size - (intOf ii).toNat)
  case atStart => exact ⟨0, ⟨#[34]⟩, rfl, rfl, by omega, by decide, rfl, ⟨0, rfl⟩⟩
  case round =>
    obtain ⟨k, a, rfl, rfl, hk, has, HA, HW⟩ := hrel
    obtain ⟨n0, rfl⟩ := HW.out
    by_cases hlt : k < s.size
    · have hki : (k : Int) < (s.size : Int) := by omega
      have ET := Lib.hid (escs_take hlt)
      have EX := Lib.hid (ext_one hlt)
      have exs : (s.extract k (k + 1)).size = 1 := by rw [ByteArray.size_extract]; omega
      by_cases h2 : s[k] = 92 ∨ s[k] = 34
      · have E2 := Lib.hid (esc_two h2)
        have hq : ((s[k].toNat : Int) == 92) = true ∨ (((s[k].toNat : Int) == 92) = false ∧ ((s[k].toNat : Int) == 34) = true) := by
          rcases h2 with h2 | h2
          · left; rw [h2]; rfl
          · right; rw [h2]; exact ⟨rfl, rfl⟩
        clear h2
        rcases hq with hq | ⟨hq1, hq2⟩
        all_goals
          go_wp2_with fail
          exact ⟨⟨k + 1, a ++ ⟨#[92]⟩ ++ s.extract k (k + 1), by go_num, rfl, hlt, by rw [ByteArray.size_append, ByteArray.size_append, exs]; show a.size + 1 + 1 ≤ _; omega, by show _ = _; rw [ET.out, E2.out, ba_list, ba_list, HA.out, EX.out]; simp, ⟨_, rfl⟩⟩, by simp [intOf]; omega⟩
      · have q92 : ((s[k].toNat : Int) == 92) = false := byte_ne (n := 92) fun e => h2 (.inl e)
        have q34 : ((s[k].toNat : Int) == 34) = false := byte_ne (n := 34) fun e => h2 (.inr e)
        by_cases h10 : s[k] = 10
        · rw [h10, esc_nl] at ET
          have q10 : ((s[k].toNat : Int) == 10) = true := by rw [h10]; rfl
          clear h2 h10
          go_wp2_with fail
          exact ⟨⟨k + 1, a ++ ⟨#[92, 110]⟩, by go_num, rfl, hlt, by rw [ByteArray.size_append]; show a.size + 2 ≤ _; omega, by show _ = _; rw [ET.out, ba_list, HA.out]; simp, ⟨_, rfl⟩⟩, by simp [intOf]; omega⟩
        · have q10 : ((s[k].toNat : Int) == 10) = false := byte_ne (n := 10) h10
          by_cases h13 : s[k] = 13
          · rw [h13, esc_cr] at ET
            have q13 : ((s[k].toNat : Int) == 13) = true := by rw [h13]; rfl
            clear h2 h13 h10
            go_wp2_with fail
            exact ⟨⟨k + 1, a ++ ⟨#[92, 114]⟩, by go_num, rfl, hlt, by rw [ByteArray.size_append]; show a.size + 2 ≤ _; omega, by show _ = _; rw [ET.out, ba_list, HA.out]; simp, ⟨_, rfl⟩⟩, by simp [intOf]; omega⟩
          · have q13 : ((s[k].toNat : Int) == 13) = false := byte_ne (n := 13) h13
            by_cases h9 : s[k] = 9
            · rw [h9, esc_tab] at ET
              have q9 : ((s[k].toNat : Int) == 9) = true := by rw [h9]; rfl
              clear h2 h13 h10 h9
              go_wp2_with fail
              exact ⟨⟨k + 1, a ++ ⟨#[92, 116]⟩, by go_num, rfl, hlt, by rw [ByteArray.size_append]; show a.size + 2 ≤ _; omega, by show _ = _; rw [ET.out, ba_list, HA.out]; simp, ⟨_, rfl⟩⟩, by simp [intOf]; omega⟩
            · have q9 : ((s[k].toNat : Int) == 9) = false := byte_ne (n := 9) h9
              by_cases hlow : s[k].toNat < 32
              · have hlo : (s[k].toNat : Int) < 32 := by omega
                have hlo0 : 0 ≤ (s[k].toNat : Int) := by omega
                clear h2 h13 h10 h9
                go_wp2_with fail
                have EC : Hid (∀ n : Nat, (s[k].toNat : Int) = n → escL s[k] = escL (UInt8.ofNat n)) := fun n h => by
                  have e : s[k].toNat = n := by omega
                  rw [← e, UInt8.ofNat_toNat]
                generalize (s[k].toNat : Int) = x at *
                have hx : x = 0 ∨ x = 1 ∨ x = 2 ∨ x = 3 ∨ x = 4 ∨ x = 5 ∨ x = 6 ∨ x = 7 ∨ x = 8 ∨ x = 11 ∨ x = 12 ∨ x = 14 ∨ x = 15 ∨ x = 16 ∨ x = 17 ∨ x = 18 ∨ x = 19 ∨ x = 20 ∨ x = 21 ∨ x = 22 ∨ x = 23 ∨ x = 24 ∨ x = 25 ∨ x = 26 ∨ x = 27 ∨ x = 28 ∨ x = 29 ∨ x = 30 ∨ x = 31 := by
                  simp only [beq_eq_false_iff_ne] at q92 q34 q10 q13 q9; omega
                clear q92 q34 q10 q13 q9 hlow hlo hlo0 hki
                rcases hx with rfl | rfl | rfl | rfl | rfl | rfl | rfl | rfl | rfl | rfl | rfl | rfl | rfl | rfl | rfl | rfl | rfl | rfl | rfl | rfl | rfl | rfl | rfl | rfl | rfl | rfl | rfl | rfl | rfl
                all_goals
                  have E2 := Lib.hid (EC.out _ rfl)
                  clear EC
                  go_quiet (fail)
                  go_wp2_with fail
                  exact ⟨⟨k + 1, _, by go_num, rfl, hlt, by rw [ByteArray.size_append, ByteArray.size_append, ByteArray.size_append]; show a.size + 4 + 1 + 1 ≤ _; omega, by show _ = _; rw [ET.out, E2.out, ba_list, ba_list, ba_list, HA.out]; simp; rfl, ⟨_, rfl⟩⟩, by simp [intOf]; omega⟩
              · have hlo : ¬ (s[k].toNat : Int) < 32 := by omega
                have E2 := Lib.hid (esc_self h2 hlow)
                clear h2 h13 h10 h9 hlow
                go_wp2_with fail
                exact ⟨⟨k + 1, a ++ s.extract k (k + 1), by go_num, rfl, hlt, by rw [ByteArray.size_append, exs]; omega, by show _ = _; rw [ET.out, E2.out, ba_list, HA.out, EX.out]; simp, ⟨_, rfl⟩⟩, by simp [intOf]; omega⟩
    · have hki : ¬ (k : Int) < (s.size : Int) := by omega
      have e : s.data.toList.take k = s.data.toList := List.take_of_length_le (by rw [list_size']; omega)
      rw [e] at HA
      clear e
      go_wp2_with fail
      go_ret
      exact ⟨congrArg (fun s => Ending.returned (.string s)) (bs_eq (by rw [ba_list, HA.out, HQ.out])), ⟨_, rfl⟩⟩
end Go.Proofs.YtnkfodelgpidkaaGreatDoor
namespace Go.Proofs.YtnkfodelgpidkaaGreatDoor
open Go.RowKit
set_option linter.unusedVariables false

/-- What is written of a token's parts. -/
def prS (k : Int) (x : ByteArray) (b : Int) : ByteArray :=
  if k = 1 ∨ k = 2 ∨ k = 5 then x else if k = 3 then Bt.textI b else if k = 4 then bs (quoteL x.data.toList) else ⟨#[]⟩
theorem pr_list (t : Tk) : prS t.kind (bs t.text) t.bits = bs (printL t) := by
  unfold prS printL
  split
  · rfl
  · split
    · exact bs_eq rfl
    · split
      · rfl
      · rfl

set_option maxRecDepth 100000 in
set_option maxHeartbeats 1000000 in
theorem print_any (k p b : Int) (x : ByteArray) (hx : x.size ≤ 100000) (b0 : 0 ≤ b) (b1 : b < 18446744073709551616) (w : World) (ht : Bt.tab w) :
    Calls Tryz.prog 17 #[.agg #[.int .i64 k, .int .i64 p, .string x, .int .u64 b]] w fun e w' => e = .returned (.string (prS k x b)) ∧ Below w.heap.size w w' := by
  have C := Lib.hid (fun w => clone_any x (by omega) w)
  have T := Lib.hid (fun w ht => Bt.text_any b b0 b1 w ht)
  have HT := Lib.hid (fun o => Bt.tab_below ht ((Below.refl _ w).alloc (Nat.le_refl _) o))
  have Q := Lib.hid (fun w => quoted_any x hx w)
  have HK : k = 1 ∨ k = 2 ∨ k = 5 ∨ k = 3 ∨ k = 4 ∨ ((k == 1) = false ∧ (k == 2) = false ∧ (k == 5) = false ∧ (k == 3) = false ∧ (k == 4) = false) := by
    simp only [beq_eq_false_iff_ne]; omega
  have HP : Hid (prS k x b = if k = 1 ∨ k = 2 ∨ k = 5 then x else if k = 3 then Bt.textI b else if k = 4 then bs (quoteL x.data.toList) else ⟨#[]⟩) := rfl
  generalize bs (quoteL x.data.toList) = q at *
  generalize Bt.textI b = tx at *
  clear hx b0 b1 ht
  rcases HK with rfl | rfl | rfl | rfl | rfl | ⟨k1, k2, k5, k3, k4⟩
  · go_enter Tryz.func17, Tryz.ntmps17
    go_wp2_with fail
    refine (C.out _).mono ?_; rintro e w1 ⟨rfl, hB⟩
    go_wp2_with fail
    go_ret
    exact ⟨rfl, below_new hB⟩
  · go_enter Tryz.func17, Tryz.ntmps17
    go_wp2_with fail
    refine (C.out _).mono ?_; rintro e w1 ⟨rfl, hB⟩
    go_wp2_with fail
    go_ret
    exact ⟨rfl, below_new hB⟩
  · go_enter Tryz.func17, Tryz.ntmps17
    go_wp2_with fail
    refine (C.out _).mono ?_; rintro e w1 ⟨rfl, hB⟩
    go_wp2_with fail
    go_ret
    exact ⟨rfl, below_new hB⟩
  · go_enter Tryz.func17, Tryz.ntmps17
    go_wp2_with fail
    refine (T.out _ (HT.out _)).mono ?_; rintro e w1 ⟨rfl, hB⟩
    go_wp2_with fail
    go_ret
    exact ⟨by rw [HP.out]; rfl, below_new hB⟩
  · go_enter Tryz.func17, Tryz.ntmps17
    go_wp2_with fail
    refine (Q.out _).mono ?_; rintro e w1 ⟨rfl, hB⟩
    go_wp2_with fail
    go_ret
    exact ⟨by rw [HP.out]; rfl, below_new hB⟩
  · have HE : Hid (prS k x b = ⟨#[]⟩) := by
      simp only [beq_eq_false_iff_ne] at k1 k2 k5 k3 k4
      show _ = _
      rw [HP.out, if_neg (by omega), if_neg k3, if_neg k4]
    go_enter Tryz.func17, Tryz.ntmps17
    go_wp2_with fail
    go_ret
    exact ⟨by rw [HE.out]; rfl, below_new (Below.refl _ _)⟩

set_option maxRecDepth 100000 in
set_option maxHeartbeats 1000000 in
theorem rlname_any (s : ByteArray) (hs : s.size ≤ 1000000) (w : World) :
    Calls Tryz.prog 185 #[.string s] w fun e w' => e = .returned (.bool (nameB s.data.toList)) ∧ ∃ n, w' = w.drewN n := by
  have N := Lib.hid (fun w => rname_any s hs w)
  have W := Lib.hid (fun w => rword_any s w)
  have HN : Hid (nameB s.data.toList = (!s.data.toList.isEmpty && nameN s.data.toList == s.data.toList.length && !wordB s.data.toList)) := rfl
  have HS := Lib.hid (list_size' s)
  generalize hm : nameN s.data.toList = m at *
  by_cases he : s.data.toList = []
  · have h1 : s.toList.isEmpty = true := by rw [Lib.toList_data, he]; rfl
    have h2 : s.toList = [] := by rw [Lib.toList_data, he]
    have HE : Hid (nameB s.data.toList = false) := by show _ = _; rw [HN.out, he]; rfl
    clear he hm
    go_enter Tryz.func185, Tryz.ntmps185
    go_wp2_with fail
    go_ret
    exact ⟨by rw [HE.out]; rfl, 0, rfl⟩
  · have h1 : s.toList.isEmpty = false := by rw [Lib.toList_data]; simpa using he
    have h2 : ¬ s.toList = [] := by rw [Lib.toList_data]; exact he
    have h3 : s.data.toList.isEmpty = false := by simpa using he
    rw [h3, HS.out] at HN
    clear he hm h3
    by_cases hq : m = s.size
    · have q : ((m : Int) == (s.size : Int)) = true := by rw [hq]; simp
      have HE : Hid (nameB s.data.toList = !wordB s.data.toList) := by show _ = _; rw [HN.out, hq]; simp
      clear hq
      go_enter Tryz.func185, Tryz.ntmps185
      go_wp2_with fail
      refine (N.out _).mono ?_; rintro e w' ⟨rfl, rfl⟩
      go_wp2_with fail
      refine (W.out _).mono ?_; rintro e w' ⟨rfl, rfl⟩
      go_wp2_with fail
      go_ret
      exact ⟨by rw [HE.out]; rfl, 0, rfl⟩
    · have q : ((m : Int) == (s.size : Int)) = false := by rw [beq_eq_false_iff_ne]; omega
      have HE : Hid (nameB s.data.toList = false) := by
        show _ = _; rw [HN.out, show (m == s.size) = false by rw [beq_eq_false_iff_ne]; exact hq]; simp
      clear hq
      go_enter Tryz.func185, Tryz.ntmps185
      go_wp2_with fail
      refine (N.out _).mono ?_; rintro e w' ⟨rfl, rfl⟩
      go_wp2_with fail
      go_ret
      exact ⟨by rw [HE.out]; rfl, 0, rfl⟩

/-- Two lists of tokens that are alike but for their places. -/
def Like (l m : List Tk) : Prop := l.length = m.length ∧ ∀ (k : Nat) (h : k < l.length) (h2 : k < m.length), l[k].kind = m[k].kind ∧ l[k].text = m[k].text ∧ l[k].bits = m[k].bits
end Go.Proofs.YtnkfodelgpidkaaGreatDoor
