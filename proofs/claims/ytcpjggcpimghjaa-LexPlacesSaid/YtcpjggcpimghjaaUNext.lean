/- The sign at a place, by the program. -/
import Derived.Test.YtcpjggcpimghjaaUBase
import Derived.LoopTactic
namespace Go.Proofs.Ytcpjggcpimghjaa
open Go.RowKit
set_option linter.unusedVariables false

theorem list_size (s : ByteArray) : s.data.toList.length = s.size := (Lib.size_eq s).symm

set_option maxRecDepth 100000 in
set_option maxHeartbeats 1000000 in
theorem next_out (s : ByteArray) (hs : s.size ≤ 9223372036854775807) (i : Int) (h : i < 0 ∨ (s.size : Int) ≤ i) (w : World) :
    Calls Try.prog 22 #[.string s, .int .i64 i] w fun e w' => e = .returned (.tuple #[.int .i64 (-1), .int .i64 0]) ∧ w = w' := by
  rcases h with h | h
  · go_enter Try.func22, Try.ntmps22
    go_wp2
    go_ret2
    exact ⟨rfl, rfl⟩
  · have h2 : ¬ i < 0 := by omega
    go_enter Try.func22, Try.ntmps22
    go_wp2
    go_ret2
    exact ⟨rfl, rfl⟩

set_option maxRecDepth 100000 in
set_option maxHeartbeats 2000000 in
theorem next_any (s : ByteArray) (hs : s.size ≤ 9223372036854775807) (k : Nat) (hk : k < s.size) (w : World) :
    Calls Try.prog 22 #[.string s, .int .i64 (k : Int)] w fun e w' => e = .returned (.tuple #[.int .i64 (signAt s.data.toList k), .int .i64 (stepAt s.data.toList k : Nat)]) ∧ w = w' := by
  have hl := list_size s
  have hc0 : (0 : Int) ≤ (s[k].toNat : Int) := Int.natCast_nonneg _
  have hc1 : (s[k].toNat : Int) < 256 := by have := s[k].toNat_lt; omega
  have C := Lib.hid (fun w => lead_any (s[k].toNat : Int) hc0 hc1 w)
  have HB := Lib.hid (by8_in hk)
  have hr := led_range hc0 hc1
  have Z := Lib.hid (@at_zero s.data.toList k)
  have SL := Lib.hid (size_of_led s.data.toList k)
  have O1 := Lib.hid (@at_one s.data.toList k)
  have OV := Lib.hid (at_over (L := s.data.toList) (k := k) (by omega))
  have OW := Lib.hid (fun m : Nat => @at_whole s.data.toList k m)
  have OB := Lib.hid (fun t : Nat => @at_bad s.data.toList k t)
  rw [HB.out] at SL O1 OV OW OB
  have HL := Lib.hid hl
  clear hl
  generalize signAt s.data.toList k = x at *
  generalize stepAt s.data.toList k = y at *
  generalize hu : ledU (s[k].toNat : Int) = u at *
  generalize hm : ledN (s[k].toNat : Int) = m at *
  clear hu hm
  obtain ⟨r0, r1, r2, r3, r4, r5⟩ := hr
  by_cases h0 : m = 0
  · have hz : sizeAt s.data.toList k = 0 := by rcases SL.out with h | h <;> omega
    have E := Lib.hid (Z.out hz)
    subst h0
    clear hz
    go_enter Try.func22, Try.ntmps22
    go_wp2_with (go_at_call 32; refine (C.out _).mono ?_; rintro e w' ⟨rfl, rfl⟩)
    go_ret2
    exact ⟨ret_ints E.out.1.symm (by rw [E.out.2]; rfl), rfl⟩
  · by_cases h1 : m = 1
    · have E := Lib.hid (O1.out h1)
      subst h1
      have S := Lib.hid (fun w => sizeOf_any u w)
      rw [E.out.2.2.1] at S
      clear r4 h0
      go_enter Try.func22, Try.ntmps22
      go_wp2_with (go_at_call 32; refine (C.out _).mono ?_; rintro e w' ⟨rfl, rfl⟩)
      go_loop [4, 5, 6] (fun v n i => v = .int .i64 u ∧ n = .int .i64 1 ∧ i = .int .i64 1) (fun _ _ _ => 0)
      case atStart => exact ⟨rfl, rfl, rfl⟩
      case round =>
        obtain ⟨rfl, rfl, rfl⟩ := hrel
        go_wp2_with (go_at_call 33; refine (S.out _).mono ?_; rintro e w' ⟨rfl, rfl⟩)
        go_ret2
        exact ⟨ret_ints E.out.1.symm (by rw [E.out.2.1]; rfl), rfl⟩
    · obtain ⟨m, rfl⟩ : ∃ n : Nat, m = n := ⟨m.toNat, by omega⟩
      have m2 : 2 ≤ m := by omega
      have m4 : m ≤ 4 := by omega
      by_cases hf : (s.size : Int) - k < m
      · have E := Lib.hid (Z.out (OV.out (by rw [HL.out]; omega)))
        have hne : ((m : Int) == 0) = false := by rw [beq_eq_false_iff_ne]; omega
        go_enter Try.func22, Try.ntmps22
        go_wp2_with (go_at_call 32; refine (C.out _).mono ?_; rintro e w' ⟨rfl, rfl⟩)
        go_ret2
        exact ⟨ret_ints E.out.1.symm (by rw [E.out.2]; rfl), rfl⟩
      · have hne : ((m : Int) == 0) = false := by rw [beq_eq_false_iff_ne]; omega
        go_enter Try.func22, Try.ntmps22
        go_wp2_with (go_at_call 32; refine (C.out _).mono ?_; rintro e w' ⟨rfl, rfl⟩)
        go_loop [4, 5, 6] (fun v n i => ∃ j : Nat, n = .int .i64 (m : Int) ∧ i = .int .i64 ((j + 1 : Nat) : Int) ∧ j + 1 ≤ m ∧ v = .int .i64 (accA s.data.toList k u j) ∧ Hid (tails s.data.toList k j)) (fun _ _ i => 4 - (intOf i).toNat)
        case atStart => exact ⟨0, rfl, rfl, by omega, rfl, fun t h1 h2 => absurd h2 (by omega)⟩
        case round =>
          obtain ⟨j, rfl, rfl, hj, rfl, HT⟩ := hrel
          have ha := accA_bound s.data.toList k r2 (r5 (by omega)) (show j ≤ 3 by omega)
          by_cases hlt : j + 1 < m
          · have hin : k + (j + 1) < s.size := by omega
            have hb0 : (0 : Int) ≤ (s[k + (j + 1)].toNat : Int) := Int.natCast_nonneg _
            have hb1 : (s[k + (j + 1)].toNat : Int) < 256 := by have := s[k + (j + 1)].toNat_lt; omega
            have HBJ := Lib.hid (by8_in hin)
            have HA : Hid (accA s.data.toList k u (j + 1) = accA s.data.toList k u j * 64 + by8 s.data.toList (k + (j + 1)) % 64) := rfl
            have OBJ := Lib.hid (fun h => OB.out (j + 1) (by omega) (by omega) h)
            rw [HBJ.out] at HA OBJ
            have N63 := Lib.hid (not63 hb0 hb1)
            by_cases ht : 128 ≤ (s[k + (j + 1)].toNat : Int) ∧ (s[k + (j + 1)].toNat : Int) < 192
            · have hq : (bits .andNot .u8 (s[k + (j + 1)].toNat : Int) 63 != 128) = false := by rw [N63.out, bne_eq_false_iff_eq]; omega
              go_wp2
              refine ⟨⟨j + 1, rfl, by go_num, by omega, ?_, ?_⟩, by simp [intOf]; omega⟩
              · rw [ior6 (by omega) (by omega) (by omega) (by omega) (by omega), HA.out]
              · intro t h1 h2
                by_cases e : t ≤ j
                · exact HT.out t h1 e
                · obtain rfl : t = j + 1 := by omega
                  rw [HBJ.out]; exact ht
            · have hq : (bits .andNot .u8 (s[k + (j + 1)].toNat : Int) 63 != 128) = true := by rw [N63.out, bne_iff_ne]; omega
              have E := Lib.hid (Z.out (OBJ.out ht))
              go_wp2
              go_ret2
              exact ⟨ret_ints E.out.1.symm (by rw [E.out.2]; rfl), rfl⟩
          · have hjm : j + 1 = m := by omega
            have hd := Lib.hid (OW.out m rfl m2 (by rw [← hjm]; exact HT.out))
            rw [← hjm, Nat.add_sub_cancel] at hd
            have S := Lib.hid (fun w => sizeOf_any (accA s.data.toList k u j) w)
            generalize accA s.data.toList k u j = a at *
            generalize sizeI a = sz at *
            rcases hd.out with ⟨d1, d2⟩ | ⟨d1, d2⟩
            · have hq : (sz != (m : Int)) = false := by rw [bne_eq_false_iff_eq]; omega
              have E := Lib.hid d2
              clear d1 d2
              go_wp2_with (go_at_call 33; refine (S.out _).mono ?_; rintro e w' ⟨rfl, rfl⟩)
              go_ret2
              exact ⟨ret_ints E.out.1.symm (by rw [E.out.2, hjm]), rfl⟩
            · have hq : (sz != (m : Int)) = true := by rw [bne_iff_ne]; omega
              have E := Lib.hid (Z.out d2)
              clear d1 d2
              go_wp2_with (go_at_call 33; refine (S.out _).mono ?_; rintro e w' ⟨rfl, rfl⟩)
              go_ret2
              exact ⟨ret_ints E.out.1.symm (by rw [E.out.2]; rfl), rfl⟩
end Go.Proofs.Ytcpjggcpimghjaa
