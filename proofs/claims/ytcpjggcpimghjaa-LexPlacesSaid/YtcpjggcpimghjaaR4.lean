/- The document's reading of a number that begins with a nought. -/
import Derived.Test.YtcpjggcpimghjaaR2
namespace Go.Proofs.Ytcpjggcpimghjaa
open Go.RowKit
set_option linter.unusedVariables false

set_option maxRecDepth 100000 in
set_option maxHeartbeats 8000000 in
theorem rnumber_zero (s : ByteArray) (hs : s.size ≤ 1000000) (h0 : 0 < s.size) (hz : ((s[0].toNat : Int) == 48) = true) (hx : ∀ h1 : 1 < s.size, ((s[1].toNat : Int) == 120) = false ∧ ((s[1].toNat : Int) == 88) = false) (HN : Hid (1 < nmL s.data.toList → numO (s.data.toList.take (nmL s.data.toList)) = none)) (HS : Hid (nmL s.data.toList = 1 → numO (s.data.toList.take (nmL s.data.toList)) = some 0)) (w : World) :
    Calls Try.prog 29 #[.string s] w fun e w' => e = .returned (.tuple #[.int .i64 (numN s.data.toList : Nat), .int .u64 (numB s.data.toList)]) ∧ w = w' := by
  have hc0 : (s[0].toNat : Int) = 48 := eq_of_beq hz
  have V0 := Lib.hid (fun w => rvalue_any (s[0].toNat : Int) (Int.natCast_nonneg _) (by have := s[0].toNat_lt; omega) w)
  have hn1 : 1 ≤ nmL s.data.toList := by
    have := nm_lt (s := s) (n := 0) (Nat.zero_le _) h0 (by rw [hc0]; rfl); omega
  rw [show valI (s[0].toNat : Int) = 0 by rw [hc0]; rfl] at V0
  have NNONE := Lib.hid (fun h => @num_none s.data.toList (HN.out h))
  have NSOME := Lib.hid (fun h => @num_some s.data.toList 0 (HS.out h))
  have OF := Lib.hid (fun w => rof_any 0 w)
  clear hc0
  by_cases h1 : 1 < s.size
  · obtain ⟨hx1, hx2⟩ := hx h1
    have V := Lib.hid (fun w => rvalue_any (s[1].toNat : Int) (Int.natCast_nonneg _) (by have := s[1].toNat_lt; omega) w)
    have L := Lib.hid (fun w => rLetter_any (s[1].toNat : Int) w)
    have D := Lib.hid (fun w => rDigit_any (s[1].toNat : Int) w)
    have NP := Lib.hid (np_parts (s[1].toNat : Int))
    have LT := Lib.hid (fun h => @nm_lt s 1 hn1 h1 h)
    have EQ := Lib.hid (fun h => @nm_eq s 1 hn1 h1 h)
    have hvv : (0 ≤ valI (s[1].toNat : Int) ∧ valI (s[1].toNat : Int) < 10) ∨ valI (s[1].toNat : Int) = -1 ∨ (0 ≤ valI (s[1].toNat : Int) ∧ ¬ valI (s[1].toNat : Int) < 10) := by
      have := hexI_range (s[1].toNat : Int)
      unfold valI; split <;> omega
    generalize valI (s[1].toNat : Int) = v at *
    clear hx
    go_enter Try.func29, Try.ntmps29
    go_wp2_with fail
    go_loop [4, 5] (fun nn xx => (nn = .int .i64 0 ∨ nn = .int .i64 1) ∧ xx = .int .i64 0) (fun nn _ => 1 - (intOf nn).toNat)
    case atStart => exact ⟨.inl rfl, rfl⟩
    case round =>
      obtain ⟨hnn, rfl⟩ := hrel
      rcases hnn with rfl | rfl
      · go_wp2_with (go_at_call 42; refine (V0.out _).mono ?_; rintro e w' ⟨rfl, rfl⟩)
        go_round
        case rel => exact ⟨.inr rfl, rfl⟩
        case measure => simp [intOf]
      · rcases hvv with ⟨hv, hv2⟩ | rfl | ⟨hv, hv2⟩
        all_goals
          cases hl : letB (s[1].toNat : Int)
          · cases hg : digB (s[1].toNat : Int)
            · rw [hl] at L NP
              rw [hg] at D NP
              have ES := Lib.hid (EQ.out NP.out)
              have E2 := Lib.hid (NSOME.out ES.out)
              clear hl hg
              go_wp2_with (first | (go_at_call 42; refine (V.out _).mono ?_; rintro e w' ⟨rfl, rfl⟩) | (go_at_call 41; refine (L.out _).mono ?_; rintro e w' ⟨rfl, rfl⟩) | (go_at_call 28; refine (D.out _).mono ?_; rintro e w' ⟨rfl, rfl⟩) | (go_at_call 43; refine (OF.out _).mono ?_; rintro e w' ⟨rfl, rfl⟩))
              go_ret2
              exact ⟨ret_ints (by rw [E2.out.1, ES.out]; rfl) (by rw [E2.out.2]), rfl⟩
            · rw [hl] at L NP
              rw [hg] at D NP
              have E2 := Lib.hid (NNONE.out (LT.out NP.out))
              clear hl hg
              go_wp2_with (first | (go_at_call 42; refine (V.out _).mono ?_; rintro e w' ⟨rfl, rfl⟩) | (go_at_call 41; refine (L.out _).mono ?_; rintro e w' ⟨rfl, rfl⟩) | (go_at_call 28; refine (D.out _).mono ?_; rintro e w' ⟨rfl, rfl⟩) | (go_at_call 43; refine (OF.out _).mono ?_; rintro e w' ⟨rfl, rfl⟩))
              go_ret2
              exact ⟨ret_ints (by rw [E2.out.1]; rfl) (by rw [E2.out.2]), rfl⟩
          · rw [hl] at L NP
            have E2 := Lib.hid (NNONE.out (LT.out (NP.out.trans rfl)))
            clear hl
            go_wp2_with (first | (go_at_call 42; refine (V.out _).mono ?_; rintro e w' ⟨rfl, rfl⟩) | (go_at_call 41; refine (L.out _).mono ?_; rintro e w' ⟨rfl, rfl⟩) | (go_at_call 28; refine (D.out _).mono ?_; rintro e w' ⟨rfl, rfl⟩) | (go_at_call 43; refine (OF.out _).mono ?_; rintro e w' ⟨rfl, rfl⟩))
            go_ret2
            exact ⟨ret_ints (by rw [E2.out.1]; rfl) (by rw [E2.out.2]), rfl⟩
  · have hs1 : s.size = 1 := by omega
    have ES := Lib.hid (nm_eq' (s := s) hn1 (by omega : s.size ≤ 1))
    have E2 := Lib.hid (NSOME.out ES.out)
    have hd1 : decide (1 < s.size) = false := by rw [decide_eq_false_iff_not]; exact h1
    have hi1 : ¬ (1 : Int) < (s.size : Int) := by omega
    have hi0 : (0 : Int) < (s.size : Int) := by omega
    have HS1 := Lib.hid hs1
    clear hs1 hx
    go_enter Try.func29, Try.ntmps29
    go_wp2_with fail
    go_loop [4, 5] (fun nn xx => (nn = .int .i64 0 ∨ nn = .int .i64 1) ∧ xx = .int .i64 0) (fun nn _ => 1 - (intOf nn).toNat)
    case atStart => exact ⟨.inl rfl, rfl⟩
    case round =>
      obtain ⟨hnn, rfl⟩ := hrel
      rcases hnn with rfl | rfl
      · go_wp2_with (go_at_call 42; refine (V0.out _).mono ?_; rintro e w' ⟨rfl, rfl⟩)
        go_round
        case rel => exact ⟨.inr rfl, rfl⟩
        case measure => simp [intOf]
      · go_wp2_with (go_at_call 43; refine (OF.out _).mono ?_; rintro e w' ⟨rfl, rfl⟩)
        go_ret2
        exact ⟨ret_ints (by rw [E2.out.1, ES.out]; rfl) (by rw [E2.out.2]), rfl⟩

end Go.Proofs.Ytcpjggcpimghjaa
