/- The document's reading of a number to the base 16. -/
import Derived.Test.YtcpjggcpimghjaaR2
namespace Go.Proofs.Ytcpjggcpimghjaa
open Go.RowKit
set_option linter.unusedVariables false

set_option maxRecDepth 100000 in
set_option maxHeartbeats 8000000 in
theorem rnumber_hex (s : ByteArray) (hs : s.size ≤ 1000000) (h0 : 0 < s.size) (h1 : 1 < s.size) (hz : ((s[0].toNat : Int) == 48) = true) (hx : ((s[1].toNat : Int) == 120) = true ∨ (((s[1].toNat : Int) == 120) = false ∧ ((s[1].toNat : Int) == 88) = true)) (hfrom : 2 ≤ nmL s.data.toList) (HQ : Hid (2 ≠ nmL s.data.toList → numO (s.data.toList.take (nmL s.data.toList)) = digs 16 ((s.data.toList.take (nmL s.data.toList)).drop 2) 0)) (HZ0 : Hid (nmL s.data.toList = 2 → numO (s.data.toList.take (nmL s.data.toList)) = none)) (w : World) :
    Calls Try.prog 29 #[.string s] w fun e w' => e = .returned (.tuple #[.int .i64 (numN s.data.toList : Nat), .int .u64 (numB s.data.toList)]) ∧ w = w' := by
  rcases hx with hx | ⟨hx, hy⟩
  all_goals
    go_enter Try.func29, Try.ntmps29
    go_wp2_with fail
    have HCS : Hid (digs 16 ((s.data.toList.take (nmL s.data.toList)).drop 2) 0 = digs 16 ((s.data.toList.take (nmL s.data.toList)).drop 2) 0) := rfl
    go_loop [4, 5] (fun nn xx => ∃ (n : Nat) (x : Int), nn = .int .i64 (n : Int) ∧ xx = .int .i64 x ∧ 2 ≤ n ∧ n ≤ nmL s.data.toList ∧ 0 ≤ x ∧ x ≤ 9007199254740992 ∧ Hid (digs 16 ((s.data.toList.take (nmL s.data.toList)).drop 2) 0 = digs 16 ((s.data.toList.take (nmL s.data.toList)).drop n) x)) (fun nn _ => s.size - (intOf nn).toNat)
    case atStart => exact ⟨2, 0, rfl, rfl, by omega, hfrom, by omega, by omega, rfl⟩
    case round =>
      obtain ⟨n, x, rfl, rfl, hfn, hnm, hx0, hx1, HC⟩ := hrel
      have hns : n ≤ s.size := Nat.le_trans hnm (nm_top s)
      by_cases hlt : n < s.size
      · have V := Lib.hid (fun w => rvalue_any (s[n].toNat : Int) (Int.natCast_nonneg _) (by have := s[n].toNat_lt; omega) w)
        have L := Lib.hid (fun w => rLetter_any (s[n].toNat : Int) w)
        have D := Lib.hid (fun w => rDigit_any (s[n].toNat : Int) w)
        have hr := hexI_range (s[n].toNat : Int)
        have NP := Lib.hid (np_parts (s[n].toNat : Int))
        have HNP := Lib.hid (@hex_np (s[n].toNat : Int))
        have LT := Lib.hid (fun h => @nm_lt s n hnm hlt h)
        have EQ := Lib.hid (fun h => @nm_eq s n hnm hlt h)
        have VB := Lib.hid (val_bad (s[n].toNat : Int))
        have VG := Lib.hid (val_good (s[n].toNat : Int))
        have PB := Lib.hid (fun h => @pdigs_bad 16 s (nmL s.data.toList) n hlt (nm_top s) h x)
        have PG := Lib.hid (fun h => @pdigs_big 16 s (nmL s.data.toList) n hlt (nm_top s) h x)
        have PM := Lib.hid (fun h => @pdigs_more 16 s (nmL s.data.toList) n hlt (nm_top s) h x)
        generalize hexI (s[n].toNat : Int) = d at *
        obtain ⟨hr0, hr1⟩ := hr
        by_cases hb : 16 ≤ d
        · -- the digits end here
          have hv : valI (s[n].toNat : Int) = -1 ∨ (valI (s[n].toNat : Int) = d ∧ ¬ d < 16) := by
            by_cases h16 : d = 16
            · exact .inl (VB.out h16)
            · exact .inr ⟨VG.out h16, by omega⟩
          have HHB := Lib.hid hb
          have EN : Hid (npB (s[n].toNat : Int) = true → numO (s.data.toList.take (nmL s.data.toList)) = none) := fun h => by
            have := LT.out h
            rw [HQ.out (by omega), HC.out, PB.out this HHB.out]
          have ES : Hid (npB (s[n].toNat : Int) = false → ¬ n = 2 → nmL s.data.toList = n ∧ numO (s.data.toList.take (nmL s.data.toList)) = some x) := fun h h2 => by
            have := EQ.out h
            exact ⟨this, by rw [HQ.out (by omega), HC.out, part_done (by omega)]; rfl⟩
          have E0 : Hid (npB (s[n].toNat : Int) = false → n = 2 → numO (s.data.toList.take (nmL s.data.toList)) = none) := fun h h2 => by
            have := EQ.out h
            exact HZ0.out (by omega)
          have NNONE := Lib.hid (@num_none s.data.toList)
          have NSOME := Lib.hid (fun v => @num_some s.data.toList v)
          have OF := Lib.hid (fun w => rof_any x w)
          generalize valI (s[n].toNat : Int) = v at *
          clear hr0 hr1 LT EQ VB VG PB PG PM HNP hb
          rcases hv with rfl | ⟨rfl, hv⟩
          all_goals
            cases hl : letB (s[n].toNat : Int)
            · cases hg : digB (s[n].toNat : Int)
              · rw [hl] at L NP
                rw [hg] at D NP
                by_cases hf : n = 2
                · have hq : ((n : Int) == 2) = true := by rw [beq_iff_eq]; omega
                  have E2 := Lib.hid (NNONE.out (E0.out NP.out hf))
                  clear hf hl hg
                  go_wp2_with (first | (go_at_call 42; refine (V.out _).mono ?_; rintro e w' ⟨rfl, rfl⟩) | (go_at_call 41; refine (L.out _).mono ?_; rintro e w' ⟨rfl, rfl⟩) | (go_at_call 28; refine (D.out _).mono ?_; rintro e w' ⟨rfl, rfl⟩) | (go_at_call 43; refine (OF.out _).mono ?_; rintro e w' ⟨rfl, rfl⟩))
                  go_ret2
                  exact ⟨ret_ints (by rw [E2.out.1]; rfl) (by rw [E2.out.2]), rfl⟩
                · have hq : ((n : Int) == 2) = false := by rw [beq_eq_false_iff_ne]; omega
                  have ES2 := Lib.hid (ES.out NP.out hf)
                  have E2 := Lib.hid (NSOME.out x ES2.out.2)
                  clear hf hl hg
                  go_wp2_with (first | (go_at_call 42; refine (V.out _).mono ?_; rintro e w' ⟨rfl, rfl⟩) | (go_at_call 41; refine (L.out _).mono ?_; rintro e w' ⟨rfl, rfl⟩) | (go_at_call 28; refine (D.out _).mono ?_; rintro e w' ⟨rfl, rfl⟩) | (go_at_call 43; refine (OF.out _).mono ?_; rintro e w' ⟨rfl, rfl⟩))
                  go_ret2
                  exact ⟨ret_ints (by rw [E2.out.1, ES2.out.1]) (by rw [E2.out.2]), rfl⟩
              · rw [hl] at L NP
                rw [hg] at D NP
                have E2 := Lib.hid (NNONE.out (EN.out NP.out))
                clear hl hg
                by_cases hf : n = 2
                · have hq : ((n : Int) == 2) = true := by rw [beq_iff_eq]; omega
                  clear hf
                  go_wp2_with (first | (go_at_call 42; refine (V.out _).mono ?_; rintro e w' ⟨rfl, rfl⟩) | (go_at_call 41; refine (L.out _).mono ?_; rintro e w' ⟨rfl, rfl⟩) | (go_at_call 28; refine (D.out _).mono ?_; rintro e w' ⟨rfl, rfl⟩) | (go_at_call 43; refine (OF.out _).mono ?_; rintro e w' ⟨rfl, rfl⟩))
                  go_ret2
                  exact ⟨ret_ints (by rw [E2.out.1]; rfl) (by rw [E2.out.2]), rfl⟩
                · have hq : ((n : Int) == 2) = false := by rw [beq_eq_false_iff_ne]; omega
                  clear hf
                  go_wp2_with (first | (go_at_call 42; refine (V.out _).mono ?_; rintro e w' ⟨rfl, rfl⟩) | (go_at_call 41; refine (L.out _).mono ?_; rintro e w' ⟨rfl, rfl⟩) | (go_at_call 28; refine (D.out _).mono ?_; rintro e w' ⟨rfl, rfl⟩) | (go_at_call 43; refine (OF.out _).mono ?_; rintro e w' ⟨rfl, rfl⟩))
                  go_ret2
                  exact ⟨ret_ints (by rw [E2.out.1]; rfl) (by rw [E2.out.2]), rfl⟩
            · rw [hl] at L NP
              have E2 := Lib.hid (NNONE.out (EN.out (NP.out.trans rfl)))
              clear hl
              by_cases hf : n = 2
              · have hq : ((n : Int) == 2) = true := by rw [beq_iff_eq]; omega
                clear hf
                go_wp2_with (first | (go_at_call 42; refine (V.out _).mono ?_; rintro e w' ⟨rfl, rfl⟩) | (go_at_call 41; refine (L.out _).mono ?_; rintro e w' ⟨rfl, rfl⟩) | (go_at_call 28; refine (D.out _).mono ?_; rintro e w' ⟨rfl, rfl⟩) | (go_at_call 43; refine (OF.out _).mono ?_; rintro e w' ⟨rfl, rfl⟩))
                go_ret2
                exact ⟨ret_ints (by rw [E2.out.1]; rfl) (by rw [E2.out.2]), rfl⟩
              · have hq : ((n : Int) == 2) = false := by rw [beq_eq_false_iff_ne]; omega
                clear hf
                go_wp2_with (first | (go_at_call 42; refine (V.out _).mono ?_; rintro e w' ⟨rfl, rfl⟩) | (go_at_call 41; refine (L.out _).mono ?_; rintro e w' ⟨rfl, rfl⟩) | (go_at_call 28; refine (D.out _).mono ?_; rintro e w' ⟨rfl, rfl⟩) | (go_at_call 43; refine (OF.out _).mono ?_; rintro e w' ⟨rfl, rfl⟩))
                go_ret2
                exact ⟨ret_ints (by rw [E2.out.1]; rfl) (by rw [E2.out.2]), rfl⟩
        · -- a digit
          have h16 : ¬ d = 16 := by omega
          have hlt2 := LT.out (HNP.out h16)
          have hveq := VG.out h16
          rw [hveq] at V
          have hx2 : 0 ≤ x * 16 + d := by omega
          have hdl : d < 16 := by omega
          have HHB := Lib.hid hb
          clear hb
          by_cases hbig : 9007199254740992 < x * 16 + d
          · have E := Lib.hid (HC.out.trans (PG.out hlt2 HHB.out hbig))
            have E2 := Lib.hid (num_none (L := s.data.toList) (by rw [HQ.out (by omega)]; exact E.out))
            clear hveq h16
            cases hq1 : ((n : Int) == 1)
            all_goals
              go_wp2_with (go_at_call 42; refine (V.out _).mono ?_; rintro e w' ⟨rfl, rfl⟩)
              go_ret2
              exact ⟨ret_ints (by rw [E2.out.1]; rfl) (by rw [E2.out.2]), rfl⟩
          · have E := Lib.hid (HC.out.trans (PM.out hlt2 HHB.out hbig))
            clear hveq h16
            cases hq1 : ((n : Int) == 1)
            all_goals
              go_wp2_with (go_at_call 42; refine (V.out _).mono ?_; rintro e w' ⟨rfl, rfl⟩)
              go_round
              case rel => exact ⟨n + 1, x * 16 + d, by go_num, by go_num, by omega, by omega, by omega, by omega, E.out⟩
              case measure => simp [intOf]; omega
      · have hnn := nm_eq' hnm (by omega : s.size ≤ n)
        have HNN := Lib.hid hnn
        have hd : decide (n < s.size) = false := by rw [decide_eq_false_iff_not]; exact hlt
        have OF := Lib.hid (fun w => rof_any x w)
        by_cases hf : n = 2
        · have hq : ((n : Int) == 2) = true := by rw [beq_iff_eq]; omega
          have E2 := Lib.hid (num_none (L := s.data.toList) (HZ0.out (by rw [HNN.out]; exact hf)))
          clear hf hnn
          go_wp2_with fail
          go_ret2
          exact ⟨ret_ints (by rw [E2.out.1]; rfl) (by rw [E2.out.2]), rfl⟩
        · have hq : ((n : Int) == 2) = false := by rw [beq_eq_false_iff_ne]; omega
          have E2 := Lib.hid (num_some (L := s.data.toList) (v := x) (by rw [HQ.out (by omega), HC.out, part_done (by omega)]; rfl))
          clear hf hnn
          go_wp2_with fail
          refine (OF.out _).mono ?_; rintro e w' ⟨rfl, rfl⟩
          go_wp2_with fail
          go_ret2
          exact ⟨ret_ints (by rw [E2.out.1, HNN.out]) (by rw [E2.out.2]), rfl⟩

end Go.Proofs.Ytcpjggcpimghjaa
