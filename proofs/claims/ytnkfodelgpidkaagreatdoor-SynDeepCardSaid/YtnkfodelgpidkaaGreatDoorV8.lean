/- Part of a proof that the program keeps SynDeep: contracts of its functions and of the document's. -/
import Derived.Test.YtnkfodelgpidkaaGreatDoorV7
import Derived.Test.YtnkfodelgpidkaaGreatDoorV5
import Derived.Deep.RegionHeld3
set_option maxRecDepth 100000
set_option maxHeartbeats 4000000
set_option linter.unusedVariables false
set_option linter.unusedSimpArgs false
namespace Go.Proofs.YtnkfodelgpidkaaGreatDoor
open Go.RowKit
def numN (L : List UInt8) : Nat := match numO (L.take (nmL L)) with | some _ => nmL L | none => 0
def numB (L : List UInt8) : Int := match numO (L.take (nmL L)) with | some v => ofI v | none => 0
theorem num_none {L : List UInt8} (h : numO (L.take (nmL L)) = none) : numN L = 0 ∧ numB L = 0 := by unfold numN numB; rw [h]; exact ⟨rfl, rfl⟩
theorem num_some {L : List UInt8} {v : Int} (h : numO (L.take (nmL L)) = some v) : numN L = nmL L ∧ numB L = ofI v := by unfold numN numB; rw [h]; exact ⟨rfl, rfl⟩
theorem nm_here {s : ByteArray} {n : Nat} (hn : n ≤ nmL s.data.toList) : nmL s.data.toList = n + nmL (s.data.toList.drop n) := nm_drop _ n hn
theorem nm_lt {s : ByteArray} {n : Nat} (hn : n ≤ nmL s.data.toList) (h : n < s.size) (hc : npB (s[n].toNat : Int) = true) : n < nmL s.data.toList := by
 have := nm_here hn; have := nm_yes h hc; omega
theorem nm_eq {s : ByteArray} {n : Nat} (hn : n ≤ nmL s.data.toList) (h : n < s.size) (hc : npB (s[n].toNat : Int) = false) : nmL s.data.toList = n := by
 have := nm_here hn; have := nm_no h hc; omega
theorem nm_eq' {s : ByteArray} {n : Nat} (hn : n ≤ nmL s.data.toList) (h : s.size ≤ n) : nmL s.data.toList = n := by
 have := nm_here hn; have := nm_end (s := s) h; omega
theorem nm_top (s : ByteArray) : nmL s.data.toList ≤ s.size := by have := nmL_le s.data.toList; rw [list_size'] at this; exact this
theorem val_bad (c : Int) (h : hexI c = 16) : valI c = -1 := by unfold valI; rw [if_pos h]
theorem val_good (c : Int) (h : ¬ hexI c = 16) : valI c = hexI c := by unfold valI; rw [if_neg h]
theorem rnumber_dec (s : ByteArray) (hs : s.size ≤ 1000000) (h0 : 0 < s.size) (hz : ((s[0].toNat : Int) == 48) = false) (HQ : Hid (0 ≠ nmL s.data.toList → numO (s.data.toList.take (nmL s.data.toList)) = digs 10 ((s.data.toList.take (nmL s.data.toList)).drop 0) 0)) (HZ0 : Hid (nmL s.data.toList = 0 → numO (s.data.toList.take (nmL s.data.toList)) = none)) (w : World) :
  Calls Tryz.prog 94 #[.string s] w fun e w' => e = .returned (.tuple #[.int .i64 (numN s.data.toList : Nat), .int .u64 (numB s.data.toList)]) ∧ w = w' := by
 have hfrom : 0 ≤ nmL s.data.toList := Nat.zero_le _
 by_cases h1 : 1 < s.size
 all_goals
  go_enter Tryz.func94, Tryz.ntmps94
  go_wp2_with fail
  go_loop [4, 5] (fun nn xx => ∃ (n : Nat) (x : Int), nn = .int .i64 (n : Int) ∧ xx = .int .i64 x ∧ 0 ≤ n ∧ n ≤ nmL s.data.toList ∧ 0 ≤ x ∧ x ≤ 9007199254740992 ∧ Hid (digs 10 ((s.data.toList.take (nmL s.data.toList)).drop 0) 0 = digs 10 ((s.data.toList.take (nmL s.data.toList)).drop n) x)) (fun nn _ => s.size - (intOf nn).toNat)
  case atStart => exact ⟨0, 0, rfl, rfl, by omega, hfrom, by omega, by omega, rfl⟩
  case round =>
   obtain ⟨n, x, rfl, rfl, hfn, hnm, hx0, hx1, HC⟩ := hrel
   have hns : n ≤ s.size := Nat.le_trans hnm (nm_top s)
   by_cases hlt : n < s.size
   ·have V := Lib.hid (fun w => rvalue_any (s[n].toNat : Int) (Int.natCast_nonneg _) (by have := s[n].toNat_lt; omega) w)
    have L := Lib.hid (fun w => rLetter_any (s[n].toNat : Int) w)
    have D := Lib.hid (fun w => rDigit_any (s[n].toNat : Int) w)
    have hr := hexI_range (s[n].toNat : Int)
    have NP := Lib.hid (np_parts (s[n].toNat : Int))
    have HNP := Lib.hid (@hex_np (s[n].toNat : Int))
    have LT := Lib.hid (fun h => @nm_lt s n hnm hlt h)
    have EQ := Lib.hid (fun h => @nm_eq s n hnm hlt h)
    have VB := Lib.hid (val_bad (s[n].toNat : Int))
    have VG := Lib.hid (val_good (s[n].toNat : Int))
    have PB := Lib.hid (fun h => @pdigs_bad 10 s (nmL s.data.toList) n hlt (nm_top s) h x)
    have PG := Lib.hid (fun h => @pdigs_big 10 s (nmL s.data.toList) n hlt (nm_top s) h x)
    have PM := Lib.hid (fun h => @pdigs_more 10 s (nmL s.data.toList) n hlt (nm_top s) h x)
    generalize hexI (s[n].toNat : Int) = d at *
    obtain ⟨hr0, hr1⟩ := hr
    by_cases hb : 10 ≤ d
    ·-- the digits end here
     have hv : valI (s[n].toNat : Int) = -1 ∨ (valI (s[n].toNat : Int) = d ∧ ¬ d < 10) := by
      by_cases h16 : d = 16
      ·exact .inl (VB.out h16)
      ·exact .inr ⟨VG.out h16, by omega⟩
     have HHB := Lib.hid hb
     have EN : Hid (npB (s[n].toNat : Int) = true → numO (s.data.toList.take (nmL s.data.toList)) = none) := fun h => by
      have := LT.out h
      rw [HQ.out (by omega), HC.out, PB.out this HHB.out]
     have ES : Hid (npB (s[n].toNat : Int) = false → ¬ n = 0 → nmL s.data.toList = n ∧ numO (s.data.toList.take (nmL s.data.toList)) = some x) := fun h h2 => by
      have := EQ.out h
      exact ⟨this, by rw [HQ.out (by omega), HC.out, part_done (by omega)]; rfl⟩
     have E0 : Hid (npB (s[n].toNat : Int) = false → n = 0 → numO (s.data.toList.take (nmL s.data.toList)) = none) := fun h h2 => by
      have := EQ.out h
      exact HZ0.out (by omega)
     have NNONE := Lib.hid (@num_none s.data.toList)
     have NSOME := Lib.hid (fun v => @num_some s.data.toList v)
     have OF := Lib.hid (fun w => rof_any x w)
     generalize valI (s[n].toNat : Int) = v at *
     clear hr0 hr1 LT EQ VB VG PB PG PM HNP hb
     rcases hv with rfl | ⟨rfl, hv⟩
     all_goals
      cases hl : letB (s[n].toNat : Int)
      ·cases hg : digB (s[n].toNat : Int)
       ·rw [hl] at L NP
        rw [hg] at D NP
        by_cases hf : n = 0
        ·have hq : ((n : Int) == 0) = true := by rw [beq_iff_eq]; omega
         have E2 := Lib.hid (NNONE.out (E0.out NP.out hf))
         clear hf hl hg
         go_wp2_with (first | (go_at_call 165; refine (V.out _).mono ?_; rintro e w' ⟨rfl, rfl⟩) | (go_at_call 164; refine (L.out _).mono ?_; rintro e w' ⟨rfl, rfl⟩) | (go_at_call 93; refine (D.out _).mono ?_; rintro e w' ⟨rfl, rfl⟩) | (go_at_call 166; refine (OF.out _).mono ?_; rintro e w' ⟨rfl, rfl⟩))
         go_ret2
         exact ⟨ret_ints (by rw [E2.out.1]; rfl) (by rw [E2.out.2]), rfl⟩
        ·have hq : ((n : Int) == 0) = false := by rw [beq_eq_false_iff_ne]; omega
         have ES2 := Lib.hid (ES.out NP.out hf)
         have E2 := Lib.hid (NSOME.out x ES2.out.2)
         clear hf hl hg
         go_wp2_with (first | (go_at_call 165; refine (V.out _).mono ?_; rintro e w' ⟨rfl, rfl⟩) | (go_at_call 164; refine (L.out _).mono ?_; rintro e w' ⟨rfl, rfl⟩) | (go_at_call 93; refine (D.out _).mono ?_; rintro e w' ⟨rfl, rfl⟩) | (go_at_call 166; refine (OF.out _).mono ?_; rintro e w' ⟨rfl, rfl⟩))
         go_ret2
         exact ⟨ret_ints (by rw [E2.out.1, ES2.out.1]) (by rw [E2.out.2]), rfl⟩
       ·rw [hl] at L NP
        rw [hg] at D NP
        have E2 := Lib.hid (NNONE.out (EN.out NP.out))
        clear hl hg
        by_cases hf : n = 0
        ·have hq : ((n : Int) == 0) = true := by rw [beq_iff_eq]; omega
         clear hf
         go_wp2_with (first | (go_at_call 165; refine (V.out _).mono ?_; rintro e w' ⟨rfl, rfl⟩) | (go_at_call 164; refine (L.out _).mono ?_; rintro e w' ⟨rfl, rfl⟩) | (go_at_call 93; refine (D.out _).mono ?_; rintro e w' ⟨rfl, rfl⟩) | (go_at_call 166; refine (OF.out _).mono ?_; rintro e w' ⟨rfl, rfl⟩))
         go_ret2
         exact ⟨ret_ints (by rw [E2.out.1]; rfl) (by rw [E2.out.2]), rfl⟩
        ·have hq : ((n : Int) == 0) = false := by rw [beq_eq_false_iff_ne]; omega
         clear hf
         go_wp2_with (first | (go_at_call 165; refine (V.out _).mono ?_; rintro e w' ⟨rfl, rfl⟩) | (go_at_call 164; refine (L.out _).mono ?_; rintro e w' ⟨rfl, rfl⟩) | (go_at_call 93; refine (D.out _).mono ?_; rintro e w' ⟨rfl, rfl⟩) | (go_at_call 166; refine (OF.out _).mono ?_; rintro e w' ⟨rfl, rfl⟩))
         go_ret2
         exact ⟨ret_ints (by rw [E2.out.1]; rfl) (by rw [E2.out.2]), rfl⟩
      ·rw [hl] at L NP
       have E2 := Lib.hid (NNONE.out (EN.out (NP.out.trans rfl)))
       clear hl
       by_cases hf : n = 0
       ·have hq : ((n : Int) == 0) = true := by rw [beq_iff_eq]; omega
        clear hf
        go_wp2_with (first | (go_at_call 165; refine (V.out _).mono ?_; rintro e w' ⟨rfl, rfl⟩) | (go_at_call 164; refine (L.out _).mono ?_; rintro e w' ⟨rfl, rfl⟩) | (go_at_call 93; refine (D.out _).mono ?_; rintro e w' ⟨rfl, rfl⟩) | (go_at_call 166; refine (OF.out _).mono ?_; rintro e w' ⟨rfl, rfl⟩))
        go_ret2
        exact ⟨ret_ints (by rw [E2.out.1]; rfl) (by rw [E2.out.2]), rfl⟩
       ·have hq : ((n : Int) == 0) = false := by rw [beq_eq_false_iff_ne]; omega
        clear hf
        go_wp2_with (first | (go_at_call 165; refine (V.out _).mono ?_; rintro e w' ⟨rfl, rfl⟩) | (go_at_call 164; refine (L.out _).mono ?_; rintro e w' ⟨rfl, rfl⟩) | (go_at_call 93; refine (D.out _).mono ?_; rintro e w' ⟨rfl, rfl⟩) | (go_at_call 166; refine (OF.out _).mono ?_; rintro e w' ⟨rfl, rfl⟩))
        go_ret2
        exact ⟨ret_ints (by rw [E2.out.1]; rfl) (by rw [E2.out.2]), rfl⟩
    ·-- a digit
     have h16 : ¬ d = 16 := by omega
     have hlt2 := LT.out (HNP.out h16)
     have hveq := VG.out h16
     rw [hveq] at V
     have hx2 : 0 ≤ x * 10 + d := by omega
     have hdl : d < 10 := by omega
     have HHB := Lib.hid hb
     clear hb
     by_cases hbig : 9007199254740992 < x * 10 + d
     ·have E := Lib.hid (HC.out.trans (PG.out hlt2 HHB.out hbig))
      have E2 := Lib.hid (num_none (L := s.data.toList) (by rw [HQ.out (by omega)]; exact E.out))
      clear hveq h16
      cases hq1 : ((n : Int) == 1)
      all_goals
       go_wp2_with (go_at_call 165; refine (V.out _).mono ?_; rintro e w' ⟨rfl, rfl⟩)
       go_ret2
       exact ⟨ret_ints (by rw [E2.out.1]; rfl) (by rw [E2.out.2]), rfl⟩
     ·have E := Lib.hid (HC.out.trans (PM.out hlt2 HHB.out hbig))
      clear hveq h16
      cases hq1 : ((n : Int) == 1)
      all_goals
       go_wp2_with (go_at_call 165; refine (V.out _).mono ?_; rintro e w' ⟨rfl, rfl⟩)
       go_round
       case rel => exact ⟨n + 1, x * 10 + d, by go_num, by go_num, by omega, by omega, by omega, by omega, E.out⟩
       case measure => simp [intOf]; omega
   ·have hnn := nm_eq' hnm (by omega : s.size ≤ n)
    have HNN := Lib.hid hnn
    have hd : decide (n < s.size) = false := by rw [decide_eq_false_iff_not]; exact hlt
    have OF := Lib.hid (fun w => rof_any x w)
    by_cases hf : n = 0
    ·have hq : ((n : Int) == 0) = true := by rw [beq_iff_eq]; omega
     have E2 := Lib.hid (num_none (L := s.data.toList) (HZ0.out (by rw [HNN.out]; exact hf)))
     clear hf hnn
     go_wp2_with fail
     go_ret2
     exact ⟨ret_ints (by rw [E2.out.1]; rfl) (by rw [E2.out.2]), rfl⟩
    ·have hq : ((n : Int) == 0) = false := by rw [beq_eq_false_iff_ne]; omega
     have E2 := Lib.hid (num_some (L := s.data.toList) (v := x) (by rw [HQ.out (by omega), HC.out, part_done (by omega)]; rfl))
     clear hf hnn
     go_wp2_with fail
     refine (OF.out _).mono ?_; rintro e w' ⟨rfl, rfl⟩
     go_wp2_with fail
     go_ret2
     exact ⟨ret_ints (by rw [E2.out.1, HNN.out]) (by rw [E2.out.2]), rfl⟩
end Go.Proofs.YtnkfodelgpidkaaGreatDoor
namespace Go.Proofs.YtnkfodelgpidkaaGreatDoor
open Go.RowKit
theorem rnumber_hex (s : ByteArray) (hs : s.size ≤ 1000000) (h0 : 0 < s.size) (h1 : 1 < s.size) (hz : ((s[0].toNat : Int) == 48) = true) (hx : ((s[1].toNat : Int) == 120) = true ∨ (((s[1].toNat : Int) == 120) = false ∧ ((s[1].toNat : Int) == 88) = true)) (hfrom : 2 ≤ nmL s.data.toList) (HQ : Hid (2 ≠ nmL s.data.toList → numO (s.data.toList.take (nmL s.data.toList)) = digs 16 ((s.data.toList.take (nmL s.data.toList)).drop 2) 0)) (HZ0 : Hid (nmL s.data.toList = 2 → numO (s.data.toList.take (nmL s.data.toList)) = none)) (w : World) :
  Calls Tryz.prog 94 #[.string s] w fun e w' => e = .returned (.tuple #[.int .i64 (numN s.data.toList : Nat), .int .u64 (numB s.data.toList)]) ∧ w = w' := by
 rcases hx with hx | ⟨hx, hy⟩
 all_goals
  go_enter Tryz.func94, Tryz.ntmps94
  go_wp2_with fail
  go_loop [4, 5] (fun nn xx => ∃ (n : Nat) (x : Int), nn = .int .i64 (n : Int) ∧ xx = .int .i64 x ∧ 2 ≤ n ∧ n ≤ nmL s.data.toList ∧ 0 ≤ x ∧ x ≤ 9007199254740992 ∧ Hid (digs 16 ((s.data.toList.take (nmL s.data.toList)).drop 2) 0 = digs 16 ((s.data.toList.take (nmL s.data.toList)).drop n) x)) (fun nn _ => s.size - (intOf nn).toNat)
  case atStart => exact ⟨2, 0, rfl, rfl, by omega, hfrom, by omega, by omega, rfl⟩
  case round =>
   obtain ⟨n, x, rfl, rfl, hfn, hnm, hx0, hx1, HC⟩ := hrel
   have hns : n ≤ s.size := Nat.le_trans hnm (nm_top s)
   by_cases hlt : n < s.size
   ·have V := Lib.hid (fun w => rvalue_any (s[n].toNat : Int) (Int.natCast_nonneg _) (by have := s[n].toNat_lt; omega) w)
    have L := Lib.hid (fun w => rLetter_any (s[n].toNat : Int) w)
    have D := Lib.hid (fun w => rDigit_any (s[n].toNat : Int) w)
    have hr := hexI_range (s[n].toNat : Int)
    have NP := Lib.hid (np_parts (s[n].toNat : Int))
    have HNP := Lib.hid (@hex_np (s[n].toNat : Int))
    have LT := Lib.hid (fun h => @nm_lt s n hnm hlt h)
    have EQ := Lib.hid (fun h => @nm_eq s n hnm hlt h)
    have VB := Lib.hid (val_bad (s[n].toNat : Int))
    have VG := Lib.hid (val_good (s[n].toNat : Int))
    have PB := Lib.hid (fun h => @pdigs_bad 16 s (nmL s.data.toList) n hlt (nm_top s) h x)
    have PG := Lib.hid (fun h => @pdigs_big 16 s (nmL s.data.toList) n hlt (nm_top s) h x)
    have PM := Lib.hid (fun h => @pdigs_more 16 s (nmL s.data.toList) n hlt (nm_top s) h x)
    generalize hexI (s[n].toNat : Int) = d at *
    obtain ⟨hr0, hr1⟩ := hr
    by_cases hb : 16 ≤ d
    ·-- the digits end here
     have hv : valI (s[n].toNat : Int) = -1 ∨ (valI (s[n].toNat : Int) = d ∧ ¬ d < 16) := by
      by_cases h16 : d = 16
      ·exact .inl (VB.out h16)
      ·exact .inr ⟨VG.out h16, by omega⟩
     have HHB := Lib.hid hb
     have EN : Hid (npB (s[n].toNat : Int) = true → numO (s.data.toList.take (nmL s.data.toList)) = none) := fun h => by
      have := LT.out h
      rw [HQ.out (by omega), HC.out, PB.out this HHB.out]
     have ES : Hid (npB (s[n].toNat : Int) = false → ¬ n = 2 → nmL s.data.toList = n ∧ numO (s.data.toList.take (nmL s.data.toList)) = some x) := fun h h2 => by
      have := EQ.out h
      exact ⟨this, by rw [HQ.out (by omega), HC.out, part_done (by omega)]; rfl⟩
     have E0 : Hid (npB (s[n].toNat : Int) = false → n = 2 → numO (s.data.toList.take (nmL s.data.toList)) = none) := fun h h2 => by
      have := EQ.out h
      exact HZ0.out (by omega)
     have NNONE := Lib.hid (@num_none s.data.toList)
     have NSOME := Lib.hid (fun v => @num_some s.data.toList v)
     have OF := Lib.hid (fun w => rof_any x w)
     generalize valI (s[n].toNat : Int) = v at *
     clear hr0 hr1 LT EQ VB VG PB PG PM HNP hb
     rcases hv with rfl | ⟨rfl, hv⟩
     all_goals
      cases hl : letB (s[n].toNat : Int)
      ·cases hg : digB (s[n].toNat : Int)
       ·rw [hl] at L NP
        rw [hg] at D NP
        by_cases hf : n = 2
        ·have hq : ((n : Int) == 2) = true := by rw [beq_iff_eq]; omega
         have E2 := Lib.hid (NNONE.out (E0.out NP.out hf))
         clear hf hl hg
         go_wp2_with (first | (go_at_call 165; refine (V.out _).mono ?_; rintro e w' ⟨rfl, rfl⟩) | (go_at_call 164; refine (L.out _).mono ?_; rintro e w' ⟨rfl, rfl⟩) | (go_at_call 93; refine (D.out _).mono ?_; rintro e w' ⟨rfl, rfl⟩) | (go_at_call 166; refine (OF.out _).mono ?_; rintro e w' ⟨rfl, rfl⟩))
         go_ret2
         exact ⟨ret_ints (by rw [E2.out.1]; rfl) (by rw [E2.out.2]), rfl⟩
        ·have hq : ((n : Int) == 2) = false := by rw [beq_eq_false_iff_ne]; omega
         have ES2 := Lib.hid (ES.out NP.out hf)
         have E2 := Lib.hid (NSOME.out x ES2.out.2)
         clear hf hl hg
         go_wp2_with (first | (go_at_call 165; refine (V.out _).mono ?_; rintro e w' ⟨rfl, rfl⟩) | (go_at_call 164; refine (L.out _).mono ?_; rintro e w' ⟨rfl, rfl⟩) | (go_at_call 93; refine (D.out _).mono ?_; rintro e w' ⟨rfl, rfl⟩) | (go_at_call 166; refine (OF.out _).mono ?_; rintro e w' ⟨rfl, rfl⟩))
         go_ret2
         exact ⟨ret_ints (by rw [E2.out.1, ES2.out.1]) (by rw [E2.out.2]), rfl⟩
       ·rw [hl] at L NP
        rw [hg] at D NP
        have E2 := Lib.hid (NNONE.out (EN.out NP.out))
        clear hl hg
        by_cases hf : n = 2
        ·have hq : ((n : Int) == 2) = true := by rw [beq_iff_eq]; omega
         clear hf
         go_wp2_with (first | (go_at_call 165; refine (V.out _).mono ?_; rintro e w' ⟨rfl, rfl⟩) | (go_at_call 164; refine (L.out _).mono ?_; rintro e w' ⟨rfl, rfl⟩) | (go_at_call 93; refine (D.out _).mono ?_; rintro e w' ⟨rfl, rfl⟩) | (go_at_call 166; refine (OF.out _).mono ?_; rintro e w' ⟨rfl, rfl⟩))
         go_ret2
         exact ⟨ret_ints (by rw [E2.out.1]; rfl) (by rw [E2.out.2]), rfl⟩
        ·have hq : ((n : Int) == 2) = false := by rw [beq_eq_false_iff_ne]; omega
         clear hf
         go_wp2_with (first | (go_at_call 165; refine (V.out _).mono ?_; rintro e w' ⟨rfl, rfl⟩) | (go_at_call 164; refine (L.out _).mono ?_; rintro e w' ⟨rfl, rfl⟩) | (go_at_call 93; refine (D.out _).mono ?_; rintro e w' ⟨rfl, rfl⟩) | (go_at_call 166; refine (OF.out _).mono ?_; rintro e w' ⟨rfl, rfl⟩))
         go_ret2
         exact ⟨ret_ints (by rw [E2.out.1]; rfl) (by rw [E2.out.2]), rfl⟩
      ·rw [hl] at L NP
       have E2 := Lib.hid (NNONE.out (EN.out (NP.out.trans rfl)))
       clear hl
       by_cases hf : n = 2
       ·have hq : ((n : Int) == 2) = true := by rw [beq_iff_eq]; omega
        clear hf
        go_wp2_with (first | (go_at_call 165; refine (V.out _).mono ?_; rintro e w' ⟨rfl, rfl⟩) | (go_at_call 164; refine (L.out _).mono ?_; rintro e w' ⟨rfl, rfl⟩) | (go_at_call 93; refine (D.out _).mono ?_; rintro e w' ⟨rfl, rfl⟩) | (go_at_call 166; refine (OF.out _).mono ?_; rintro e w' ⟨rfl, rfl⟩))
        go_ret2
        exact ⟨ret_ints (by rw [E2.out.1]; rfl) (by rw [E2.out.2]), rfl⟩
       ·have hq : ((n : Int) == 2) = false := by rw [beq_eq_false_iff_ne]; omega
        clear hf
        go_wp2_with (first | (go_at_call 165; refine (V.out _).mono ?_; rintro e w' ⟨rfl, rfl⟩) | (go_at_call 164; refine (L.out _).mono ?_; rintro e w' ⟨rfl, rfl⟩) | (go_at_call 93; refine (D.out _).mono ?_; rintro e w' ⟨rfl, rfl⟩) | (go_at_call 166; refine (OF.out _).mono ?_; rintro e w' ⟨rfl, rfl⟩))
        go_ret2
        exact ⟨ret_ints (by rw [E2.out.1]; rfl) (by rw [E2.out.2]), rfl⟩
    ·-- a digit
     have h16 : ¬ d = 16 := by omega
     have hlt2 := LT.out (HNP.out h16)
     have hveq := VG.out h16
     rw [hveq] at V
     have hx2 : 0 ≤ x * 16 + d := by omega
     have hdl : d < 16 := by omega
     have HHB := Lib.hid hb
     clear hb
     by_cases hbig : 9007199254740992 < x * 16 + d
     ·have E := Lib.hid (HC.out.trans (PG.out hlt2 HHB.out hbig))
      have E2 := Lib.hid (num_none (L := s.data.toList) (by rw [HQ.out (by omega)]; exact E.out))
      clear hveq h16
      cases hq1 : ((n : Int) == 1)
      all_goals
       go_wp2_with (go_at_call 165; refine (V.out _).mono ?_; rintro e w' ⟨rfl, rfl⟩)
       go_ret2
       exact ⟨ret_ints (by rw [E2.out.1]; rfl) (by rw [E2.out.2]), rfl⟩
     ·have E := Lib.hid (HC.out.trans (PM.out hlt2 HHB.out hbig))
      clear hveq h16
      cases hq1 : ((n : Int) == 1)
      all_goals
       go_wp2_with (go_at_call 165; refine (V.out _).mono ?_; rintro e w' ⟨rfl, rfl⟩)
       go_round
       case rel => exact ⟨n + 1, x * 16 + d, by go_num, by go_num, by omega, by omega, by omega, by omega, E.out⟩
       case measure => simp [intOf]; omega
   ·have hnn := nm_eq' hnm (by omega : s.size ≤ n)
    have HNN := Lib.hid hnn
    have hd : decide (n < s.size) = false := by rw [decide_eq_false_iff_not]; exact hlt
    have OF := Lib.hid (fun w => rof_any x w)
    by_cases hf : n = 2
    ·have hq : ((n : Int) == 2) = true := by rw [beq_iff_eq]; omega
     have E2 := Lib.hid (num_none (L := s.data.toList) (HZ0.out (by rw [HNN.out]; exact hf)))
     clear hf hnn
     go_wp2_with fail
     go_ret2
     exact ⟨ret_ints (by rw [E2.out.1]; rfl) (by rw [E2.out.2]), rfl⟩
    ·have hq : ((n : Int) == 2) = false := by rw [beq_eq_false_iff_ne]; omega
     have E2 := Lib.hid (num_some (L := s.data.toList) (v := x) (by rw [HQ.out (by omega), HC.out, part_done (by omega)]; rfl))
     clear hf hnn
     go_wp2_with fail
     refine (OF.out _).mono ?_; rintro e w' ⟨rfl, rfl⟩
     go_wp2_with fail
     go_ret2
     exact ⟨ret_ints (by rw [E2.out.1, HNN.out]) (by rw [E2.out.2]), rfl⟩
end Go.Proofs.YtnkfodelgpidkaaGreatDoor
namespace Go.Proofs.YtnkfodelgpidkaaGreatDoor
open Go.RowKit
theorem rnumber_zero (s : ByteArray) (hs : s.size ≤ 1000000) (h0 : 0 < s.size) (hz : ((s[0].toNat : Int) == 48) = true) (hx : ∀ h1 : 1 < s.size, ((s[1].toNat : Int) == 120) = false ∧ ((s[1].toNat : Int) == 88) = false) (HN : Hid (1 < nmL s.data.toList → numO (s.data.toList.take (nmL s.data.toList)) = none)) (HS : Hid (nmL s.data.toList = 1 → numO (s.data.toList.take (nmL s.data.toList)) = some 0)) (w : World) :
  Calls Tryz.prog 94 #[.string s] w fun e w' => e = .returned (.tuple #[.int .i64 (numN s.data.toList : Nat), .int .u64 (numB s.data.toList)]) ∧ w = w' := by
 have hc0 : (s[0].toNat : Int) = 48 := eq_of_beq hz
 have V0 := Lib.hid (fun w => rvalue_any (s[0].toNat : Int) (Int.natCast_nonneg _) (by have := s[0].toNat_lt; omega) w)
 have hn1 : 1 ≤ nmL s.data.toList := by
  have := nm_lt (s := s) (n := 0) (Nat.zero_le _) h0 (by rw [hc0]; rfl); omega
 rw [show valI (s[0].toNat : Int) = 0 by rw [hc0]; rfl] at V0
 have NNONE := Lib.hid (fun h => @num_none s.data.toList (HN.out h))
 have NSOME := Lib.hid (fun h => @num_some s.data.toList 0 (HS.out h))
 have OF := Lib.hid (fun w => rof_any 0 w)
 clear hc0
 by_cases h1 : 1 < s.size
 ·obtain ⟨hx1, hx2⟩ := hx h1
  have V := Lib.hid (fun w => rvalue_any (s[1].toNat : Int) (Int.natCast_nonneg _) (by have := s[1].toNat_lt; omega) w)
  have L := Lib.hid (fun w => rLetter_any (s[1].toNat : Int) w)
  have D := Lib.hid (fun w => rDigit_any (s[1].toNat : Int) w)
  have NP := Lib.hid (np_parts (s[1].toNat : Int))
  have LT := Lib.hid (fun h => @nm_lt s 1 hn1 h1 h)
  have EQ := Lib.hid (fun h => @nm_eq s 1 hn1 h1 h)
  have hvv : (0 ≤ valI (s[1].toNat : Int) ∧ valI (s[1].toNat : Int) < 10) ∨ valI (s[1].toNat : Int) = -1 ∨ (0 ≤ valI (s[1].toNat : Int) ∧ ¬ valI (s[1].toNat : Int) < 10) := by
   have := hexI_range (s[1].toNat : Int)
   unfold valI; split <;> omega
  generalize valI (s[1].toNat : Int) = v at *
  clear hx
  go_enter Tryz.func94, Tryz.ntmps94
  go_wp2_with fail
  go_loop [4, 5] (fun nn xx => (nn = .int .i64 0 ∨ nn = .int .i64 1) ∧ xx = .int .i64 0) (fun nn _ => 1 - (intOf nn).toNat)
  case atStart => exact ⟨.inl rfl, rfl⟩
  case round =>
   obtain ⟨hnn, rfl⟩ := hrel
   rcases hnn with rfl | rfl
   ·go_wp2_with (go_at_call 165; refine (V0.out _).mono ?_; rintro e w' ⟨rfl, rfl⟩)
    go_round
    case rel => exact ⟨.inr rfl, rfl⟩
    case measure => simp [intOf]
   ·rcases hvv with ⟨hv, hv2⟩ | rfl | ⟨hv, hv2⟩
    all_goals
     cases hl : letB (s[1].toNat : Int)
     ·cases hg : digB (s[1].toNat : Int)
      ·rw [hl] at L NP
       rw [hg] at D NP
       have ES := Lib.hid (EQ.out NP.out)
       have E2 := Lib.hid (NSOME.out ES.out)
       clear hl hg
       go_wp2_with (first | (go_at_call 165; refine (V.out _).mono ?_; rintro e w' ⟨rfl, rfl⟩) | (go_at_call 164; refine (L.out _).mono ?_; rintro e w' ⟨rfl, rfl⟩) | (go_at_call 93; refine (D.out _).mono ?_; rintro e w' ⟨rfl, rfl⟩) | (go_at_call 166; refine (OF.out _).mono ?_; rintro e w' ⟨rfl, rfl⟩))
       go_ret2
       exact ⟨ret_ints (by rw [E2.out.1, ES.out]; rfl) (by rw [E2.out.2]), rfl⟩
      ·rw [hl] at L NP
       rw [hg] at D NP
       have E2 := Lib.hid (NNONE.out (LT.out NP.out))
       clear hl hg
       go_wp2_with (first | (go_at_call 165; refine (V.out _).mono ?_; rintro e w' ⟨rfl, rfl⟩) | (go_at_call 164; refine (L.out _).mono ?_; rintro e w' ⟨rfl, rfl⟩) | (go_at_call 93; refine (D.out _).mono ?_; rintro e w' ⟨rfl, rfl⟩) | (go_at_call 166; refine (OF.out _).mono ?_; rintro e w' ⟨rfl, rfl⟩))
       go_ret2
       exact ⟨ret_ints (by rw [E2.out.1]; rfl) (by rw [E2.out.2]), rfl⟩
     ·rw [hl] at L NP
      have E2 := Lib.hid (NNONE.out (LT.out (NP.out.trans rfl)))
      clear hl
      go_wp2_with (first | (go_at_call 165; refine (V.out _).mono ?_; rintro e w' ⟨rfl, rfl⟩) | (go_at_call 164; refine (L.out _).mono ?_; rintro e w' ⟨rfl, rfl⟩) | (go_at_call 93; refine (D.out _).mono ?_; rintro e w' ⟨rfl, rfl⟩) | (go_at_call 166; refine (OF.out _).mono ?_; rintro e w' ⟨rfl, rfl⟩))
      go_ret2
      exact ⟨ret_ints (by rw [E2.out.1]; rfl) (by rw [E2.out.2]), rfl⟩
 ·have hs1 : s.size = 1 := by omega
  have ES := Lib.hid (nm_eq' (s := s) hn1 (by omega : s.size ≤ 1))
  have E2 := Lib.hid (NSOME.out ES.out)
  have hd1 : decide (1 < s.size) = false := by rw [decide_eq_false_iff_not]; exact h1
  have hi1 : ¬ (1 : Int) < (s.size : Int) := by omega
  have hi0 : (0 : Int) < (s.size : Int) := by omega
  clear hs1 hx
  go_enter Tryz.func94, Tryz.ntmps94
  go_wp2_with fail
  go_loop [4, 5] (fun nn xx => (nn = .int .i64 0 ∨ nn = .int .i64 1) ∧ xx = .int .i64 0) (fun nn _ => 1 - (intOf nn).toNat)
  case atStart => exact ⟨.inl rfl, rfl⟩
  case round =>
   obtain ⟨hnn, rfl⟩ := hrel
   rcases hnn with rfl | rfl
   ·go_wp2_with (go_at_call 165; refine (V0.out _).mono ?_; rintro e w' ⟨rfl, rfl⟩)
    go_round
    case rel => exact ⟨.inr rfl, rfl⟩
    case measure => simp [intOf]
   ·go_wp2_with (go_at_call 166; refine (OF.out _).mono ?_; rintro e w' ⟨rfl, rfl⟩)
    go_ret2
    exact ⟨ret_ints (by rw [E2.out.1, ES.out]; rfl) (by rw [E2.out.2]), rfl⟩
end Go.Proofs.YtnkfodelgpidkaaGreatDoor
namespace Go.Proofs.YtnkfodelgpidkaaGreatDoor
open Go.RowKit
theorem rnumber_any (s : ByteArray) (hs : s.size ≤ 1000000) (h0 : 0 < s.size) (hd : digB (s[0].toNat : Int) = true) (w : World) :
  Calls Tryz.prog 94 #[.string s] w fun e w' => e = .returned (.tuple #[.int .i64 (numN s.data.toList : Nat), .int .u64 (numB s.data.toList)]) ∧ w = w' := by
 have hnp : npB (s[0].toNat : Int) = true := by rw [np_parts, hd]; simp
 have hn1 : 0 < nmL s.data.toList := nm_lt (Nat.zero_le _) h0 hnp
 have hP := part_cons h0 (nm_top s) hn1
 rw [List.drop_zero] at hP
 have ht := nm_top s
 by_cases hz : (s[0].toNat : Int) = 48
 ·have e0 : s[0] = 48 := ci_inj (by unfold ci; rw [hz]; rfl)
  by_cases h1 : 1 < s.size
  ·by_cases hx : (s[1].toNat : Int) = 120 ∨ (s[1].toNat : Int) = 88
   ·have hnp1 : npB (s[1].toNat : Int) = true := by rcases hx with h | h <;> rw [h] <;> rfl
    have hn2 : 1 < nmL s.data.toList := nm_lt hn1 h1 hnp1
    have e1 : s[1] = 120 ∨ s[1] = 88 := by
     rcases hx with h | h
     ·exact .inl (ci_inj (by unfold ci; rw [h]; rfl))
     ·exact .inr (ci_inj (by unfold ci; rw [h]; rfl))
    have hP1 := part_cons h1 (nm_top s) hn2
    rw [e0, hP1] at hP
    have hnum : numO (s.data.toList.take (nmL s.data.toList)) = if (s.data.toList.take (nmL s.data.toList)).drop 2 = [] then none else digs 16 ((s.data.toList.take (nmL s.data.toList)).drop 2) 0 := by
     unfold numO
     rw [if_neg (by rw [hP]; simp), if_pos (by rw [hP]; rcases e1 with h | h <;> rw [h] <;> simp)]
    refine rnumber_hex s hs h0 h1 (by rw [hz]; rfl) ?_ hn2 ?_ ?_ w
    ·rcases hx with h | h
     ·exact .inl (by rw [h]; rfl)
     ·exact .inr ⟨by rw [h]; rfl, by rw [h]; rfl⟩
    ·intro hne
     rw [hnum, if_neg]
     intro h
     have := congrArg List.length h
     rw [List.length_drop, List.length_take, list_size'] at this
     simp at this; omega
    ·intro he
     rw [hnum, if_pos (part_done (by omega))]
   ·have hq : ¬ (s[1].toNat : Int) = 120 ∧ ¬ (s[1].toNat : Int) = 88 := ⟨fun h => hx (.inl h), fun h => hx (.inr h)⟩
    refine rnumber_zero s hs h0 (by rw [hz]; rfl) (fun _ => ⟨by rw [beq_eq_false_iff_ne]; exact hq.1, by rw [beq_eq_false_iff_ne]; exact hq.2⟩) ?_ ?_ w
    ·intro hn2
     have hP1 := part_cons h1 (nm_top s) hn2
     rw [e0, hP1] at hP
     have g1 : ¬ s.data.toList.take (nmL s.data.toList) = [48] := by rw [hP]; simp
     have g2 : ¬ ((s.data.toList.take (nmL s.data.toList)).take 2 = [48, 120] ∨ (s.data.toList.take (nmL s.data.toList)).take 2 = [48, 88]) := by
      rw [hP]; simp
      exact ⟨fun h => hq.1 (by rw [h]; rfl), fun h => hq.2 (by rw [h]; rfl)⟩
     have g3 : (s.data.toList.take (nmL s.data.toList)).head? = some 48 := by rw [hP]; rfl
     unfold numO; rw [if_neg g1, if_neg g2, if_pos g3]
    ·intro hn2
     rw [e0, part_done (by omega)] at hP
     unfold numO; rw [if_pos hP]
  ·refine rnumber_zero s hs h0 (by rw [hz]; rfl) (fun h => absurd h h1) (fun h => absurd h (by omega)) ?_ w
   intro hn2
   rw [e0, part_done (by omega)] at hP
   unfold numO; rw [if_pos hP]
 ·refine rnumber_dec s hs h0 (by rw [beq_eq_false_iff_ne]; exact hz) ?_ (fun h => absurd h (by omega)) w
  intro _
  have hne : ¬ s[0] = 48 := fun h => hz (by rw [h]; rfl)
  have g1 : ¬ s.data.toList.take (nmL s.data.toList) = [48] := by rw [hP]; simp; exact fun h => absurd h hne
  have g2 : ¬ ((s.data.toList.take (nmL s.data.toList)).take 2 = [48, 120] ∨ (s.data.toList.take (nmL s.data.toList)).take 2 = [48, 88]) := by
   rw [hP]; simp
   exact ⟨fun h => absurd h hne, fun h => absurd h hne⟩
  have g3 : ¬ (s.data.toList.take (nmL s.data.toList)).head? = some 48 := by rw [hP]; simp; exact hne
  unfold numO; rw [if_neg g1, if_neg g2, if_neg g3, List.drop_zero]
end Go.Proofs.YtnkfodelgpidkaaGreatDoor
namespace Go.Proofs.YtnkfodelgpidkaaGreatDoor
open Go.RowKit
def oneS (L : List UInt8) : ByteArray := match oneT L with | some (o, _) => bs o | none => ⟨#[]⟩
def oneN (L : List UInt8) : Nat := match oneT L with | some (_, n) => n | none => 0
theorem one_n {L : List UInt8} (h : oneT L = none) : oneS L = ⟨#[]⟩ ∧ oneN L = 0 := by unfold oneS oneN; rw [h]; exact ⟨rfl, rfl⟩
theorem one_s {L o : List UInt8} {n : Nat} (h : oneT L = some (o, n)) : oneS L = bs o ∧ oneN L = n := by unfold oneS oneN; rw [h]; exact ⟨rfl, rfl⟩
theorem drop0 (s : ByteArray) : s.data.toList.drop 0 = s.data.toList := List.drop_zero
theorem ext_one {s : ByteArray} {k : Nat} (h : k < s.size) : s.extract k (k + 1) = bs [s[k]] := by
 rw [piece_bs, drop_cons s k h]; rfl
theorem hexN_short : ∀ (i : Nat) (R : List UInt8) (n : Int), R.length < i → hexN i R n = none
 | 0, R, n, h => by omega
 | i + 1, [], n, h => rfl
 | i + 1, c :: r, n, h => by rw [hexN]; split; rfl; exact hexN_short i r _ (by simp at h; omega)
theorem oneR_92 {s : ByteArray} (h : 1 < s.size) (h0 : (s[0].toNat : Int) = 92) (hc : (s[1].toNat : Int) = 92) : oneS s.data.toList = ⟨#[92]⟩ ∧ oneN s.data.toList = 2 := by
 have e : s[1] = 92 := ci_inj (by unfold ci; rw [hc]; rfl)
 have := one_esc (s := s) (p := 0) (by omega) h0
 rw [drop_cons s (0 + 1) h, e, drop0] at this
 exact one_s this
theorem oneR_39 {s : ByteArray} (h : 1 < s.size) (h0 : (s[0].toNat : Int) = 92) (hc : (s[1].toNat : Int) = 39) : oneS s.data.toList = ⟨#[39]⟩ ∧ oneN s.data.toList = 2 := by
 have e : s[1] = 39 := ci_inj (by unfold ci; rw [hc]; rfl)
 have := one_esc (s := s) (p := 0) (by omega) h0
 rw [drop_cons s (0 + 1) h, e, drop0] at this
 exact one_s this
theorem oneR_34 {s : ByteArray} (h : 1 < s.size) (h0 : (s[0].toNat : Int) = 92) (hc : (s[1].toNat : Int) = 34) : oneS s.data.toList = ⟨#[34]⟩ ∧ oneN s.data.toList = 2 := by
 have e : s[1] = 34 := ci_inj (by unfold ci; rw [hc]; rfl)
 have := one_esc (s := s) (p := 0) (by omega) h0
 rw [drop_cons s (0 + 1) h, e, drop0] at this
 exact one_s this
theorem oneR_110 {s : ByteArray} (h : 1 < s.size) (h0 : (s[0].toNat : Int) = 92) (hc : (s[1].toNat : Int) = 110) : oneS s.data.toList = ⟨#[10]⟩ ∧ oneN s.data.toList = 2 := by
 have e : s[1] = 110 := ci_inj (by unfold ci; rw [hc]; rfl)
 have := one_esc (s := s) (p := 0) (by omega) h0
 rw [drop_cons s (0 + 1) h, e, drop0] at this
 exact one_s this
theorem oneR_114 {s : ByteArray} (h : 1 < s.size) (h0 : (s[0].toNat : Int) = 92) (hc : (s[1].toNat : Int) = 114) : oneS s.data.toList = ⟨#[13]⟩ ∧ oneN s.data.toList = 2 := by
 have e : s[1] = 114 := ci_inj (by unfold ci; rw [hc]; rfl)
 have := one_esc (s := s) (p := 0) (by omega) h0
 rw [drop_cons s (0 + 1) h, e, drop0] at this
 exact one_s this
theorem oneR_116 {s : ByteArray} (h : 1 < s.size) (h0 : (s[0].toNat : Int) = 92) (hc : (s[1].toNat : Int) = 116) : oneS s.data.toList = ⟨#[9]⟩ ∧ oneN s.data.toList = 2 := by
 have e : s[1] = 116 := ci_inj (by unfold ci; rw [hc]; rfl)
 have := one_esc (s := s) (p := 0) (by omega) h0
 rw [drop_cons s (0 + 1) h, e, drop0] at this
 exact one_s this
theorem oneR_48 {s : ByteArray} (h : 1 < s.size) (h0 : (s[0].toNat : Int) = 92) (hc : (s[1].toNat : Int) = 48) : oneS s.data.toList = ⟨#[0]⟩ ∧ oneN s.data.toList = 2 := by
 have e : s[1] = 48 := ci_inj (by unfold ci; rw [hc]; rfl)
 have := one_esc (s := s) (p := 0) (by omega) h0
 rw [drop_cons s (0 + 1) h, e, drop0] at this
 exact one_s this
theorem oneR_x {s : ByteArray} (h : 1 < s.size) (h0 : (s[0].toNat : Int) = 92) (h92 : ¬ (s[1].toNat : Int) = 92) (h39 : ¬ (s[1].toNat : Int) = 39) (h34 : ¬ (s[1].toNat : Int) = 34) (h110 : ¬ (s[1].toNat : Int) = 110) (h114 : ¬ (s[1].toNat : Int) = 114) (h116 : ¬ (s[1].toNat : Int) = 116) (h48 : ¬ (s[1].toNat : Int) = 48) (h117 : ¬ (s[1].toNat : Int) = 117) : oneS s.data.toList = ⟨#[]⟩ ∧ oneN s.data.toList = 0 := by
 have := one_esc (s := s) (p := 0) (by omega) h0
 rw [show (0 + 1 : Nat) = 1 from rfl, drop_cons s 1 h, drop0, escT] at this
 unfold ci at this
 rw [if_neg (by omega), if_neg h110, if_neg h114, if_neg h116, if_neg h48, if_neg h117] at this
 exact one_n this
theorem oneR_u {s : ByteArray} (h : 1 < s.size) (h0 : (s[0].toNat : Int) = 92) (hc : (s[1].toNat : Int) = 117) : oneT s.data.toList = match hexN 4 (s.data.toList.drop 2) 0 with | none => none | some n => if sizeI n = 0 then none else some (putL n, 6) := by
 have e : s[1] = 117 := ci_inj (by unfold ci; rw [hc]; rfl)
 have := one_esc (s := s) (p := 0) (by omega) h0
 rw [drop_cons s (0 + 1) h, e, drop0] at this
 rw [this]
 show (match (match hexN 4 (s.data.toList.drop 2) 0 with | none => none | some n => if sizeI n = 0 then none else some (putL n, 5)) with | none => none | some (o, n) => some (o, n + 1)) = _
 cases hexN 4 (s.data.toList.drop 2) 0 with
 | none => rfl
 | some n =>
  by_cases hz : sizeI n = 0
  ·simp only [if_pos hz]
  ·simp only [if_neg hz]
theorem oneR_out {s : ByteArray} (h : s.size = 1) (h0' : 0 < s.size) (h0 : (s[0].toNat : Int) = 92) : oneS s.data.toList = ⟨#[]⟩ ∧ oneN s.data.toList = 0 := by
 have := one_esc (s := s) (p := 0) (by omega) h0
 rw [drop_done s (0 + 1) (by omega), drop0] at this
 exact one_n this
theorem oneR_low {s : ByteArray} (h : 0 < s.size) (hl : (s[0].toNat : Int) < 32) : oneS s.data.toList = ⟨#[]⟩ ∧ oneN s.data.toList = 0 := by
 have := one_low (s := s) (p := 0) h (by omega) hl
 rw [drop0] at this; exact one_n this
theorem oneR_self {s : ByteArray} (h : 0 < s.size) (hn : ¬ (s[0].toNat : Int) = 92) (hl : ¬ (s[0].toNat : Int) < 32) : oneS s.data.toList = s.extract 0 1 ∧ oneN s.data.toList = 1 := by
 have := one_self (s := s) (p := 0) h hn hl
 rw [drop0] at this
 rw [ext_one (k := 0) h]; exact one_s this
theorem rone_any (s : ByteArray) (hs : s.size ≤ 100000) (q : Int) (h0 : 0 < s.size) (hq : ((s[0].toNat : Int) == q) = false) (w : World) :
  Calls Tryz.prog 167 #[.string s, .int .u8 q] w fun e w' => e = .returned (.tuple #[.string (oneS s.data.toList), .int .i64 (oneN s.data.toList : Nat)]) ∧ Below w.heap.size w w' := by
 have HLO := Lib.hid (oneR_low (s := s) h0)
 have HSE := Lib.hid (oneR_self (s := s) h0)
 have H92 := Lib.hid (fun h => oneR_92 (s := s) h)
 have H39 := Lib.hid (fun h => oneR_39 (s := s) h)
 have H34 := Lib.hid (fun h => oneR_34 (s := s) h)
 have H110 := Lib.hid (fun h => oneR_110 (s := s) h)
 have H114 := Lib.hid (fun h => oneR_114 (s := s) h)
 have H116 := Lib.hid (fun h => oneR_116 (s := s) h)
 have H48 := Lib.hid (fun h => oneR_48 (s := s) h)
 have HX := Lib.hid (fun h => oneR_x (s := s) h)
 have HU := Lib.hid (fun h => oneR_u (s := s) h)
 have HO := Lib.hid (fun h => oneR_out (s := s) h h0)
 have NN := Lib.hid (@one_n s.data.toList)
 have NS := Lib.hid (fun o n => @one_s s.data.toList o n)
 generalize oneS s.data.toList = os at *
 generalize oneN s.data.toList = on at *
 by_cases hl : (s[0].toNat : Int) < 32
 ·obtain ⟨rfl, rfl⟩ := HLO.out hl
  go_enter Tryz.func167, Tryz.ntmps167
  go_wp2_with fail
  go_ret2
  exact ⟨rfl, Below.refl _ _⟩
 ·by_cases h92 : (s[0].toNat : Int) = 92
  ·have n92 : ((s[0].toNat : Int) != 92) = false := by rw [h92]; rfl
   by_cases h1 : 1 < s.size
   ·have hi1 : ¬ (s.size : Int) < 2 := by omega
    by_cases hc92 : (s[1].toNat : Int) = 92
    ·have hc := hc92
     obtain ⟨rfl, rfl⟩ := H92.out h1 h92 hc
     have q92 : ((s[1].toNat : Int) == 92) = true := by rw [hc]; rfl
     have e : s[1] = 92 := ci_inj (by unfold ci; rw [hc]; rfl)
     have HE : Hid (s.extract 1 2 = ⟨#[92]⟩) := by show _ = _; rw [show (2 : Nat) = 1 + 1 from rfl, ext_one h1, e]; rfl
     clear e
     clear hc hc92  h92
     go_enter Tryz.func167, Tryz.ntmps167
     go_wp2_with fail
     go_ret2
     exact ⟨ret_text HE.out rfl, Below.refl _ _⟩
    by_cases hc39 : (s[1].toNat : Int) = 39
    ·have hc := hc39
     obtain ⟨rfl, rfl⟩ := H39.out h1 h92 hc
     have q92 : ((s[1].toNat : Int) == 92) = false := by rw [hc]; rfl
     have q39 : ((s[1].toNat : Int) == 39) = true := by rw [hc]; rfl
     have e : s[1] = 39 := ci_inj (by unfold ci; rw [hc]; rfl)
     have HE : Hid (s.extract 1 2 = ⟨#[39]⟩) := by show _ = _; rw [show (2 : Nat) = 1 + 1 from rfl, ext_one h1, e]; rfl
     clear e
     clear hc hc39 hc92 h92
     go_enter Tryz.func167, Tryz.ntmps167
     go_wp2_with fail
     go_ret2
     exact ⟨ret_text HE.out rfl, Below.refl _ _⟩
    by_cases hc34 : (s[1].toNat : Int) = 34
    ·have hc := hc34
     obtain ⟨rfl, rfl⟩ := H34.out h1 h92 hc
     have q92 : ((s[1].toNat : Int) == 92) = false := by rw [hc]; rfl
     have q39 : ((s[1].toNat : Int) == 39) = false := by rw [hc]; rfl
     have q34 : ((s[1].toNat : Int) == 34) = true := by rw [hc]; rfl
     have e : s[1] = 34 := ci_inj (by unfold ci; rw [hc]; rfl)
     have HE : Hid (s.extract 1 2 = ⟨#[34]⟩) := by show _ = _; rw [show (2 : Nat) = 1 + 1 from rfl, ext_one h1, e]; rfl
     clear e
     clear hc hc34 hc92 hc39 h92
     go_enter Tryz.func167, Tryz.ntmps167
     go_wp2_with fail
     go_ret2
     exact ⟨ret_text HE.out rfl, Below.refl _ _⟩
    by_cases hc110 : (s[1].toNat : Int) = 110
    ·have hc := hc110
     obtain ⟨rfl, rfl⟩ := H110.out h1 h92 hc
     have q92 : ((s[1].toNat : Int) == 92) = false := by rw [hc]; rfl
     have q39 : ((s[1].toNat : Int) == 39) = false := by rw [hc]; rfl
     have q34 : ((s[1].toNat : Int) == 34) = false := by rw [hc]; rfl
     have q110 : ((s[1].toNat : Int) == 110) = true := by rw [hc]; rfl
     clear hc hc110 hc92 hc39 hc34 h92
     go_enter Tryz.func167, Tryz.ntmps167
     go_wp2_with fail
     go_ret2
     exact ⟨rfl, Below.refl _ _⟩
    by_cases hc114 : (s[1].toNat : Int) = 114
    ·have hc := hc114
     obtain ⟨rfl, rfl⟩ := H114.out h1 h92 hc
     have q92 : ((s[1].toNat : Int) == 92) = false := by rw [hc]; rfl
     have q39 : ((s[1].toNat : Int) == 39) = false := by rw [hc]; rfl
     have q34 : ((s[1].toNat : Int) == 34) = false := by rw [hc]; rfl
     have q110 : ((s[1].toNat : Int) == 110) = false := by rw [hc]; rfl
     have q114 : ((s[1].toNat : Int) == 114) = true := by rw [hc]; rfl
     clear hc hc114 hc92 hc39 hc34 hc110 h92
     go_enter Tryz.func167, Tryz.ntmps167
     go_wp2_with fail
     go_ret2
     exact ⟨rfl, Below.refl _ _⟩
    by_cases hc116 : (s[1].toNat : Int) = 116
    ·have hc := hc116
     obtain ⟨rfl, rfl⟩ := H116.out h1 h92 hc
     have q92 : ((s[1].toNat : Int) == 92) = false := by rw [hc]; rfl
     have q39 : ((s[1].toNat : Int) == 39) = false := by rw [hc]; rfl
     have q34 : ((s[1].toNat : Int) == 34) = false := by rw [hc]; rfl
     have q110 : ((s[1].toNat : Int) == 110) = false := by rw [hc]; rfl
     have q114 : ((s[1].toNat : Int) == 114) = false := by rw [hc]; rfl
     have q116 : ((s[1].toNat : Int) == 116) = true := by rw [hc]; rfl
     clear hc hc116 hc92 hc39 hc34 hc110 hc114 h92
     go_enter Tryz.func167, Tryz.ntmps167
     go_wp2_with fail
     go_ret2
     exact ⟨rfl, Below.refl _ _⟩
    by_cases hc48 : (s[1].toNat : Int) = 48
    ·have hc := hc48
     obtain ⟨rfl, rfl⟩ := H48.out h1 h92 hc
     have q92 : ((s[1].toNat : Int) == 92) = false := by rw [hc]; rfl
     have q39 : ((s[1].toNat : Int) == 39) = false := by rw [hc]; rfl
     have q34 : ((s[1].toNat : Int) == 34) = false := by rw [hc]; rfl
     have q110 : ((s[1].toNat : Int) == 110) = false := by rw [hc]; rfl
     have q114 : ((s[1].toNat : Int) == 114) = false := by rw [hc]; rfl
     have q116 : ((s[1].toNat : Int) == 116) = false := by rw [hc]; rfl
     have q48 : ((s[1].toNat : Int) == 48) = true := by rw [hc]; rfl
     clear hc hc48 hc92 hc39 hc34 hc110 hc114 hc116 h92
     go_enter Tryz.func167, Tryz.ntmps167
     go_wp2_with fail
     go_ret2
     exact ⟨rfl, Below.refl _ _⟩
    have q92 : ((s[1].toNat : Int) == 92) = false := by rw [beq_eq_false_iff_ne]; exact hc92
    have q39 : ((s[1].toNat : Int) == 39) = false := by rw [beq_eq_false_iff_ne]; exact hc39
    have q34 : ((s[1].toNat : Int) == 34) = false := by rw [beq_eq_false_iff_ne]; exact hc34
    have q110 : ((s[1].toNat : Int) == 110) = false := by rw [beq_eq_false_iff_ne]; exact hc110
    have q114 : ((s[1].toNat : Int) == 114) = false := by rw [beq_eq_false_iff_ne]; exact hc114
    have q116 : ((s[1].toNat : Int) == 116) = false := by rw [beq_eq_false_iff_ne]; exact hc116
    have q48 : ((s[1].toNat : Int) == 48) = false := by rw [beq_eq_false_iff_ne]; exact hc48
    by_cases hc117 : (s[1].toNat : Int) = 117
    ·have HUU := Lib.hid (HU.out h1 h92 hc117)
     have q117 : ((s[1].toNat : Int) != 117) = false := by rw [hc117]; rfl
     clear hc117 hc92 hc39 hc34 hc110 hc114 hc116 hc48 h92
     by_cases h6 : s.size < 6
     ·have hi6 : (s.size : Int) < 6 := by omega
      obtain ⟨rfl, rfl⟩ := NN.out (HUU.out.trans (by rw [hexN_short _ _ _ (by rw [List.length_drop, list_size']; omega)]))
      go_enter Tryz.func167, Tryz.ntmps167
      go_wp2_with fail
      go_ret2
      exact ⟨rfl, Below.refl _ _⟩
     ·have hi6 : ¬ (s.size : Int) < 6 := by omega
      go_enter Tryz.func167, Tryz.ntmps167
      go_wp2_with fail
      go_loop [6, 7] (fun nn ii => ∃ (i : Nat) (n : Int), ii = .int .i64 (i : Int) ∧ nn = .int .i64 n ∧ 2 ≤ i ∧ i ≤ 6 ∧ 0 ≤ n ∧ n ≤ 16777215 ∧ (i ≤ 5 → n ≤ 1048575) ∧ (i ≤ 4 → n ≤ 65535) ∧ (i ≤ 3 → n ≤ 4095) ∧ (i = 2 → n = 0) ∧ Hid (hexN 4 (s.data.toList.drop 2) 0 = hexN (6 - i) (s.data.toList.drop i) n)) (fun _ ii => 6 - (intOf ii).toNat)
      case atStart => exact ⟨2, 0, rfl, rfl, by omega, by omega, by omega, by omega, by omega, by omega, by omega, by omega, rfl⟩
      case round =>
       obtain ⟨i, n, rfl, rfl, hi2, hi6', hn0, hn1, hn5, hn4, hn3, hn2, HC⟩ := hrel
       by_cases hlt : i < 6
       ·have hin : i < s.size := by omega
        obtain ⟨m, hm⟩ : ∃ m, 6 - i = m + 1 := ⟨5 - i, by omega⟩
        rw [hm] at HC
        have HM2 : Hid (6 - (i + 1) = m) := by show _ = _; omega
        clear hm
        have V := Lib.hid (fun w => rvalue_any (s[i].toNat : Int) (Int.natCast_nonneg _) (by have := s[i].toNat_lt; omega) w)
        have B1 := Lib.hid (@hexN_bad s i m n hin)
        have B2 := Lib.hid (@hexN_more s i m n hin)
        have VV : Hid (valI (s[i].toNat : Int) = if hexI (s[i].toNat : Int) = 16 then -1 else hexI (s[i].toNat : Int)) := rfl
        have hr := hexI_range (s[i].toNat : Int)
        generalize hexI (s[i].toNat : Int) = d at *
        generalize valI (s[i].toNat : Int) = v at *
        obtain ⟨hr0, hr1⟩ := hr
        by_cases hb : d = 16
        ·have hv : v = -1 := VV.out.trans (if_pos hb)
         obtain ⟨rfl, rfl⟩ := NN.out (HUU.out.trans (by rw [HC.out, B1.out hb]))
         subst hv
         clear hb
         go_wp2_with (go_at_call 165; refine (V.out _).mono ?_; rintro e w' ⟨rfl, rfl⟩)
         go_ret2
         exact ⟨rfl, Below.refl _ _⟩
        ·have hv : v = d := VV.out.trans (if_neg hb)
         have E := Lib.hid (HC.out.trans (B2.out hb))
         subst hv
         have HB := Lib.hid hb
         clear hb
         go_wp2_with (go_at_call 165; refine (V.out _).mono ?_; rintro e w' ⟨rfl, rfl⟩)
         go_round
         case rel =>
          have hb := HB.out
          exact ⟨i + 1, n * 16 + v, by go_num, by go_num, by omega, by omega, by omega, by omega, by omega, by omega, by omega, by omega, by rw [HM2.out]; exact E.out⟩
         case measure => simp [intOf]; omega
       ·obtain rfl : i = 6 := by omega
        have P := Lib.hid (fun w => rput_any n w)
        have PE : Hid (putE n = if sizeI n = 0 then 2 else 0) := rfl
        have E := Lib.hid (HUU.out.trans (by rw [HC.out]; rfl : _ = if sizeI n = 0 then none else some (putL n, 6)))
        have HPS : Hid (putS n = bs (putL n)) := rfl
        generalize putS n = ps at *
        generalize putE n = pe at *
        by_cases hz : sizeI n = 0
        ·have hp : pe = 2 := by rw [PE.out, if_pos hz]
         subst hp
         obtain ⟨rfl, rfl⟩ := NN.out (E.out.trans (if_pos hz))
         clear hz
         go_wp2_with fail
         refine (P.out _).mono ?_; rintro e w1 ⟨rfl, hB⟩
         go_wp2_with fail
         go_ret2
         exact ⟨rfl, hB⟩
        ·have hp : pe = 0 := by rw [PE.out, if_neg hz]
         subst hp
         have E2 := NS.out _ _ (E.out.trans (if_neg hz))
         rw [← HPS.out] at E2
         obtain ⟨rfl, rfl⟩ := E2
         clear hz
         go_wp2_with fail
         refine (P.out _).mono ?_; rintro e w1 ⟨rfl, hB⟩
         go_wp2_with fail
         go_ret2
         exact ⟨rfl, hB⟩
    ·obtain ⟨rfl, rfl⟩ := HX.out h1 h92 hc92 hc39 hc34 hc110 hc114 hc116 hc48 hc117
     have q117 : ((s[1].toNat : Int) != 117) = true := by rw [bne_iff_ne]; exact hc117
     clear hc117 hc92 hc39 hc34 hc110 hc114 hc116 hc48 h92
     go_enter Tryz.func167, Tryz.ntmps167
     go_wp2_with fail
     go_ret2
     exact ⟨rfl, Below.refl _ _⟩
   ·obtain ⟨rfl, rfl⟩ := HO.out (by omega) h92
    have hi1 : (s.size : Int) < 2 := by omega
    clear h92
    go_enter Tryz.func167, Tryz.ntmps167
    go_wp2_with fail
    go_ret2
    exact ⟨rfl, Below.refl _ _⟩
  ·obtain ⟨rfl, rfl⟩ := HSE.out h92 hl
   have n92 : ((s[0].toNat : Int) != 92) = true := by rw [bne_iff_ne]; exact h92
   clear h92
   go_enter Tryz.func167, Tryz.ntmps167
   go_wp2_with fail
   go_ret2
   exact ⟨rfl, Below.refl _ _⟩
end Go.Proofs.YtnkfodelgpidkaaGreatDoor
namespace Go.Proofs.YtnkfodelgpidkaaGreatDoor
open Go.RowKit
theorem rest_list (s : ByteArray) (k : Nat) : (s.extract k s.size).data.toList = s.data.toList.drop k := by
 rw [Lib.extract_data, List.take_of_length_le (by rw [List.length_drop, list_size']; exact Nat.le_refl _)]
theorem rest_get {s : ByteArray} {k : Nat} (hk : k < s.size) (h : 0 < (s.extract k s.size).size) : (s.extract k s.size)[0] = s[k] := by
 have h1 := drop_cons (s.extract k s.size) 0 h
 rw [List.drop_zero, rest_list, drop_cons s k hk] at h1
 injection h1 with h1; exact h1.symm
def txS (q : UInt8) (R : List UInt8) : ByteArray := match txt q R with | some (o, _) => bs o | none => ⟨#[]⟩
def txN (q : UInt8) (R : List UInt8) : Nat := match txt q R with | some (_, m) => m + 1 | none => 0
theorem tx_n {q : UInt8} {R : List UInt8} (h : txt q R = none) : txS q R = ⟨#[]⟩ ∧ txN q R = 0 := by unfold txS txN; rw [h]; exact ⟨rfl, rfl⟩
theorem tx_s {q : UInt8} {R o : List UInt8} {n : Nat} (h : txt q R = some (o, n)) : txS q R = bs o ∧ txN q R = n + 1 := by unfold txS txN; rw [h]; exact ⟨rfl, rfl⟩
theorem oneT_pos {R o : List UInt8} {n : Nat} (h : oneT R = some (o, n)) : 1 ≤ n ∧ n ≤ R.length ∧ o.length ≤ 4 := by
 match R with
 | [] => cases h
 | c :: r =>
  unfold oneT at h
  simp only at h
  split at h
  ·cases he : escT r with
   | none => rw [he] at h; cases h
   | some y =>
    obtain ⟨o2, n2⟩ := y
    rw [he] at h
    injection h with h; injection h with h1 h2; subst h1
    have := escT_size he; simp; omega
  ·split at h
   ·cases h
   ·injection h with h; injection h with h1 h2; subst h1; subst h2; simp
theorem txt_more' {s : ByteArray} {q : UInt8} {p n : Nat} {o : List UInt8} (h : p < s.size) (hc : ¬ s[p] = q) (ho : oneT (s.data.toList.drop p) = some (o, n)) : txt q (s.data.toList.drop p) = app o n (txt q (s.data.toList.drop (p + n))) := by
 have := oneT_pos ho
 obtain ⟨m, rfl⟩ : ∃ m, n = m + 1 := ⟨n - 1, by omega⟩
 rw [txt_more h hc ho, show p + 1 + m = p + (m + 1) by omega]
theorem bt {w b c : World} (h : Below w.heap.size w b) (g : Below b.heap.size b c) : Below w.heap.size w c := h.trans (g.mono h.size)
theorem rlext_any (s : ByteArray) (hs : s.size ≤ 100000) (h0 : 0 < s.size) (w : World) :
  Calls Tryz.prog 95 #[.string s] w fun e w' => e = .returned (.tuple #[.int .i64 (txN s[0] (s.data.toList.drop 1) : Nat), .string (txS s[0] (s.data.toList.drop 1))]) ∧ Below w.heap.size w w' := by
 have TN := Lib.hid (@tx_n s[0] (s.data.toList.drop 1))
 have TS := Lib.hid (fun o n => @tx_s s[0] (s.data.toList.drop 1) o n)
 generalize txN s[0] (s.data.toList.drop 1) = zn at *
 generalize txS s[0] (s.data.toList.drop 1) = zs at *
 go_enter Tryz.func95, Tryz.ntmps95
 go_wp2_with fail
 go_loopw [4, 5] (fun oo aa wr => ∃ (p : Nat) (a : ByteArray), aa = .int .i64 (p : Int) ∧ oo = .string a ∧ 1 ≤ p ∧ p ≤ s.size ∧ a.size ≤ 4 * p ∧ Hid (txt s[0] (s.data.toList.drop 1) = app a.data.toList (p - 1) (txt s[0] (s.data.toList.drop p))) ∧ Below w.heap.size w wr) (fun _ aa _ => s.size - (intOf aa).toNat)
 case atStart => exact ⟨1, ⟨#[]⟩, rfl, rfl, by omega, by omega, by simp [ByteArray.size], by show _ = _; rw [Nat.sub_self]; exact (app_nil _).symm, Below.refl _ _⟩
 case round =>
  rename_i wr hrel
  obtain ⟨p, a, rfl, rfl, hp1, hps, has, HT, hB⟩ := hrel
  by_cases hlt : p < s.size
  ·by_cases hq : s[p] = s[0]
   ·obtain ⟨rfl, rfl⟩ := TS.out _ _ (HT.out.trans (by rw [txt_end hlt hq, app_some]))
    have hqq : ((s[p].toNat : Int) == (s[0].toNat : Int)) = true := by rw [hq]; simp
    have HA : Hid (bs (a.data.toList ++ []) = a) := by show _ = _; rw [List.append_nil]; exact (bs_eq rfl).symm
    clear hq
    go_wp2_with fail
    go_quiet (fail)
    go_wp2_with fail
    go_ret2
    exact ⟨by rw [HA.out, show p - 1 + 1 + 1 = p + 1 by omega]; rfl, hB.trans ⟨rfl, rfl, rfl, Nat.le_refl _, fun _ _ => rfl⟩⟩
   ·have hqq : ((s[p].toNat : Int) == (s[0].toNat : Int)) = false := by rw [beq_eq_false_iff_ne]; exact fun h => hq (ci_inj h)
    have hz : (s.extract p s.size).size = s.size - p := by rw [ByteArray.size_extract]; omega
    have hg := rest_get hlt (by rw [hz]; omega)
    have R := Lib.hid (fun w => rone_any (s.extract p s.size) (by omega) (s[0].toNat : Int) (by omega) (by rw [hg]; exact hqq) w)
    rw [rest_list] at R
    have ON := Lib.hid (@one_n (s.data.toList.drop p))
    have OS := Lib.hid (fun o n => @one_s (s.data.toList.drop p) o n)
    have OP := Lib.hid (fun o n => @oneT_pos (s.data.toList.drop p) o n)
    have TB := Lib.hid (@txt_bad s s[0] p hlt hq)
    have TM := Lib.hid (fun o n => @txt_more' s s[0] p n o hlt hq)
    generalize oneS (s.data.toList.drop p) = os at *
    generalize oneN (s.data.toList.drop p) = on at *
    generalize hoo : oneT (s.data.toList.drop p) = ot at *
    clear hoo hg hz hq
    rcases ot with _ | ⟨o, n⟩
    ·obtain ⟨rfl, rfl⟩ := ON.out rfl
     obtain ⟨rfl, rfl⟩ := TN.out (HT.out.trans (by rw [TB.out rfl]; rfl))
     go_wp2_with fail
     go_quiet (fail)
     go_wp2_with fail
     have hS : Below w.heap.size w (wr.drewN nq) := hB.trans ⟨rfl, rfl, rfl, Nat.le_refl _, fun _ _ => rfl⟩
     generalize wr.drewN nq = wq at *
     go_region_held3 (fun w' => Below w.heap.size w w') (first | assumption | exact Below.drew (by assumption)) (first | (go_at_call 167; refine (R.out _).mono ?_; rintro e w1 ⟨rfl, hB1⟩; have hS1 := bt (w := w) (by assumption) hB1; clear hB1))
     go_wp2_with fail
     go_ret2
     exact ⟨rfl, by assumption⟩
    ·obtain ⟨rfl, rfl⟩ := OS.out o n rfl
     obtain ⟨n1, n2, n3⟩ := OP.out o on rfl
     rw [List.length_drop, list_size'] at n2
     have HT2 : Hid (txt s[0] (s.data.toList.drop 1) = app (a.data.toList ++ o) (p - 1 + on) (txt s[0] (s.data.toList.drop (p + on)))) := by
      show _ = _; rw [HT.out, TM.out o on rfl, app_app]
     have hbo : (bs o).size ≤ 4 := by rw [bs_size]; exact n3
     have HBL : Hid ((bs o).data.toList = o) := rfl
     generalize bs o = bo at *
     have hne : ((on : Int) == 0) = false := by rw [beq_eq_false_iff_ne]; omega
     have hsum : (a ++ bo).size = a.size + bo.size := ByteArray.size_append
     have HSUM := Lib.hid hsum
     clear hsum
     go_wp2_with fail
     go_quiet (fail)
     go_wp2_with fail
     have hS : Below w.heap.size w (wr.drewN nq) := hB.trans ⟨rfl, rfl, rfl, Nat.le_refl _, fun _ _ => rfl⟩
     generalize wr.drewN nq = wq at *
     go_region_held3 (fun w' => Below w.heap.size w w') (first | assumption | exact Below.drew (by assumption)) (first | (go_at_call 167; refine (R.out _).mono ?_; rintro e w1 ⟨rfl, hB1⟩; have hS1 := bt (w := w) (by assumption) hB1; clear hB1))
     go_wp2_with fail
     go_roundw
     case rel => exact ⟨p + on, a ++ bo, by go_num, rfl, by omega, by omega, by rw [HSUM.out]; omega, by show _ = _; rw [show (a ++ bo).data.toList = a.data.toList ++ o by rw [← HBL.out]; simp, show p + on - 1 = p - 1 + on by omega]; exact HT2.out, by assumption⟩
     case measure => simp [intOf]; omega
  ·obtain ⟨rfl, rfl⟩ := TN.out (HT.out.trans (by rw [txt_out (by omega)]; rfl))
   go_wp2_with fail
   go_ret2
   exact ⟨rfl, hB⟩
end Go.Proofs.YtnkfodelgpidkaaGreatDoor
namespace Go.Proofs.YtnkfodelgpidkaaGreatDoor
open Go.RowKit
def gapI (L : List UInt8) : Int := match gap L with | (k, true) => (k : Int) | (k, false) => -1 - (k : Int)
theorem gi_ok {L : List UInt8} {k : Nat} (h : gap L = (k, true)) : gapI L = k := by unfold gapI; rw [h]
theorem gi_bad {L : List UInt8} {k : Nat} (h : gap L = (k, false)) : gapI L = -1 - k := by unfold gapI; rw [h]
theorem line_more {s : ByteArray} {p : Nat} (h : p < s.size) (hc : ¬ (s[p].toNat : Int) = 10) : lineN (s.data.toList.drop p) = lineN (s.data.toList.drop (p + 1)) + 1 := by
 rw [drop_cons s p h, lineN, if_neg (fun e => hc (by rw [e]; rfl))]
theorem line_stop {s : ByteArray} {p : Nat} (h : p < s.size) (hc : (s[p].toNat : Int) = 10) : lineN (s.data.toList.drop p) = 0 := by
 rw [drop_cons s p h, lineN, if_pos (ci_inj (by unfold ci; rw [hc]; rfl))]
theorem line_out {s : ByteArray} {p : Nat} (h : s.size ≤ p) : lineN (s.data.toList.drop p) = 0 := by rw [drop_done s p h]; rfl
theorem end_out {s : ByteArray} {p : Nat} (h : s.size ≤ p + 1) : endN (s.data.toList.drop p) = none := by
 by_cases h2 : p < s.size
 ·rw [drop_cons s p h2, drop_done s (p + 1) h]; rfl
 ·rw [drop_done s p (by omega)]; rfl
theorem end_here {s : ByteArray} {p : Nat} (h : p + 1 < s.size) (h1 : (s[p].toNat : Int) = 42) (h2 : (s[p + 1].toNat : Int) = 47) : endN (s.data.toList.drop p) = some 0 := by
 rw [drop_cons s p (by omega), drop_cons s (p + 1) h, endN, if_pos ⟨ci_inj (by unfold ci; rw [h1]; rfl), ci_inj (by unfold ci; rw [h2]; rfl)⟩]
theorem end_more {s : ByteArray} {p : Nat} (h : p + 1 < s.size) (hc : ¬ ((s[p].toNat : Int) = 42 ∧ (s[p + 1].toNat : Int) = 47)) : endN (s.data.toList.drop p) = (endN (s.data.toList.drop (p + 1))).map (· + 1) := by
 rw [drop_cons s p (by omega), drop_cons s (p + 1) h, endN, if_neg (fun e => hc ⟨by rw [e.1]; rfl, by rw [e.2]; rfl⟩), ← drop_cons s (p + 1) h]
theorem rem_47 {s : ByteArray} {p : Nat} (h : p + 1 < s.size) (h1 : (s[p].toNat : Int) = 47) (h2 : (s[p + 1].toNat : Int) = 47) : remN (s.data.toList.drop p) = some (lineN (s.data.toList.drop p)) := by
 have e1 : s[p] = 47 := ci_inj (by unfold ci; rw [h1]; rfl)
 have e2 : s[p + 1] = 47 := ci_inj (by unfold ci; rw [h2]; rfl)
 rw [drop_cons s p (by omega), drop_cons s (p + 1) h, e1, e2]; rfl
theorem rem_42 {s : ByteArray} {p : Nat} (h : p + 1 < s.size) (h1 : (s[p].toNat : Int) = 47) (h2 : (s[p + 1].toNat : Int) = 42) : remN (s.data.toList.drop p) = (endN (s.data.toList.drop (p + 2))).map (· + 4) := by
 have e1 : s[p] = 47 := ci_inj (by unfold ci; rw [h1]; rfl)
 have e2 : s[p + 1] = 42 := ci_inj (by unfold ci; rw [h2]; rfl)
 rw [drop_cons s p (by omega), drop_cons s (p + 1) h, e1, e2]; rfl
theorem rem_not {s : ByteArray} {p : Nat} (h : p + 1 < s.size) (h1 : ¬ (s[p + 1].toNat : Int) = 47) (h2 : ¬ (s[p + 1].toNat : Int) = 42) : remN (s.data.toList.drop p) = some 0 := by
 rw [drop_cons s p (by omega), drop_cons s (p + 1) h]
 show (if s[p] = 47 ∧ s[p + 1] = 47 then _ else if s[p] = 47 ∧ s[p + 1] = 42 then _ else some 0) = some 0
 rw [if_neg (fun e => h1 (by rw [e.2]; rfl)), if_neg (fun e => h2 (by rw [e.2]; rfl))]
theorem rem_last {s : ByteArray} {p : Nat} (hp : p < s.size) (h : s.size ≤ p + 1) : remN (s.data.toList.drop p) = some 0 := by
 rw [drop_cons s p hp, drop_done s (p + 1) h]; rfl
theorem rem_slash {s : ByteArray} {p : Nat} (hp : p < s.size) (h : ¬ (s[p].toNat : Int) = 47) : remN (s.data.toList.drop p) = some 0 := by
 rw [drop_cons s p hp]; exact rem_other (fun e => h (by rw [e]; rfl))
theorem rbetween_any (s : ByteArray) (hs : s.size ≤ 100000) (w : World) :
  Calls Tryz.prog 49 #[.string s] w fun e w' => e = .returned (.int .i64 (gapI s.data.toList)) ∧ w = w' := by
 have GO := Lib.hid (fun k => @gi_ok s.data.toList k)
 have GB := Lib.hid (fun k => @gi_bad s.data.toList k)
 generalize gapI s.data.toList = G at *
 go_enter Tryz.func49, Tryz.ntmps49
 go_wp2_with fail
 go_loop [3, 4, 5] (fun aa _ _ => ∃ p : Nat, aa = .int .i64 (p : Int) ∧ p ≤ s.size ∧ Hid (gap s.data.toList = gAdd p (gap (s.data.toList.drop p)))) (fun aa _ _ => s.size - (intOf aa).toNat)
 case atStart => exact ⟨0, rfl, by omega, by show _ = _; simp [gAdd]⟩
 case round =>
  obtain ⟨p, rfl, hp, HC⟩ := hrel
  by_cases hlt : p < s.size
  ·have GBL := Lib.hid (@gap_blank s p hlt)
   have GBD := Lib.hid (@gap_bad s p hlt)
   have GN := Lib.hid (@gap_none s p hlt)
   have GR := Lib.hid (fun n => @gap_rem s p n hlt)
   by_cases hb : blankB s[p] = true
   ·have E := Lib.hid (HC.out.trans (by rw [GBL.out hb, gAdd_add]))
    have hcs : (s[p].toNat : Int) = 32 ∨ (s[p].toNat : Int) = 9 ∨ (s[p].toNat : Int) = 13 ∨ (s[p].toNat : Int) = 10 := by
     unfold blankB at hb
     simp only [Bool.or_eq_true, beq_iff_eq] at hb
     rcases hb with ((h | h) | h) | h <;> rw [h] <;> simp
    clear hb
    rcases hcs with h | h | h | h
    ·have q32 : ((s[p].toNat : Int) == 32) = true := by rw [h]; rfl
     clear h
     go_wp2_with fail
     go_round
     case rel => exact ⟨p + 1, by go_num, by omega, E.out⟩
     case measure => simp [intOf]; omega
    ·have q32 : ((s[p].toNat : Int) == 32) = false := by rw [h]; rfl
     have q9 : ((s[p].toNat : Int) == 9) = true := by rw [h]; rfl
     clear h
     go_wp2_with fail
     go_round
     case rel => exact ⟨p + 1, by go_num, by omega, E.out⟩
     case measure => simp [intOf]; omega
    ·have q32 : ((s[p].toNat : Int) == 32) = false := by rw [h]; rfl
     have q9 : ((s[p].toNat : Int) == 9) = false := by rw [h]; rfl
     have q13 : ((s[p].toNat : Int) == 13) = true := by rw [h]; rfl
     clear h
     go_wp2_with fail
     go_round
     case rel => exact ⟨p + 1, by go_num, by omega, E.out⟩
     case measure => simp [intOf]; omega
    ·have q32 : ((s[p].toNat : Int) == 32) = false := by rw [h]; rfl
     have q9 : ((s[p].toNat : Int) == 9) = false := by rw [h]; rfl
     have q13 : ((s[p].toNat : Int) == 13) = false := by rw [h]; rfl
     have q10 : ((s[p].toNat : Int) == 10) = true := by rw [h]; rfl
     clear h
     go_wp2_with fail
     go_round
     case rel => exact ⟨p + 1, by go_num, by omega, E.out⟩
     case measure => simp [intOf]; omega
   ·have hb2 : blankB s[p] = false := by simpa using hb
    have hci : ∀ x : UInt8, (s[p].toNat : Int) = (x.toNat : Int) → s[p] = x := fun x h => ci_inj h
    have n32 : ¬ (s[p].toNat : Int) = 32 := fun h => hb (by rw [hci 32 h]; rfl)
    have n9 : ¬ (s[p].toNat : Int) = 9 := fun h => hb (by rw [hci 9 h]; rfl)
    have n13 : ¬ (s[p].toNat : Int) = 13 := fun h => hb (by rw [hci 13 h]; rfl)
    have n10 : ¬ (s[p].toNat : Int) = 10 := fun h => hb (by rw [hci 10 h]; rfl)
    have q32 : ((s[p].toNat : Int) == 32) = false := by rw [beq_eq_false_iff_ne]; exact n32
    have q9 : ((s[p].toNat : Int) == 9) = false := by rw [beq_eq_false_iff_ne]; exact n9
    have q13 : ((s[p].toNat : Int) == 13) = false := by rw [beq_eq_false_iff_ne]; exact n13
    have q10 : ((s[p].toNat : Int) == 10) = false := by rw [beq_eq_false_iff_ne]; exact n10
    have N10 := Lib.hid n10
    clear hci n32 n9 n13 n10 hb
    by_cases h47 : (s[p].toNat : Int) = 47
    ·have q47 : ((s[p].toNat : Int) != 47) = false := by rw [h47]; rfl
     by_cases h1 : p + 1 < s.size
     ·have qe : (((p : Int) + 1) == (s.size : Int)) = false := by rw [beq_eq_false_iff_ne]; omega
      by_cases d47 : (s[p + 1].toNat : Int) = 47
      ·-- a remark to the line's end
       have r47 : ((s[p + 1].toNat : Int) != 47) = false := by rw [d47]; rfl
       have r47' : ((s[p + 1].toNat : Int) == 47) = true := by rw [d47]; rfl
       have hl1 := line_more (s := s) (p := p) hlt N10.out
       have hl2 := line_more (s := s) (p := p + 1) h1 (by rw [d47]; decide)
       have HR : Hid (gap (s.data.toList.drop p) = gAdd (lineN (s.data.toList.drop p)) (gap (s.data.toList.drop (p + lineN (s.data.toList.drop p))))) := by
        have := GR.out (lineN (s.data.toList.drop p) - 1) hb2 (by rw [rem_47 h1 h47 d47, show lineN (s.data.toList.drop p) - 1 + 1 = lineN (s.data.toList.drop p) by omega])
        rw [show lineN (s.data.toList.drop p) - 1 + 1 = lineN (s.data.toList.drop p) by omega] at this
        exact this
       have hlp : 1 ≤ lineN (s.data.toList.drop p) := by omega
       have HLP := Lib.hid hlp
       clear hl1 hl2 h47 d47 hb2 hlp
       go_wp2_with fail
       go_loop [3] (fun bb => ∃ q : Nat, bb = .int .i64 (q : Int) ∧ p ≤ q ∧ q ≤ s.size ∧ Hid (p + lineN (s.data.toList.drop p) = q + lineN (s.data.toList.drop q))) (fun bb => s.size - (intOf bb).toNat)
       case atStart => exact ⟨p, rfl, by omega, by omega, rfl⟩
       case round =>
        obtain ⟨q, rfl, hpq, hqs, HQ⟩ := hrel
        by_cases hq : q < s.size
        ·by_cases hc : (s[q].toNat : Int) = 10
         ·have hcc : ((s[q].toNat : Int) != 10) = false := by rw [hc]; rfl
          have E := Lib.hid (HQ.out.trans (by rw [line_stop hq hc, Nat.add_zero]))
          clear hc
          go_wp2_with fail
          go_round
          case rel => exact ⟨q, rfl, hqs, by show _ = _; rw [HC.out, HR.out, gAdd_add, E.out]⟩
          case measure => have := E.out; have := HLP.out; simp [intOf]; omega
         ·have hcc : ((s[q].toNat : Int) != 10) = true := by rw [bne_iff_ne]; exact hc
          have E := Lib.hid (HQ.out.trans (by rw [line_more hq hc]))
          clear hc
          go_wp2_with fail
          go_round
          case rel => exact ⟨q + 1, by go_num, by omega, by omega, by show _ = _; rw [E.out]; omega⟩
          case measure => simp [intOf]; omega
        ·have E := Lib.hid (HQ.out.trans (by rw [line_out (by omega), Nat.add_zero]))
         have hd : decide (q < s.size) = false := by rw [decide_eq_false_iff_not]; exact hq
         go_wp2_with fail
         go_round
         case rel => exact ⟨q, rfl, hqs, by show _ = _; rw [HC.out, HR.out, gAdd_add, E.out]⟩
         case measure => have := E.out; have := HLP.out; simp [intOf]; omega
      ·have r47 : ((s[p + 1].toNat : Int) != 47) = true := by rw [bne_iff_ne]; exact d47
       have r47' : ((s[p + 1].toNat : Int) == 47) = false := by rw [beq_eq_false_iff_ne]; exact d47
       by_cases d42 : (s[p + 1].toNat : Int) = 42
       ·have r42 : ((s[p + 1].toNat : Int) != 42) = false := by rw [d42]; rfl
        have R42 := Lib.hid (rem_42 h1 h47 d42)
        have HB2 := Lib.hid hb2
        clear d42 d47 h47 hb2
        go_wp2_with fail
        go_loop [5] (fun bb => ∃ q : Nat, bb = .int .i64 (q : Int) ∧ p + 2 ≤ q ∧ q ≤ s.size ∧ Hid (endN (s.data.toList.drop (p + 2)) = (endN (s.data.toList.drop q)).map (· + (q - (p + 2))))) (fun bb => s.size - (intOf bb).toNat)
        case atStart => exact ⟨p + 2, by go_num, by omega, by omega, by show _ = _; simp⟩
        case round =>
         obtain ⟨q, rfl, hpq, hqs, HQ⟩ := hrel
         by_cases hq : q + 1 < s.size
         ·have hdq : decide (q + 1 < s.size) = true := by rw [decide_eq_true_eq]; exact hq
          have hqi : ((q : Int) + 1) < (s.size : Int) := by omega
          by_cases hc : (s[q].toNat : Int) = 42 ∧ (s[q + 1].toNat : Int) = 47
          ·have e1 : ((s[q].toNat : Int) != 42) = false := by rw [hc.1]; rfl
           have e2 : ((s[q + 1].toNat : Int) != 47) = false := by rw [hc.2]; rfl
           have E := Lib.hid (GR.out (q - (p + 2) + 3) HB2.out (by rw [R42.out, HQ.out, end_here hq hc.1 hc.2]; simp))
           clear hc
           go_wp2_with fail
           go_round
           case rel => exact ⟨q + 2, by go_num, by omega, by show _ = _; rw [HC.out, E.out, gAdd_add, show p + (q - (p + 2) + 3 + 1) = q + 2 by omega]⟩
           case measure => simp [intOf]; omega
          ·have E : Hid (endN (s.data.toList.drop (p + 2)) = (endN (s.data.toList.drop (q + 1))).map (· + (q + 1 - (p + 2)))) := by
            show _ = _
            rw [HQ.out, end_more hq hc]
            cases endN (s.data.toList.drop (q + 1)) with
            | none => rfl
            | some i => simp; omega
           by_cases e1 : (s[q].toNat : Int) = 42
           ·have e2 : ¬ (s[q + 1].toNat : Int) = 47 := fun h => hc ⟨e1, h⟩
            have f1 : ((s[q].toNat : Int) != 42) = false := by rw [e1]; rfl
            have f2 : ((s[q + 1].toNat : Int) != 47) = true := by rw [bne_iff_ne]; exact e2
            clear hc e1 e2
            go_wp2_with fail
            go_round
            case rel => exact ⟨q + 1, by go_num, by omega, by omega, E.out⟩
            case measure => simp [intOf]; omega
           ·have f1 : ((s[q].toNat : Int) != 42) = true := by rw [bne_iff_ne]; exact e1
            clear hc e1
            go_wp2_with fail
            go_round
            case rel => exact ⟨q + 1, by go_num, by omega, by omega, E.out⟩
            case measure => simp [intOf]; omega
         ·have hdq : decide (q + 1 < s.size) = false := by rw [decide_eq_false_iff_not]; exact hq
          have hqi : ¬ ((q : Int) + 1) < (s.size : Int) := by omega
          have hqi2 : (s.size : Int) ≤ (q : Int) + 1 := by omega
          have E := Lib.hid (GB.out p (HC.out.trans (by rw [GBD.out HB2.out (by rw [R42.out, HQ.out, end_out (by omega)]; rfl)]; rfl)))
          go_wp2_with fail
          go_ret
          exact ⟨ret_int (by rw [E.out]), rfl⟩
       ·have r42 : ((s[p + 1].toNat : Int) != 42) = true := by rw [bne_iff_ne]; exact d42
        have E := Lib.hid (GO.out p (HC.out.trans (by rw [GN.out hb2 (rem_not h1 d47 d42)]; rfl)))
        clear d42 d47 h47 hb2
        go_wp2_with fail
        go_ret
        exact ⟨ret_int (by rw [E.out]), rfl⟩
     ·have qe : (((p : Int) + 1) == (s.size : Int)) = true := by rw [beq_iff_eq]; omega
      have E := Lib.hid (GO.out p (HC.out.trans (by rw [GN.out hb2 (rem_last hlt (by omega))]; rfl)))
      clear h47 hb2
      go_wp2_with fail
      go_ret
      exact ⟨ret_int (by rw [E.out]), rfl⟩
    ·have q47 : ((s[p].toNat : Int) != 47) = true := by rw [bne_iff_ne]; exact h47
     have E := Lib.hid (GO.out p (HC.out.trans (by rw [GN.out hb2 (rem_slash hlt h47)]; rfl)))
     clear h47 hb2
     go_wp2_with fail
     go_ret
     exact ⟨ret_int (by rw [E.out]), rfl⟩
  ·have E := Lib.hid (GO.out p (HC.out.trans (by rw [gap_out (by omega)]; rfl)))
   go_wp2_with fail
   go_ret
   exact ⟨ret_int (by rw [E.out]), rfl⟩
end Go.Proofs.YtnkfodelgpidkaaGreatDoor
