/- lex.Name of a text of any length. -/
import Derived.Test.YtnkfodelgpidkaaGreatDoorWq
namespace Go.Proofs.YtnkfodelgpidkaaGreatDoor
open Go.RowKit
set_option linter.unusedVariables false

set_option maxRecDepth 100000 in
set_option maxHeartbeats 4000000 in
theorem lname_big (s : ByteArray) (hs : s.size ≤ 9223372036854775807) (w : World) :
    Calls Tryz.prog 18 #[.string s] w fun e w' => e = .returned (.bool (nameB s.data.toList)) ∧ w = w' := by
  by_cases h0 : s.size = 0
  · have e : s = ⟨#[]⟩ := by
      have : s.data.toList = [] := List.eq_nil_of_length_eq_zero (by rw [list_size', h0])
      exact bs_eq this
    subst e
    go_enter Tryz.func18, Tryz.ntmps18
    go_wp2_with fail
    go_ret
    exact ⟨rfl, rfl⟩
  · have h1 : 0 < s.size := by omega
    have hne : (s.toList == []) = false := by rw [list_eq_iff, decide_eq_false_iff_not]; intro e; have := list_size' s; rw [e] at this; simp at this; omega
    have D := Lib.hid (fun w => isDigit_any (s[0].toNat : Int) w)
    have ND := Lib.hid (@name_dig s h1)
    have NF := Lib.hid (@name_full s h1)
    have NL := Lib.hid (@name_less s)
    cases hd : digB (s[0].toNat : Int)
    · rw [hd] at D
      have NF2 := Lib.hid (NF.out hd)
      have W := Lib.hid (fun w => word_any s w)
      generalize wordB s.data.toList = wo at *
      generalize nameB s.data.toList = G at *
      clear hd
      go_enter Tryz.func18, Tryz.ntmps18
      go_wp2_with fail
      refine (D.out _).mono ?_; rintro e w' ⟨rfl, rfl⟩
      go_wp2_with fail
      go_loop [13] (fun i => ∃ k : Nat, i = .int .i64 (k : Int) ∧ k ≤ s.size ∧ Hid (nmL s.data.toList = k + nmL (s.data.toList.drop k))) (fun i => s.size - (intOf i).toNat)
      case atStart => exact ⟨0, rfl, by omega, by show _ = _; simp⟩
      case round =>
        obtain ⟨k, rfl, hk, HC⟩ := hrel
        by_cases hlt : k < s.size
        · have C := Lib.hid (fun w => isNamePart_any (s[k].toNat : Int) w)
          have Y := Lib.hid (@nm_yes s k hlt)
          have N := Lib.hid (@nm_no s k hlt)
          have hki : (k : Int) < (s.size : Int) := by omega
          cases hn : npB (s[k].toNat : Int)
          · rw [hn] at C
            have e : G = false := NL.out (by have := HC.out; rw [N.out hn] at this; omega)
            subst e
            clear hn
            go_wp2_with fail
            refine (C.out _).mono ?_; rintro e w' ⟨rfl, rfl⟩
            go_wp2_with fail
            go_ret
            exact ⟨rfl, rfl⟩
          · rw [hn] at C
            have E := Lib.hid (show nmL s.data.toList = (k + 1) + nmL (s.data.toList.drop (k + 1)) by have := HC.out; rw [Y.out hn] at this; omega)
            clear hn
            go_wp2_with fail
            refine (C.out _).mono ?_; rintro e w' ⟨rfl, rfl⟩
            go_wp2_with fail
            go_round
            case rel => exact ⟨k + 1, by go_num, by omega, E.out⟩
            case measure => simp [intOf]; omega
        · have hki : ¬ (k : Int) < (s.size : Int) := by omega
          have e : G = !wo := NF2.out (by have := HC.out; rw [nm_end (by omega)] at this; omega)
          subst e
          go_wp2_with fail
          refine (W.out _).mono ?_; rintro e w' ⟨rfl, rfl⟩
          go_wp2_with fail
          go_ret
          exact ⟨rfl, rfl⟩
    · rw [hd] at D
      have E : Hid (nameB s.data.toList = false) := ND.out hd
      generalize nameB s.data.toList = G at *
      have e := E.out
      subst e
      clear hd
      go_enter Tryz.func18, Tryz.ntmps18
      go_wp2_with fail
      refine (D.out _).mono ?_; rintro e w' ⟨rfl, rfl⟩
      go_wp2_with fail
      go_ret
      exact ⟨rfl, rfl⟩
end Go.Proofs.YtnkfodelgpidkaaGreatDoor
