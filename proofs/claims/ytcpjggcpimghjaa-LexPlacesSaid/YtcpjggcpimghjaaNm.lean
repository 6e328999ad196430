/- Name: may a text be somebody's name? -/
import Derived.Test.YtcpjggcpimghjaaName
import Derived.Test.YtcpjggcpimghjaaWhole
namespace Go.Proofs.Ytcpjggcpimghjaa
open Go.RowKit
set_option linter.unusedVariables false

theorem name_dig {s : ByteArray} (h0 : 0 < s.size) (hd : digB (s[0].toNat : Int) = true) : nameB s.data.toList = false := by
  have hL := drop_cons s 0 h0
  rw [List.drop_zero] at hL
  have hl : letB (s[0].toNat : Int) = false := by
    unfold digB at hd; unfold letB; simp only [decide_eq_true_eq] at hd; rw [decide_eq_false_iff_not]; omega
  have : nameN s.data.toList = 0 := by rw [hL]; unfold nameN ci; simp [hl]
  unfold nameB; rw [this, hL]; simp
theorem name_less {s : ByteArray} (h : nmL s.data.toList < s.size) : nameB s.data.toList = false := by
  have : nameN s.data.toList ≤ nmL s.data.toList := by unfold nameN; split; exact Nat.zero_le _; split; exact Nat.le_refl _; exact Nat.zero_le _
  unfold nameB
  rw [show (nameN s.data.toList == s.data.toList.length) = false by rw [beq_eq_false_iff_ne, list_size']; omega]; simp
theorem name_full {s : ByteArray} (h0 : 0 < s.size) (hd : digB (s[0].toNat : Int) = false) (h : nmL s.data.toList = s.size) : nameB s.data.toList = !wordB s.data.toList := by
  have hL := drop_cons s 0 h0
  rw [List.drop_zero] at hL
  have hnp : npB (s[0].toNat : Int) = true := by
    cases hn : npB (s[0].toNat : Int)
    · have e : nmL s.data.toList = 0 := by rw [hL, nmL]; unfold ci; rw [hn]; rfl
      omega
    · rfl
  have hl : letB (s[0].toNat : Int) = true := by
    unfold digB at hd; unfold npB at hnp; unfold letB; simp only [decide_eq_true_eq, decide_eq_false_iff_not] at hd hnp ⊢; omega
  have e : nameN s.data.toList = s.data.toList.length := by
    have : nameN s.data.toList = nmL s.data.toList := by
      conv => lhs; rw [hL]
      unfold nameN ci; simp only [hl, if_true]; rw [← hL]
    rw [this, h, list_size']
  have e2 : s.data.toList.isEmpty = false := by rw [hL]; rfl
  unfold nameB
  rw [e, e2]; simp

set_option maxRecDepth 100000 in
set_option maxHeartbeats 4000000 in
theorem lname_any (s : ByteArray) (hs : s.size ≤ 1000000) (w : World) :
    Calls Try.prog 12 #[.string s] w fun e w' => e = .returned (.bool (nameB s.data.toList)) ∧ w = w' := by
  by_cases h0 : s.size = 0
  · have e : s = ⟨#[]⟩ := by
      have : s.data.toList = [] := List.eq_nil_of_length_eq_zero (by rw [list_size', h0])
      exact bs_eq this
    subst e
    go_enter Try.func12, Try.ntmps12
    go_wp2_with fail
    go_ret
    exact ⟨rfl, rfl⟩
  · have h1 : 0 < s.size := by omega
    have hne : (s.toList == []) = false := by rw [list_eq_iff, decide_eq_false_iff_not]; intro e; have := list_size' s; rw [e] at this; simp at this; omega
    have D := Lib.hid (fun w => isDigit_any (s[0].toNat : Int) w)
    have ND := Lib.hid (@name_dig s h1)
    have NF := Lib.hid (@name_full s h1)
    have NL := Lib.hid (@name_less s)
    cases hd : digB (s[0].toNat : Int)
    · rw [hd] at D
      have NF2 := Lib.hid (NF.out hd)
      have W := Lib.hid (fun w => word_any s w)
      generalize wordB s.data.toList = wo at *
      generalize nameB s.data.toList = G at *
      clear hd
      go_enter Try.func12, Try.ntmps12
      go_wp2_with fail
      refine (D.out _).mono ?_; rintro e w' ⟨rfl, rfl⟩
      go_wp2_with fail
      go_loop [13] (fun i => ∃ k : Nat, i = .int .i64 (k : Int) ∧ k ≤ s.size ∧ Hid (nmL s.data.toList = k + nmL (s.data.toList.drop k))) (fun i => s.size - (intOf i).toNat)
      case atStart => exact ⟨0, rfl, by omega, by show _ = _; simp⟩
      case round =>
        obtain ⟨k, rfl, hk, HC⟩ := hrel
        by_cases hlt : k < s.size
        · have C := Lib.hid (fun w => isNamePart_any (s[k].toNat : Int) w)
          have Y := Lib.hid (@nm_yes s k hlt)
          have N := Lib.hid (@nm_no s k hlt)
          have hki : (k : Int) < (s.size : Int) := by omega
          cases hn : npB (s[k].toNat : Int)
          · rw [hn] at C
            have e : G = false := NL.out (by have := HC.out; rw [N.out hn] at this; omega)
            subst e
            clear hn
            go_wp2_with fail
            refine (C.out _).mono ?_; rintro e w' ⟨rfl, rfl⟩
            go_wp2_with fail
            go_ret
            exact ⟨rfl, rfl⟩
          · rw [hn] at C
            have E := Lib.hid (show nmL s.data.toList = (k + 1) + nmL (s.data.toList.drop (k + 1)) by have := HC.out; rw [Y.out hn] at this; omega)
            clear hn
            go_wp2_with fail
            refine (C.out _).mono ?_; rintro e w' ⟨rfl, rfl⟩
            go_wp2_with fail
            go_round
            case rel => exact ⟨k + 1, by go_num, by omega, E.out⟩
            case measure => simp [intOf]; omega
        · have hki : ¬ (k : Int) < (s.size : Int) := by omega
          have e : G = !wo := NF2.out (by have := HC.out; rw [nm_end (by omega)] at this; omega)
          subst e
          go_wp2_with fail
          refine (W.out _).mono ?_; rintro e w' ⟨rfl, rfl⟩
          go_wp2_with fail
          go_ret
          exact ⟨rfl, rfl⟩
    · rw [hd] at D
      have E : Hid (nameB s.data.toList = false) := ND.out hd
      generalize nameB s.data.toList = G at *
      have e := E.out
      subst e
      clear hd
      go_enter Try.func12, Try.ntmps12
      go_wp2_with fail
      refine (D.out _).mono ?_; rintro e w' ⟨rfl, rfl⟩
      go_wp2_with fail
      go_ret
      exact ⟨rfl, rfl⟩
end Go.Proofs.Ytcpjggcpimghjaa
