/- The document's reading of names and numbers. -/
import Derived.Test.YtcpjggcpimghjaaWhole
import Derived.Test.YtcpjggcpimghjaaBBase
namespace Go.Proofs.Ytcpjggcpimghjaa
open Go.RowKit
set_option linter.unusedVariables false

theorem np_parts (c : Int) : npB c = (letB c || digB c) := by
  unfold npB letB digB; rw [Bool.eq_iff_iff]; simp; omega
theorem hex_np {c : Int} (h : ¬ hexI c = 16) : npB c = true := by
  unfold hexI at h; unfold npB
  simp only [decide_eq_true_eq]
  split at h
  · omega
  · split at h
    · omega
    · split at h
      · omega
      · exact absurd rfl h
theorem nm_drop : ∀ (R : List UInt8) (n : Nat), n ≤ nmL R → nmL R = n + nmL (R.drop n)
  | R, 0, _ => by simp
  | [], n + 1, h => by simp [nmL] at h
  | c :: r, n + 1, h => by
    rw [nmL] at h ⊢
    split at h
    · rename_i hc
      rw [if_pos hc, nm_drop r n (by omega)]
      simp; omega
    · omega
/-- Of the name's part P of s: what follows its place n. -/
theorem part_cons {s : ByteArray} {m n : Nat} (hl : n < s.size) (hm : m ≤ s.size) (h : n < m) : (s.data.toList.take m).drop n = s[n] :: (s.data.toList.take m).drop (n + 1) := by
  have hl2 : n < (s.data.toList.take m).length := by rw [List.length_take, list_size']; omega
  rw [List.drop_eq_getElem_cons hl2, List.getElem_take]; rfl
theorem part_done {s : ByteArray} {m n : Nat} (h : m ≤ n) : (s.data.toList.take m).drop n = [] := List.drop_eq_nil_of_le (by rw [List.length_take]; omega)
theorem pdigs_bad {base : Int} {s : ByteArray} {m n : Nat} (hl : n < s.size) (hm : m ≤ s.size) (h : n < m) {x : Int} (hb : base ≤ hexI (s[n].toNat : Int)) : digs base ((s.data.toList.take m).drop n) x = none := by
  rw [part_cons hl hm h, digs]; unfold ci; rw [if_pos hb]
theorem pdigs_big {base : Int} {s : ByteArray} {m n : Nat} (hl : n < s.size) (hm : m ≤ s.size) (h : n < m) {x : Int} (hb : ¬ base ≤ hexI (s[n].toNat : Int)) (hn : 9007199254740992 < x * base + hexI (s[n].toNat : Int)) : digs base ((s.data.toList.take m).drop n) x = none := by
  rw [part_cons hl hm h, digs]; unfold ci; rw [if_neg hb, if_pos hn]
theorem pdigs_more {base : Int} {s : ByteArray} {m n : Nat} (hl : n < s.size) (hm : m ≤ s.size) (h : n < m) {x : Int} (hb : ¬ base ≤ hexI (s[n].toNat : Int)) (hn : ¬ 9007199254740992 < x * base + hexI (s[n].toNat : Int)) : digs base ((s.data.toList.take m).drop n) x = digs base ((s.data.toList.take m).drop (n + 1)) (x * base + hexI (s[n].toNat : Int)) := by
  rw [part_cons hl hm h, digs]; unfold ci; rw [if_neg hb, if_neg hn]

set_option maxRecDepth 100000 in
set_option maxHeartbeats 2000000 in
theorem rname_any (s : ByteArray) (hs : s.size ≤ 1000000) (w : World) :
    Calls Try.prog 26 #[.string s] w fun e w' => e = .returned (.int .i64 (nameN s.data.toList : Nat)) ∧ w = w' := by
  obtain ⟨z, hz⟩ : ∃ z, z = nameN s.data.toList := ⟨_, rfl⟩
  rw [← hz]
  have HZ := Lib.hid hz
  have hzl : z ≤ s.size := by
    rw [hz]; unfold nameN; split
    · omega
    · split
      · have := nmL_le s.data.toList; rw [list_size'] at this; simp_all
      · omega
  clear hz
  go_enter Try.func26, Try.ntmps26
  go_wp2_with fail
  go_loop [3] (fun nn => ∃ n : Nat, nn = .int .i64 (n : Int) ∧ n ≤ s.size ∧ Hid (z = if n = 0 then nameN s.data.toList else n + nmL (s.data.toList.drop n))) (fun nn => s.size - (intOf nn).toNat)
  case atStart => exact ⟨0, rfl, by omega, by show _ = _; rw [if_pos rfl]; exact HZ.out⟩
  case round =>
    obtain ⟨n, rfl, hn, HC⟩ := hrel
    by_cases hlt : n < s.size
    · have L := Lib.hid (fun w => rLetter_any (s[n].toNat : Int) w)
      have D := Lib.hid (fun w => rDigit_any (s[n].toNat : Int) w)
      have NY := Lib.hid (@nm_yes s n hlt)
      have NN := Lib.hid (@nm_no s n hlt)
      have NP := Lib.hid (np_parts (s[n].toNat : Int))
      have N0 : Hid (n = 0 → nameN s.data.toList = if letB (s[n].toNat : Int) then nmL (s.data.toList.drop n) else 0) := by
        intro h; subst h
        have := drop_cons s 0 hlt
        rw [List.drop_zero] at this
        show (match s.data.toList with | [] => 0 | c :: _ => if letB (ci c) then nmL s.data.toList else 0) = _
        rw [List.drop_zero, this]; rfl
      cases hl : letB (s[n].toNat : Int)
      · rw [hl] at L NP N0
        by_cases h0 : n = 0
        · have E := Lib.hid (HC.out.trans (by rw [if_pos h0, N0.out h0, if_neg (by decide)]))
          have hn0 : (n : Int) = 0 := by omega
          have hd0 : decide (0 < n) = false := by rw [decide_eq_false_iff_not]; omega
          clear hl
          obtain rfl : z = 0 := E.out
          subst h0
          go_wp2_with (go_at_call 41; refine (L.out _).mono ?_; rintro e w' ⟨rfl, rfl⟩)
          go_ret
          exact ⟨rfl, rfl⟩
        · have hn1 : 0 < n := by omega
          cases hd : digB (s[n].toNat : Int)
          · rw [hd] at D NP
            have E := Lib.hid (HC.out.trans (by rw [if_neg h0, NN.out NP.out]))
            clear hl hd h0
            go_wp2_with (first | (go_at_call 41; refine (L.out _).mono ?_; rintro e w' ⟨rfl, rfl⟩) | (go_at_call 28; refine (D.out _).mono ?_; rintro e w' ⟨rfl, rfl⟩))
            go_ret
            exact ⟨ret_int (by rw [E.out]; rfl), rfl⟩
          · rw [hd] at D NP
            have E := Lib.hid (HC.out.trans (by rw [if_neg h0, NY.out NP.out]))
            clear hl hd h0
            go_wp2_with (first | (go_at_call 41; refine (L.out _).mono ?_; rintro e w' ⟨rfl, rfl⟩) | (go_at_call 28; refine (D.out _).mono ?_; rintro e w' ⟨rfl, rfl⟩))
            go_round
            case rel => exact ⟨n + 1, by go_num, by omega, by show _ = _; rw [if_neg (by omega), E.out]; omega⟩
            case measure => simp [intOf]; omega
      · rw [hl] at L NP N0
        have E : Hid (z = if n + 1 = 0 then nameN s.data.toList else n + 1 + nmL (s.data.toList.drop (n + 1))) := by
          show _ = _
          rw [if_neg (by omega), HC.out]
          have hy := NY.out (NP.out.trans rfl)
          by_cases h0 : n = 0
          · rw [if_pos h0, N0.out h0, if_pos rfl, hy]; omega
          · rw [if_neg h0, hy]; omega
        clear hl
        go_wp2_with (go_at_call 41; refine (L.out _).mono ?_; rintro e w' ⟨rfl, rfl⟩)
        go_round
        case rel => exact ⟨n + 1, by go_num, by omega, E.out⟩
        case measure => simp [intOf]; omega
    · have E : Hid (z = n) := by
        show _ = _
        rw [HC.out]
        split
        · rename_i h0
          have hz : s.data.toList = [] := List.eq_nil_of_length_eq_zero (by rw [list_size']; omega)
          rw [hz, h0]; rfl
        · rw [nm_end (by omega)]; rfl
      have hd : decide (n < s.size) = false := by rw [decide_eq_false_iff_not]; exact hlt
      go_wp2_with fail
      go_ret
      exact ⟨ret_int (by rw [E.out]), rfl⟩
end Go.Proofs.Ytcpjggcpimghjaa
