/- A number read, by the document's answer: the whole. -/
import Derived.Test.YtmepgpiihhilaaaDoorRreads
namespace Go.Proofs.YtmepgpiihhilaaaDoor
open Go.RowKit
set_option linter.unusedVariables false

def blanks : List UInt8 := [32, 9, 13, 10]
theorem blank_iff (c : UInt8) : blankB (c.toNat : Int) = blanks.contains c := by
  have h : ∀ n : Fin 256, blankB ((n.val : Nat) : Int) = blanks.contains (UInt8.ofNat n.val) := by decide +kernel
  have h2 := h ⟨c.toNat, c.toNat_lt⟩
  rw [h2]
  congr 1
  exact UInt8.ofNat_toNat
theorem trim_end {q : List UInt8} {d : UInt8} (h : blanks.contains d = true) : Lib.trimS (q ++ [d]) blanks = Lib.trimS q blanks := by
  unfold Lib.trimS Lib.trimRightS
  rw [List.reverse_append]
  simp only [List.reverse_cons, List.reverse_nil, List.nil_append, List.cons_append]
  rw [List.dropWhile_cons_of_pos h]
theorem trim_head {c : UInt8} {r : List UInt8} (h : blanks.contains c = true) : Lib.trimS (c :: r) blanks = Lib.trimS r blanks := by
  have hr : Lib.trimRightS (c :: r) blanks = [] ∧ Lib.trimRightS r blanks = [] ∨ Lib.trimRightS (c :: r) blanks = c :: Lib.trimRightS r blanks := by
    unfold Lib.trimRightS
    rw [List.reverse_cons, List.dropWhile_append]
    split
    · rename_i he
      left
      rw [List.dropWhile_cons_of_pos h, List.isEmpty_iff.1 he]
      exact ⟨rfl, rfl⟩
    · right
      rw [List.reverse_append]; rfl
  unfold Lib.trimS
  rcases hr with ⟨h1, h2⟩ | h1
  · rw [h1, h2]
  · rw [h1]
    unfold Lib.trimLeftS
    rw [List.dropWhile_cons_of_pos h]
theorem list_of_last {t : ByteArray} (h : 0 < t.size) : t.data.toList = (t.extract 0 (t.size - 1)).data.toList ++ [t[t.size - 1]] := by
  have hl : t.size - 1 < t.data.toList.length := by rw [← Lib.size_eq]; omega
  rw [Lib.extract_data]
  have h1 := drop_cons' hl
  have h2 := List.take_append_drop (t.size - 1) t.data.toList
  have h3 : t.data.toList.drop (t.size - 1 + 1) = [] := List.drop_eq_nil_of_le (by rw [← Lib.size_eq]; omega)
  rw [h3] at h1
  rw [h1] at h2
  rw [List.drop_zero]
  exact h2.symm


theorem ext1 (t : ByteArray) : (t.extract 1 t.size).data.toList = t.data.toList.drop 1 := by
  rw [Lib.extract_data, List.take_of_length_le (by rw [List.length_drop, ← Lib.size_eq]; omega)]
theorem byte_eq (t : UInt8) (n : Nat) (hn : n < 256) : t = UInt8.ofNat n ↔ (t.toNat : Int) = n := by
  rw [← UInt8.toNat_inj, UInt8.toNat_ofNat']
  omega
theorem byte_126 {t : UInt8} (h : (t.toNat : Int) = 126) : t = 126 := (byte_eq t 126 (by decide)).2 h
theorem no_prefix {l r : List UInt8} {c a b : UInt8} (h : l = c :: r) (hc : c ≠ a) : ¬ Lib.hasPrefix l [a, b] = true := by
  intro h2; rw [h] at h2; exact hc (prefix_head h2).1
theorem parse_tilde {t : ByteArray} (hp : 0 < t.size) (h : (t[0].toNat : Int) = 126) : parseT t.data.toList = parseBitsI (t.data.toList.drop 1) := by
  have hl := list_of_size hp
  rw [ext1] at hl
  generalize t.data.toList.drop 1 = r at *
  rw [hl, parseT_cons, if_pos (byte_126 h)]
theorem parse_0x {t : ByteArray} (h2 : 2 < t.size) (h : (t[0].toNat : Int) = 48) (k : (t[1].toNat : Int) = 120 ∨ (t[1].toNat : Int) = 88) : parseT t.data.toList = digitsI 16 (t.extract 2 t.size).data.toList := by
  have hl := list_of_size (t := t) (by omega)
  have h48 : t[0] = 48 := (byte_eq t[0] 48 (by decide)).2 h
  have hd : t.data.toList.drop 1 = t[1] :: t.data.toList.drop 2 := drop_cons' (by rw [← Lib.size_eq]; omega)
  rw [ext1, hd, h48] at hl
  rw [extract2_list, hl, parseT_cons, if_neg (by decide), if_pos ?_]
  rcases k with k | k
  · have : t[1] = 120 := (byte_eq t[1] 120 (by decide)).2 k
    left; rw [this]; unfold Lib.hasPrefix; exact List.isPrefixOf_iff_prefix.2 ⟨_, rfl⟩
  · have : t[1] = 88 := (byte_eq t[1] 88 (by decide)).2 k
    right; rw [this]; unfold Lib.hasPrefix; exact List.isPrefixOf_iff_prefix.2 ⟨_, rfl⟩
theorem parse_minus {t : ByteArray} (hp : 0 < t.size) (h : (t[0].toNat : Int) = 45) : parseT t.data.toList = negI (plainI (t.extract 1 t.size).data.toList) := by
  have h2 : t[0] = 45 := (byte_eq t[0] 45 (by decide)).2 h
  rw [list_of_size hp, h2, parseT_cons, if_neg (by decide), if_neg (by
    intro h3; rcases h3 with h3 | h3
    · exact no_prefix rfl (by decide) h3
    · exact no_prefix rfl (by decide) h3), if_pos rfl]
theorem parse_plus' {t : ByteArray} (hp : 0 < t.size) (h : (t[0].toNat : Int) = 43) : parseT t.data.toList = plainI (t.extract 1 t.size).data.toList := by
  have h2 : t[0] = 43 := (byte_eq t[0] 43 (by decide)).2 h
  rw [list_of_size hp, h2, parseT_cons, if_neg (by decide), if_neg (by
    intro h3; rcases h3 with h3 | h3
    · exact no_prefix rfl (by decide) h3
    · exact no_prefix rfl (by decide) h3), if_neg (by decide), if_pos rfl]
theorem bare_0x : plainI [48, 120] = noneB ∧ plainI [48, 88] = noneB := by
  have h1 : digB ((120 : UInt8).toNat : Int) = 16 := by decide
  have h2 : digB ((88 : UInt8).toNat : Int) = 16 := by decide
  constructor
  · unfold plainI; rw [if_neg (by decide)]; unfold digitsI; rw [if_neg (by decide), sumF]
    split
    · rename_i x h
      exfalso
      split at h
      · rw [sumF, if_neg (by rw [h1]; decide)] at h; cases h
      · cases h
    · rfl
  · unfold plainI; rw [if_neg (by decide)]; unfold digitsI; rw [if_neg (by decide), sumF]
    split
    · rename_i x h
      exfalso
      split at h
      · rw [sumF, if_neg (by rw [h2]; decide)] at h; cases h
      · cases h
    · rfl
theorem digits_nil (b : Int) : digitsI b [] = noneB := by unfold digitsI; rw [if_pos rfl]
theorem parse_bare {t : ByteArray} (hp : 0 < t.size) (n1 : (t[0].toNat : Int) ≠ 126) (n2 : (t[0].toNat : Int) ≠ 45) (n3 : (t[0].toNat : Int) ≠ 43)
    (hno : ∀ h : 2 < t.size, (t[0].toNat : Int) = 48 → (t[1].toNat : Int) ≠ 120 ∧ (t[1].toNat : Int) ≠ 88) : parseT t.data.toList = plainI t.data.toList := by
  have hl := list_of_size (t := t) (by omega)
  rw [ext1] at hl
  have e1 : t[0] ≠ 126 := fun h => n1 ((byte_eq t[0] 126 (by decide)).1 h)
  have e2 : t[0] ≠ 45 := fun h => n2 ((byte_eq t[0] 45 (by decide)).1 h)
  have e3 : t[0] ≠ 43 := fun h => n3 ((byte_eq t[0] 43 (by decide)).1 h)
  have hlen : t.data.toList.length = t.size := (Lib.size_eq t).symm
  have key : ∀ b : UInt8, (b = 120 ∨ b = 88) → Lib.hasPrefix (t[0] :: t.data.toList.drop 1) [48, b] = true → t.data.toList = [48, b] := by
    intro b hb h
    obtain ⟨h0, q, hq⟩ := prefix_head h
    by_cases h2 : 2 < t.size
    · exfalso
      have hd : t.data.toList.drop 1 = t[1] :: t.data.toList.drop 2 := drop_cons' (by rw [← Lib.size_eq]; omega)
      rw [hd] at hq
      have h1 := (List.cons.inj hq).1
      have := hno h2 ((byte_eq t[0] 48 (by decide)).1 h0)
      rcases hb with hb | hb
      · exact this.1 ((byte_eq t[1] 120 (by decide)).1 (h1.trans hb))
      · exact this.2 ((byte_eq t[1] 88 (by decide)).1 (h1.trans hb))
    · rw [hl, h0, hq]
      have hz : q.length = 0 := by
        rw [hl, hq] at hlen
        simp only [List.length_cons] at hlen
        omega
      rw [List.eq_nil_of_length_eq_zero hz]
  rw [hl, parseT_cons, if_neg e1]
  by_cases hp : Lib.hasPrefix (t[0] :: t.data.toList.drop 1) [48, 120] = true ∨ Lib.hasPrefix (t[0] :: t.data.toList.drop 1) [48, 88] = true
  · rw [if_pos hp, ← hl]
    rcases hp with hp | hp
    · rw [key 120 (.inl rfl) hp, bare_0x.1]; exact digits_nil 16
    · rw [key 88 (.inr rfl) hp, bare_0x.2]; exact digits_nil 16
  · rw [if_neg hp, if_neg e2, if_neg e3]
theorem hex_fine (c : Int) : (capB c = false ∧ digB c < 16 ∧ rdigB c = digB c ∧ ¬ (65 ≤ c ∧ c ≤ 70)) ∨ ((capB c = true ∨ digB c = 16) ∧ (rdigB c = 99 ∨ (65 ≤ c ∧ c ≤ 70 ∧ rdigB c = digB c))) := by
  unfold capB digB rdigB
  by_cases h1 : 48 ≤ c ∧ c ≤ 57
  · left; rw [if_pos h1, if_pos h1]; refine ⟨?_, by omega, rfl, by omega⟩
    rw [Bool.and_eq_false_iff]; left; exact decide_eq_false (by omega)
  · by_cases h2 : 97 ≤ c ∧ c ≤ 102
    · left; rw [if_neg h1, if_neg h1, if_pos h2, if_pos h2]; refine ⟨?_, by omega, rfl, by omega⟩
      rw [Bool.and_eq_false_iff]; right; exact decide_eq_false (by omega)
    · by_cases h3 : 65 ≤ c ∧ c ≤ 70
      · right; rw [if_neg h1, if_neg h1, if_neg h2, if_neg h2, if_pos h3, if_pos h3]
        refine ⟨.inl ?_, .inr ⟨h3.1, h3.2, rfl⟩⟩
        rw [Bool.and_eq_true]; exact ⟨decide_eq_true (by omega), decide_eq_true (by omega)⟩
      · right; rw [if_neg h1, if_neg h1, if_neg h2, if_neg h2, if_neg h3, if_neg h3]
        exact ⟨.inr rfl, .inl rfl⟩
theorem trim_done {t : ByteArray} (hp : 0 < t.size) (h1 : ∀ c r, t.data.toList = c :: r → blanks.contains c = false) (h2 : blanks.contains t[t.size - 1] = false) : Lib.trimS t.data.toList blanks = t.data.toList :=
  trim_none (list_of_size hp) (list_of_last hp) (h1 _ _ (list_of_size hp)) h2

set_option maxRecDepth 100000 in
set_option maxHeartbeats 8000000 in
theorem rparse_any (s : ByteArray) (hs : s.size ≤ 9223372036854775807) (w : World) :
    Calls Tryd.prog 45 #[.string s] w fun e w' => e = .returned (.int .u64 (parseI s.data.toList)) ∧ Below w.heap.size w w' := by
  have HP : Hid (parseI s.data.toList = parseT (Lib.trimS s.data.toList blanks)) := rfl
  generalize parseI s.data.toList = z at *
  go_enter Tryd.func45, Tryd.ntmps45
  go_wp2
  go_loop [0] (fun v => ∃ t : ByteArray, v = .string t ∧ t.size ≤ s.size ∧ Hid (Lib.trimS s.data.toList blanks = Lib.trimS t.data.toList blanks)) (fun v => match v with | .string t => t.size | _ => 0)
  case atStart => exact ⟨s, rfl, Nat.le_refl _, rfl⟩
  case round =>
    obtain ⟨t, rfl, hts, HS⟩ := hrel
    by_cases hpos : 0 < t.size
    · have hc0 : (0 : Int) ≤ (t[0].toNat : Int) := Int.natCast_nonneg _
      have hc1 : (t[0].toNat : Int) < 256 := by have := t[0].toNat_lt; omega
      have C := Lib.hid (fun w => rblank_any (t[0].toNat : Int) hc0 hc1 w)
      have HL := Lib.hid (list_of_size hpos)
      have HBI := Lib.hid (blank_iff t[0])
      have e1 := extract_size_le t 1
      have hf : (0 : Int) < (t.size : Int) := by omega
      generalize blankB (t[0].toNat : Int) = bl at *
      cases bl
      · go_wp2_with (go_at_call 71; refine (C.out _).mono ?_; rintro e w' ⟨rfl, rfl⟩)
        have HH : Hid (∀ c r, t.data.toList = c :: r → blanks.contains c = false) := by
          intro c r hcr
          rw [HL.out] at hcr
          rw [← (List.cons.inj hcr).1]; exact HBI.out.symm
        go_loop [0] (fun v => ∃ q : ByteArray, v = .string q ∧ q.size ≤ s.size ∧ Hid (Lib.trimS s.data.toList blanks = Lib.trimS q.data.toList blanks ∧ ∀ c r, q.data.toList = c :: r → blanks.contains c = false)) (fun v => match v with | .string t => t.size | _ => 0)
        case atStart => exact ⟨t, rfl, hts, HS.out, HH.out⟩
        case round =>
          clear HS HH hts HL HBI C hf e1 hc1 hc0
          obtain ⟨t, rfl, hts, HS⟩ := hrel
          by_cases hpos : 0 < t.size
          · have hlast : t.size - 1 < t.size := by omega
            have hc0 : (0 : Int) ≤ (t[t.size - 1].toNat : Int) := Int.natCast_nonneg _
            have hc1 : (t[t.size - 1].toNat : Int) < 256 := by have := t[t.size - 1].toNat_lt; omega
            have C := Lib.hid (fun w => rblank_any (t[t.size - 1].toNat : Int) hc0 hc1 w)
            have HL := Lib.hid (list_of_last hpos)
            have HBI := Lib.hid (blank_iff t[t.size - 1])
            have hf : (0 : Int) < (t.size : Int) := by omega
            generalize blankB (t[t.size - 1].toNat : Int) = bl at *
            cases bl
            · have hb : blanks.contains t[t.size - 1] = false := HBI.out.symm
              have HT : Hid (z = parseT t.data.toList) := by show _ = _; rw [HP.out, HS.out.1, trim_done hpos HS.out.2 hb]
              have h1 : t.toList.isEmpty = false := by rw [Lib.toList_data, list_of_size hpos]; rfl
              have ht64 : t.size ≤ 9223372036854775807 := by omega
              clear HS HL HBI hb HP
              have hc0 : (0 : Int) ≤ (t[0].toNat : Int) := Int.natCast_nonneg _
              have hc1 : (t[0].toNat : Int) < 256 := by have := t[0].toNat_lt; omega
              have e1 := extract_size_le t 1
              have e2 := extract_size_le t 2
              have U := Lib.hid (fun w => reads_any (t.extract 1 t.size) (by omega) 10 (.inl rfl) w)
              have V := Lib.hid (fun w => reads_any t ht64 10 (.inl rfl) w)
              have D := Lib.hid (fun w => reads_any (t.extract 2 t.size) (by omega) 16 (.inr rfl) w)
              by_cases h126 : (t[0].toNat : Int) = 126
              · have q : ((t[0].toNat : Int) == 126) = true := by rw [h126]; rfl
                have HR := Lib.hid (HT.out.trans (parse_tilde hpos h126))
                clear HT h126 U V D
                go_wp2_with (go_at_call 71; refine (C.out _).mono ?_; rintro e w' ⟨rfl, rfl⟩)
                by_cases h17 : t.size = 17
                · have HZ : Hid (z = match hexV (t.data.toList.drop 1) 0 with | some x => canon x | none => noneB) := by
                    show _ = _
                    rw [HR.out]; unfold parseBitsI
                    rw [if_neg (by rw [List.length_drop, ← Lib.size_eq, h17]; decide)]; rfl
                  have hne : ((t.size : Int) != 17) = false := by rw [h17]; rfl
                  have H17 := Lib.hid h17
                  clear HR h17
                  go_loop [3, 4] (fun v i => ∃ (x : Int) (k : Nat), v = .int .u64 x ∧ i = .int .i64 (k : Int) ∧ 1 ≤ k ∧ k ≤ 17 ∧ 0 ≤ x ∧ Hid (x.toNat < 16 ^ (k - 1) ∧ hexV (t.data.toList.drop 1) 0 = hexV (t.data.toList.drop k) x.toNat)) (fun _ i => 17 - (intOf i).toNat)
                  case atStart => exact ⟨0, 1, rfl, rfl, by omega, by omega, Int.le_refl _, by decide, rfl⟩
                  case round =>
                    obtain ⟨x, k, rfl, rfl, hk1, hk, hx0, HS⟩ := hrel
                    by_cases hlt : k < 17
                    · have hks : k < t.size := by rw [H17.out]; exact hlt
                      have hll : k < t.data.toList.length := by rw [← Lib.size_eq]; exact hks
                      have hkc0 : (0 : Int) ≤ (t[k].toNat : Int) := Int.natCast_nonneg _
                      have hkc1 : (t[k].toNat : Int) < 256 := by have := t[k].toNat_lt; omega
                      have R := Lib.hid (fun w => rdigit_any (t[k].toNat : Int) hkc0 hkc1 w)
                      have hdl := digB_lo (t[k].toNat : Int)
                      have hdh := digB_hi (t[k].toNat : Int)
                      have hdrop : t.data.toList.drop k = t[k] :: t.data.toList.drop (k + 1) := drop_cons' hll
                      have HN : Hid (hexV (t.data.toList.drop k) x.toNat = if capB (t[k].toNat : Int) = true ∨ digB (t[k].toNat : Int) = 16 then none else hexV (t.data.toList.drop (k + 1)) (x.toNat * 16 + (digB (t[k].toNat : Int)).toNat)) := by
                        show _ = _; rw [hdrop, hexV]
                      have hxb : x < 1152921504606846976 := by have := HS.out.1; have := pow16_le (show k - 1 ≤ 15 by omega); omega
                      have hf := hex_fine (t[k].toNat : Int)
                      generalize digB (t[k].toNat : Int) = d at *
                      generalize capB (t[k].toNat : Int) = cp at *
                      generalize rdigB (t[k].toNat : Int) = rd at *
                      clear hdrop
                      rcases hf with ⟨f1, f2, f3, f4⟩ | ⟨f1, f2⟩
                      · subst f3
                        have HM := Lib.hid (HN.out.trans (if_neg (by rw [f1]; simp; omega)))
                        clear HN f1
                        by_cases h65 : 65 ≤ (t[k].toNat : Int)
                        · have h70 : ¬ (t[k].toNat : Int) ≤ 70 := by omega
                          go_wp2_with (go_at_call 72; refine (R.out _).mono ?_; rintro e w' ⟨rfl, rfl⟩)
                          refine ⟨⟨x * 16 + rd, k + 1, rfl, by go_num, by omega, by omega, by omega, ?_, ?_⟩, by simp [intOf]; omega⟩
                          · have := pow16_step (x := x.toNat) (d := rd.toNat) HS.out.1 (by omega)
                            rw [show (x * 16 + rd).toNat = x.toNat * 16 + rd.toNat by omega, show k + 1 - 1 = k - 1 + 1 by omega]; exact this
                          · rw [HS.out.2, HM.out, show (x * 16 + rd).toNat = x.toNat * 16 + rd.toNat by omega]
                        · go_wp2_with (go_at_call 72; refine (R.out _).mono ?_; rintro e w' ⟨rfl, rfl⟩)
                          refine ⟨⟨x * 16 + rd, k + 1, rfl, by go_num, by omega, by omega, by omega, ?_, ?_⟩, by simp [intOf]; omega⟩
                          · have := pow16_step (x := x.toNat) (d := rd.toNat) HS.out.1 (by omega)
                            rw [show (x * 16 + rd).toNat = x.toNat * 16 + rd.toNat by omega, show k + 1 - 1 = k - 1 + 1 by omega]; exact this
                          · rw [HS.out.2, HM.out, show (x * 16 + rd).toNat = x.toNat * 16 + rd.toNat by omega]
                      · have HM := Lib.hid (HN.out.trans (if_pos f1))
                        have HE : Hid (z = noneB) := by show _ = _; rw [HZ.out, HS.out.2, HM.out]
                        clear HN HM f1 HZ HS
                        rcases f2 with f2 | ⟨f2, f3, f4⟩
                        · subst f2
                          go_wp2_with (go_at_call 72; refine (R.out _).mono ?_; rintro e w' ⟨rfl, rfl⟩)
                          go_ret
                          exact ⟨ret_int HE.out.symm, Below.refl _ _⟩
                        · by_cases h15 : 15 < rd
                          · go_wp2_with (go_at_call 72; refine (R.out _).mono ?_; rintro e w' ⟨rfl, rfl⟩)
                            go_ret
                            exact ⟨ret_int HE.out.symm, Below.refl _ _⟩
                          · go_wp2_with (go_at_call 72; refine (R.out _).mono ?_; rintro e w' ⟨rfl, rfl⟩)
                            go_ret
                            exact ⟨ret_int HE.out.symm, Below.refl _ _⟩
                    · have HN : Hid (hexV (t.data.toList.drop k) x.toNat = some x.toNat) := by
                        show _ = _
                        rw [List.drop_eq_nil_of_le (by rw [← Lib.size_eq, H17.out]; omega), hexV]
                      have hxlt : x < 18446744073709551616 := by have := HS.out.1; have := pow16_all (show k - 1 ≤ 16 by omega); omega
                      have HE : Hid (z = canon x) := by show _ = _; rw [HZ.out, HS.out.2, HN.out]; show canon (x.toNat : Int) = _; rw [Int.toNat_of_nonneg hx0]
                      have hks : ¬ k < t.size := by rw [H17.out]; exact hlt
                      have HC : Hid (canon x = if nanB x = true then noneB else x) := rfl
                      have NX := Lib.hid (fun w => isNaN_any x hx0 hxlt w)
                      clear HZ HS HN
                      generalize nanB x = nb at *
                      cases nb
                      · go_wp2_with (go_at_call 51; refine (NX.out _).mono ?_; rintro e w' ⟨rfl, rfl⟩)
                        go_ret
                        exact ⟨ret_int (by rw [HE.out, HC.out]; rfl), Below.refl _ _⟩
                      · go_wp2_with (go_at_call 51; refine (NX.out _).mono ?_; rintro e w' ⟨rfl, rfl⟩)
                        go_ret
                        exact ⟨ret_int (by rw [HE.out, HC.out]; rfl), Below.refl _ _⟩
                · have HZ : Hid (z = noneB) := by
                    show _ = _
                    rw [HR.out]; unfold parseBitsI
                    rw [if_pos (by rw [List.length_drop, ← Lib.size_eq]; omega)]
                  have hne : ((t.size : Int) != 17) = true := by rw [bne_iff_ne]; omega
                  clear HR h17
                  go_loop [3, 4] (fun v i => ∃ (x : Int) (k : Nat), v = .int .u64 x ∧ i = .int .i64 (k : Int) ∧ 1 ≤ k ∧ k ≤ t.size) (fun _ i => t.size - (intOf i).toNat)
                  case atStart => exact ⟨0, 1, rfl, rfl, by omega, by omega⟩
                  case round =>
                    obtain ⟨x, k, rfl, rfl, hk1, hk⟩ := hrel
                    by_cases hlt : k < t.size
                    · have hkc0 : (0 : Int) ≤ (t[k].toNat : Int) := Int.natCast_nonneg _
                      have hkc1 : (t[k].toNat : Int) < 256 := by have := t[k].toNat_lt; omega
                      have R := Lib.hid (fun w => rdigit_any (t[k].toNat : Int) hkc0 hkc1 w)
                      generalize rdigB (t[k].toNat : Int) = rd at *
                      go_wp2_with (go_at_call 72; refine (R.out _).mono ?_; rintro e w' ⟨rfl, rfl⟩)
                      all_goals first
                        | (go_ret; exact ⟨ret_int HZ.out.symm, Below.refl _ _⟩)
                        | (refine ⟨⟨_, k + 1, rfl, by go_num, by omega, by omega⟩, by simp [intOf]; omega⟩)
                    · go_wp2
                      go_ret
                      exact ⟨ret_int HZ.out.symm, Below.refl _ _⟩
              · have q : ((t[0].toNat : Int) == 126) = false := by rw [beq_eq_false_iff_ne]; exact h126
                by_cases h45 : (t[0].toNat : Int) = 45
                · have q48 : ((t[0].toNat : Int) == 48) = false := by rw [beq_eq_false_iff_ne]; omega
                  have q43 : ((t[0].toNat : Int) == 43) = false := by rw [beq_eq_false_iff_ne]; omega
                  have q45 : ((t[0].toNat : Int) == 45) = true := by rw [h45]; rfl
                  have HR := Lib.hid (HT.out.trans (parse_minus hpos h45))
                  clear HT V D h126 h45
                  have HI : Hid (plainI (t.extract 1 t.size).data.toList = if (t.extract 1 t.size).data.toList = infL then 9218868437227405312 else digitsI 10 (t.extract 1 t.size).data.toList) := rfl
                  have bd := digitsI_bounds (.inl rfl) (t.extract 1 t.size).data.toList
                  have TL := Lib.hid (Lib.toList_data (t.extract 1 t.size))
                  generalize plainI (t.extract 1 t.size).data.toList = vP at *
                  generalize digitsI 10 (t.extract 1 t.size).data.toList = vU at *
                  cases hI : (!(t.extract 1 t.size).toList == [73, 110, 102, 105, 110, 105, 116, 121])
                  · have HV := Lib.hid (HI.out.trans (if_pos (by rw [TL.out] at hI; simpa [infL] using hI)))
                    clear HI TL
                    go_wp2_with (first | (go_at_call 71; refine (C.out _).mono ?_; rintro e w' ⟨rfl, rfl⟩) | (go_at_call 73; refine (U.out _).mono ?_; rintro e w1 ⟨rfl, hB⟩) | (go_at_call 24; refine (rneg_any _ (by omega) (by omega) _).mono ?_; rintro e w2 ⟨rfl, rfl⟩))
                    all_goals
                      go_ret
                      exact ⟨ret_int (by rw [HR.out, HV.out]), Below.refl _ _⟩
                  · have HV := Lib.hid (HI.out.trans (if_neg (by rw [TL.out] at hI; simpa [infL] using hI)))
                    clear HI TL
                    go_wp2_with (first | (go_at_call 71; refine (C.out _).mono ?_; rintro e w' ⟨rfl, rfl⟩) | (go_at_call 73; refine (U.out _).mono ?_; rintro e w1 ⟨rfl, hB⟩) | (go_at_call 24; refine (rneg_any _ (by omega) (by omega) _).mono ?_; rintro e w2 ⟨rfl, rfl⟩))
                    all_goals
                      go_ret
                      exact ⟨ret_int (by rw [HR.out, HV.out]), hB⟩
                · by_cases h43 : (t[0].toNat : Int) = 43
                  · have q48 : ((t[0].toNat : Int) == 48) = false := by rw [beq_eq_false_iff_ne]; omega
                    have q43 : ((t[0].toNat : Int) == 43) = true := by rw [h43]; rfl
                    have q45 : ((t[0].toNat : Int) == 45) = false := by rw [beq_eq_false_iff_ne]; omega
                    have HR := Lib.hid (HT.out.trans (parse_plus' hpos h43))
                    clear HT V D h126 h43 h45
                    have HI : Hid (plainI (t.extract 1 t.size).data.toList = if (t.extract 1 t.size).data.toList = infL then 9218868437227405312 else digitsI 10 (t.extract 1 t.size).data.toList) := rfl
                    have bd := digitsI_bounds (.inl rfl) (t.extract 1 t.size).data.toList
                    have TL := Lib.hid (Lib.toList_data (t.extract 1 t.size))
                    generalize plainI (t.extract 1 t.size).data.toList = vP at *
                    generalize digitsI 10 (t.extract 1 t.size).data.toList = vU at *
                    cases hI : (!(t.extract 1 t.size).toList == [73, 110, 102, 105, 110, 105, 116, 121])
                    · have HV := Lib.hid (HI.out.trans (if_pos (by rw [TL.out] at hI; simpa [infL] using hI)))
                      clear HI TL
                      go_wp2_with (first | (go_at_call 71; refine (C.out _).mono ?_; rintro e w' ⟨rfl, rfl⟩) | (go_at_call 73; refine (U.out _).mono ?_; rintro e w1 ⟨rfl, hB⟩))
                      all_goals
                        go_ret
                        exact ⟨ret_int (by rw [HR.out, HV.out]), Below.refl _ _⟩
                    · have HV := Lib.hid (HI.out.trans (if_neg (by rw [TL.out] at hI; simpa [infL] using hI)))
                      clear HI TL
                      go_wp2_with (first | (go_at_call 71; refine (C.out _).mono ?_; rintro e w' ⟨rfl, rfl⟩) | (go_at_call 73; refine (U.out _).mono ?_; rintro e w1 ⟨rfl, hB⟩))
                      all_goals
                        go_ret
                        exact ⟨ret_int (by rw [HR.out, HV.out]), hB⟩
                  · have q43 : ((t[0].toNat : Int) == 43) = false := by rw [beq_eq_false_iff_ne]; omega
                    have q45 : ((t[0].toNat : Int) == 45) = false := by rw [beq_eq_false_iff_ne]; omega
                    by_cases h2 : 2 < t.size
                    · have hf2 : (2 : Int) < (t.size : Int) := by omega
                      by_cases h48 : (t[0].toNat : Int) = 48
                      · have q48 : ((t[0].toNat : Int) == 48) = true := by rw [h48]; rfl
                        by_cases h120 : (t[1].toNat : Int) = 120
                        · have q120 : ((t[1].toNat : Int) == 120) = true := by rw [h120]; rfl
                          have HR := Lib.hid (HT.out.trans (parse_0x h2 h48 (.inl h120)))
                          clear HT U V h126 h43 h45 h48 h120
                          generalize digitsI 16 (t.extract 2 t.size).data.toList = vD at *
                          go_wp2_with (first | (go_at_call 71; refine (C.out _).mono ?_; rintro e w' ⟨rfl, rfl⟩) | (go_at_call 73; refine (D.out _).mono ?_; rintro e w1 ⟨rfl, hB⟩))
                          go_ret
                          exact ⟨ret_int HR.out.symm, hB⟩
                        · have q120 : ((t[1].toNat : Int) == 120) = false := by rw [beq_eq_false_iff_ne]; omega
                          by_cases h88 : (t[1].toNat : Int) = 88
                          · have q88 : ((t[1].toNat : Int) == 88) = true := by rw [h88]; rfl
                            have HR := Lib.hid (HT.out.trans (parse_0x h2 h48 (.inr h88)))
                            clear HT U V h126 h43 h45 h48 h88
                            generalize digitsI 16 (t.extract 2 t.size).data.toList = vD at *
                            go_wp2_with (first | (go_at_call 71; refine (C.out _).mono ?_; rintro e w' ⟨rfl, rfl⟩) | (go_at_call 73; refine (D.out _).mono ?_; rintro e w1 ⟨rfl, hB⟩))
                            go_ret
                            exact ⟨ret_int HR.out.symm, hB⟩
                          · have q88 : ((t[1].toNat : Int) == 88) = false := by rw [beq_eq_false_iff_ne]; omega
                            have HR := Lib.hid (HT.out.trans (parse_bare hpos h126 h45 h43 (fun _ _ => ⟨h120, h88⟩)))
                            clear HT U D h126 h43 h45 h48 h88 h120
                            have HI : Hid (plainI t.data.toList = if t.data.toList = infL then 9218868437227405312 else digitsI 10 t.data.toList) := rfl
                            have bd := digitsI_bounds (.inl rfl) t.data.toList
                            have TL := Lib.hid (Lib.toList_data t)
                            generalize plainI t.data.toList = vP at *
                            generalize digitsI 10 t.data.toList = vU at *
                            cases hI : (!t.toList == [73, 110, 102, 105, 110, 105, 116, 121])
                            · have HV := Lib.hid (HI.out.trans (if_pos (by rw [TL.out] at hI; simpa [infL] using hI)))
                              clear HI TL
                              go_wp2_with (first | (go_at_call 71; refine (C.out _).mono ?_; rintro e w' ⟨rfl, rfl⟩) | (go_at_call 73; refine (V.out _).mono ?_; rintro e w1 ⟨rfl, hB⟩))
                              all_goals
                                go_ret
                                exact ⟨ret_int (by rw [HR.out, HV.out]), Below.refl _ _⟩
                            · have HV := Lib.hid (HI.out.trans (if_neg (by rw [TL.out] at hI; simpa [infL] using hI)))
                              clear HI TL
                              go_wp2_with (first | (go_at_call 71; refine (C.out _).mono ?_; rintro e w' ⟨rfl, rfl⟩) | (go_at_call 73; refine (V.out _).mono ?_; rintro e w1 ⟨rfl, hB⟩))
                              all_goals
                                go_ret
                                exact ⟨ret_int (by rw [HR.out, HV.out]), hB⟩
                      · have q48 : ((t[0].toNat : Int) == 48) = false := by rw [beq_eq_false_iff_ne]; omega
                        have HR := Lib.hid (HT.out.trans (parse_bare hpos h126 h45 h43 (fun _ h => absurd h h48)))
                        clear HT U D h126 h43 h45 h48
                        have HI : Hid (plainI t.data.toList = if t.data.toList = infL then 9218868437227405312 else digitsI 10 t.data.toList) := rfl
                        have bd := digitsI_bounds (.inl rfl) t.data.toList
                        have TL := Lib.hid (Lib.toList_data t)
                        generalize plainI t.data.toList = vP at *
                        generalize digitsI 10 t.data.toList = vU at *
                        cases hI : (!t.toList == [73, 110, 102, 105, 110, 105, 116, 121])
                        · have HV := Lib.hid (HI.out.trans (if_pos (by rw [TL.out] at hI; simpa [infL] using hI)))
                          clear HI TL
                          go_wp2_with (first | (go_at_call 71; refine (C.out _).mono ?_; rintro e w' ⟨rfl, rfl⟩) | (go_at_call 73; refine (V.out _).mono ?_; rintro e w1 ⟨rfl, hB⟩))
                          all_goals
                            go_ret
                            exact ⟨ret_int (by rw [HR.out, HV.out]), Below.refl _ _⟩
                        · have HV := Lib.hid (HI.out.trans (if_neg (by rw [TL.out] at hI; simpa [infL] using hI)))
                          clear HI TL
                          go_wp2_with (first | (go_at_call 71; refine (C.out _).mono ?_; rintro e w' ⟨rfl, rfl⟩) | (go_at_call 73; refine (V.out _).mono ?_; rintro e w1 ⟨rfl, hB⟩))
                          all_goals
                            go_ret
                            exact ⟨ret_int (by rw [HR.out, HV.out]), hB⟩
                    · have hf2 : ¬ (2 : Int) < (t.size : Int) := by omega
                      have HR := Lib.hid (HT.out.trans (parse_bare hpos h126 h45 h43 (fun h _ => absurd h h2)))
                      clear HT U D h126 h43 h45
                      have HI : Hid (plainI t.data.toList = if t.data.toList = infL then 9218868437227405312 else digitsI 10 t.data.toList) := rfl
                      have bd := digitsI_bounds (.inl rfl) t.data.toList
                      have TL := Lib.hid (Lib.toList_data t)
                      generalize plainI t.data.toList = vP at *
                      generalize digitsI 10 t.data.toList = vU at *
                      cases hI : (!t.toList == [73, 110, 102, 105, 110, 105, 116, 121])
                      · have HV := Lib.hid (HI.out.trans (if_pos (by rw [TL.out] at hI; simpa [infL] using hI)))
                        clear HI TL
                        go_wp2_with (first | (go_at_call 71; refine (C.out _).mono ?_; rintro e w' ⟨rfl, rfl⟩) | (go_at_call 73; refine (V.out _).mono ?_; rintro e w1 ⟨rfl, hB⟩))
                        all_goals
                          go_ret
                          exact ⟨ret_int (by rw [HR.out, HV.out]), Below.refl _ _⟩
                      · have HV := Lib.hid (HI.out.trans (if_neg (by rw [TL.out] at hI; simpa [infL] using hI)))
                        clear HI TL
                        go_wp2_with (first | (go_at_call 71; refine (C.out _).mono ?_; rintro e w' ⟨rfl, rfl⟩) | (go_at_call 73; refine (V.out _).mono ?_; rintro e w1 ⟨rfl, hB⟩))
                        all_goals
                          go_ret
                          exact ⟨ret_int (by rw [HR.out, HV.out]), hB⟩
            · go_wp2_with (go_at_call 71; refine (C.out _).mono ?_; rintro e w' ⟨rfl, rfl⟩)
              have hsz : (t.extract 0 (t.size - 1)).size + 1 = t.size := by
                have h2 := congrArg List.length HL.out
                rw [List.length_append, ← Lib.size_eq, ← Lib.size_eq] at h2
                exact h2.symm
              refine ⟨⟨_, rfl, by omega, ?_, ?_⟩, ?_⟩
              · rw [HS.out.1, HL.out, trim_end HBI.out.symm]
              · intro c r hcr
                exact HS.out.2 c (r ++ [t[t.size - 1]]) (by rw [HL.out, hcr]; rfl)
              · show (t.extract 0 (t.size - 1)).size < t.size
                omega
          · have hz : t.data.toList = [] := List.eq_nil_of_length_eq_zero (by rw [← Lib.size_eq]; omega)
            have HT : Hid (z = 0) := by show _ = _; rw [HP.out, HS.out.1, hz]; rfl
            have h1 : t.toList.isEmpty = true := by rw [Lib.toList_data, hz]; rfl
            clear HS HP hz
            go_wp2
            go_ret
            exact ⟨ret_int HT.out.symm, Below.refl _ _⟩
      · go_wp2_with (go_at_call 71; refine (C.out _).mono ?_; rintro e w' ⟨rfl, rfl⟩)
        have hsz : (t.extract 1 t.size).size + 1 = t.size := by
          have h2 := congrArg List.length HL.out
          rw [List.length_cons, ← Lib.size_eq, ← Lib.size_eq] at h2; omega
        refine ⟨⟨_, rfl, by omega, ?_⟩, ?_⟩
        · show _ = _
          rw [HS.out, HL.out, trim_head HBI.out.symm]
        · show (t.extract 1 t.size).size < t.size
          omega
    · have hz : t.data.toList = [] := List.eq_nil_of_length_eq_zero (by rw [← Lib.size_eq]; omega)
      have HT : Hid (z = 0) := by show _ = _; rw [HP.out, HS.out, hz]; rfl
      have h1 : t.toList.isEmpty = true := by rw [Lib.toList_data, hz]; rfl
      clear HS HP hz
      go_wp2
      go_loop [0] (fun v => v = .string t) (fun v => match v with | .string t => t.size | _ => 0)
      case atStart => rfl
      case round =>
        subst hrel
        go_wp2
        go_ret
        exact ⟨ret_int HT.out.symm, Below.refl _ _⟩
end Go.Proofs.YtmepgpiihhilaaaDoor
