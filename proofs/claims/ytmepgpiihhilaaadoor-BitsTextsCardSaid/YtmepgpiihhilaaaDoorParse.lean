/- A number read, by the program. -/
import Derived.Test.YtmepgpiihhilaaaDoorDigits
namespace Go.Proofs.YtmepgpiihhilaaaDoor
open Go.RowKit

def hexV : List UInt8 → Nat → Option Nat
  | [], acc => some acc
  | c :: l, acc => if capB c.toNat = true ∨ digB c.toNat = 16 then none else hexV l (acc * 16 + (digB c.toNat).toNat)
def parseBitsI (l : List UInt8) : Int := if l.length ≠ 16 then noneB else match hexV l 0 with | some x => canon x | none => noneB

theorem or_nibble {a d : Int} (ha0 : 0 ≤ a) (ha : a < 1152921504606846976) (hd0 : 0 ≤ d) (hd : d < 16) : bits .or .u64 (a * 16) d = a * 16 + d := by
  rw [u64_or _ d (by omega) (by omega) hd0 (by omega)]
  have e : (a * 16).toNat = 2 ^ 4 * a.toNat := by omega
  have h2 := Nat.two_pow_add_eq_or_of_lt (show d.toNat < 2 ^ 4 by omega) a.toNat
  rw [e, ← h2]; omega

theorem pow16_le {k : Nat} (h : k ≤ 15) : 16 ^ k ≤ 1152921504606846976 := by
  have := Nat.pow_le_pow_right (show 0 < 16 by decide) h
  have e : 16 ^ 15 = 1152921504606846976 := by decide
  omega
theorem pow16_all {k : Nat} (h : k ≤ 16) : 16 ^ k ≤ 18446744073709551616 := by
  have := Nat.pow_le_pow_right (show 0 < 16 by decide) h
  have e : 16 ^ 16 = 18446744073709551616 := by decide
  omega
theorem pow16_step {k x d : Nat} (hx : x < 16 ^ k) (hd : d < 16) : x * 16 + d < 16 ^ (k + 1) := by
  rw [Nat.pow_succ]; omega

set_option maxRecDepth 100000 in
set_option maxHeartbeats 1000000 in
theorem parseBits_any (s : ByteArray) (w : World) :
    Calls Tryd.prog 67 #[.string s] w fun e w' => e = .returned (.int .u64 (parseBitsI s.data.toList)) ∧ w = w' := by
  by_cases h16 : s.size = 16
  · have hl : s.data.toList.length = 16 := by rw [← Lib.size_eq]; exact h16
    have HR : Hid (parseBitsI s.data.toList = match hexV s.data.toList 0 with | some x => canon x | none => noneB) := by show _ = _; unfold parseBitsI; rw [if_neg (by simpa using h16)]
    have hb : ((s.size : Int) != 16) = false := by rw [h16]; rfl
    have H16 := Lib.hid h16
    have hfbf := fbf_run
    clear h16
    go_enter Tryd.func67, Tryd.ntmps67
    go_wp2
    go_loop [3, 8] (fun v i => ∃ (x : Int) (k : Nat), v = .int .u64 x ∧ i = .int .i64 (k : Int) ∧ k ≤ 16 ∧ 0 ≤ x ∧ Hid (x.toNat < 16 ^ k ∧ hexV s.data.toList 0 = hexV (s.data.toList.drop k) x.toNat)) (fun _ i => 16 - (intOf i).toNat)
    case atStart => exact ⟨0, 0, rfl, rfl, Nat.zero_le _, Int.le_refl _, by decide, by rw [List.drop_zero]; rfl⟩
    case round =>
      obtain ⟨x, k, rfl, rfl, hk, hx0, HS⟩ := hrel
      by_cases hlt : k < 16
      · have hks : k < s.size := by rw [H16.out]; exact hlt
        have hll : k < s.data.toList.length := by rw [← Lib.size_eq]; exact hks
        have hc0 : (0 : Int) ≤ (s[k].toNat : Int) := Int.natCast_nonneg _
        have hc1 : (s[k].toNat : Int) < 256 := by have := s[k].toNat_lt; omega
        have C := Lib.hid (fun w => digit_any (s[k].toNat : Int) hc0 hc1 w)
        have D := Lib.hid (fun w => isCapital_any (s[k].toNat : Int) hc0 hc1 w)
        have hdl := digB_lo (s[k].toNat : Int)
        have hdh := digB_hi (s[k].toNat : Int)
        have hdrop : s.data.toList.drop k = s[k] :: s.data.toList.drop (k + 1) := drop_cons' hll
        have HN : Hid (hexV (s.data.toList.drop k) x.toNat = if capB (s[k].toNat : Int) = true ∨ digB (s[k].toNat : Int) = 16 then none else hexV (s.data.toList.drop (k + 1)) (x.toNat * 16 + (digB (s[k].toNat : Int)).toNat)) := by
          show _ = _; rw [hdrop, hexV]
        have hxb : x < 1152921504606846976 := by have := HS.out.1; have := pow16_le (show k ≤ 15 by omega); omega
        have HO := fun (h : digB (s[k].toNat : Int) < 16) => or_nibble hx0 hxb hdl h
        generalize digB (s[k].toNat : Int) = d at *
        generalize capB (s[k].toNat : Int) = cp at *
        clear hdrop
        cases cp
        · by_cases hd : d < 16
          · have ho := HO hd
            have hq : (d == 16) = false := by rw [beq_eq_false_iff_ne]; omega
            clear HO
            go_wp2_with (first | (go_at_call 85; refine (C.out _).mono ?_; rintro e w' ⟨rfl, rfl⟩) | (go_at_call 84; refine (D.out _).mono ?_; rintro e w' ⟨rfl, rfl⟩))
            refine ⟨⟨x * 16 + d, k + 1, rfl, by go_num, by omega, by omega, ?_, ?_⟩, by simp [intOf]; omega⟩
            · have := pow16_step (x := x.toNat) (d := d.toNat) HS.out.1 (by omega)
              rw [show (x * 16 + d).toNat = x.toNat * 16 + d.toNat by omega]; exact this
            · rw [HS.out.2, HN.out, if_neg (by simp; omega), show (x * 16 + d).toNat = x.toNat * 16 + d.toNat by omega]
          · have hq : (d == 16) = true := by rw [beq_iff_eq]; omega
            clear HO
            go_wp2_with (first | (go_at_call 85; refine (C.out _).mono ?_; rintro e w' ⟨rfl, rfl⟩) | (go_at_call 84; refine (D.out _).mono ?_; rintro e w' ⟨rfl, rfl⟩))
            go_ret
            exact ⟨ret_int (by rw [HR.out, HS.out.2, HN.out, if_pos (.inr (by omega))]; rfl), rfl⟩
        · clear HO
          go_wp2_with (first | (go_at_call 85; refine (C.out _).mono ?_; rintro e w' ⟨rfl, rfl⟩) | (go_at_call 84; refine (D.out _).mono ?_; rintro e w' ⟨rfl, rfl⟩))
          go_ret
          exact ⟨ret_int (by rw [HR.out, HS.out.2, HN.out, if_pos (.inl trivial)]; rfl), rfl⟩
      · have HN : Hid (hexV (s.data.toList.drop k) x.toNat = some x.toNat) := by
          show _ = _
          rw [List.drop_eq_nil_of_le (by rw [← Lib.size_eq, H16.out]; omega), hexV]
        have hxb : x < 18446744073709551616 := by have := HS.out.1; have := pow16_all hk; omega
        go_wp2_with (go_at_call 47; refine (pack_any _ _).mono ?_; rintro e w' ⟨rfl, rfl⟩)
        go_ret
        exact ⟨ret_int (by rw [HR.out, HS.out.2, HN.out]; show canon (max x 0) = canon (x.toNat : Nat); rw [show max x 0 = x by omega, Int.toNat_of_nonneg hx0]), rfl⟩
  · have HR : Hid (parseBitsI s.data.toList = noneB) := by show _ = _; unfold parseBitsI; rw [if_pos (by rw [← Lib.size_eq]; exact h16)]
    have hb : ((s.size : Int) != 16) = true := by rw [bne_iff_ne]; omega
    clear h16
    go_enter Tryd.func67, Tryd.ntmps67
    go_wp2
    go_ret
    exact ⟨ret_int HR.out.symm, rfl⟩

def infL : List UInt8 := [73, 110, 102, 105, 110, 105, 116, 121]
def plainI (l : List UInt8) : Int := if l = infL then 9218868437227405312 else digitsI 10 l

set_option maxRecDepth 100000 in
set_option maxHeartbeats 1000000 in
theorem parseUnsigned_any (s : ByteArray) (hs : s.size ≤ 9223372036854775807) (w : World) :
    Calls Tryd.prog 70 #[.string s] w fun e w' => e = .returned (.int .u64 (plainI s.data.toList)) ∧ w = w' := by
  have C := Lib.hid (parseDigits_any s hs 10 (.inl rfl) w)
  have HP : Hid (plainI s.data.toList = if s.data.toList = infL then 9218868437227405312 else digitsI 10 s.data.toList) := rfl
  have htl := Lib.toList_data s
  have HT := Lib.hid htl
  clear htl
  go_enter Tryd.func70, Tryd.ntmps70
  go_wp2_with (go_at_call 69; refine C.out.mono ?_; rintro e w' ⟨rfl, rfl⟩)
  all_goals
    rename_i hq
    go_ret
    rw [HT.out] at hq
    refine ⟨ret_int ?_, rfl⟩
    rw [HP.out]
    first
      | (rw [if_pos (by simpa [infL] using hq)]; done)
      | (rw [if_neg (by simpa [infL] using hq)]; done)

def parseT (l : List UInt8) : Int :=
  match l with
  | [] => 0
  | c :: r =>
    if c = 126 then parseBitsI r
    else if Lib.hasPrefix (c :: r) [48, 120] = true ∨ Lib.hasPrefix (c :: r) [48, 88] = true then digitsI 16 ((c :: r).drop 2)
    else if c = 45 then negI (plainI r)
    else if c = 43 then plainI r
    else plainI (c :: r)
def parseI (l : List UInt8) : Int := parseT (Lib.trimS l [32, 9, 13, 10])

theorem trim_any (s : ByteArray) (hs : s.size ≤ 9223372036854775807) (w : World) :
    Calls Tryd.prog 66 #[.string s, .string ⟨#[32, 9, 13, 10]⟩] w fun e w' => e = .returned (.string ⟨(Lib.trimS s.data.toList [32, 9, 13, 10]).toArray⟩) ∧ Below w.heap.size w w' := by
  have hcon := Any.strings_Trim_laid Tryd.lays160 (by kernel_rfl) s ⟨#[32, 9, 13, 10]⟩ w hs (by decide) (ascii_of_all (by decide))
  exact hcon

theorem trimS_le (l cs : List UInt8) : (Lib.trimS l cs).length ≤ l.length := by
  unfold Lib.trimS Lib.trimLeftS Lib.trimRightS
  refine Nat.le_trans (List.dropWhile_sublist _).length_le ?_
  rw [List.length_reverse]
  refine Nat.le_trans (List.dropWhile_sublist _).length_le ?_
  rw [List.length_reverse]
  exact Nat.le_refl _

theorem canon_bounds {b : Int} (h0 : 0 ≤ b) (h1 : b < 18446744073709551616) : 0 ≤ canon b ∧ canon b < 18446744073709551616 := ⟨canon_nonneg h0, canon_lt h1⟩
theorem good_lt {x : Nat} (h : good x) : (x : Int) < 18446744073709551616 := by unfold good at h; omega
theorem sumF_good {base : Int} (hb : base = 10 ∨ base = 16) : ∀ (l : List UInt8) (x y : Nat), good x → sumF base l x = some y → good y
  | [], x, y, hx, h => by simp only [sumF, Option.some.injEq] at h; exact h ▸ hx
  | c :: l, x, y, hx, h => by
    rw [sumF] at h
    split at h
    · obtain ⟨_, _, _, g⟩ := step_good hb hx (digB_lo (c.toNat : Int))
      exact sumF_good hb l _ y g h
    · cases h
theorem good_zero : good 0 := by unfold good; omega
theorem digitsI_bounds {base : Int} (hb : base = 10 ∨ base = 16) (l : List UInt8) : 0 ≤ digitsI base l ∧ digitsI base l < 18446744073709551616 := by
  unfold digitsI
  split
  · unfold noneB; omega
  · split
    · rename_i x h
      exact canon_bounds (by omega) (good_lt (sumF_good hb l 0 x good_zero h))
    · unfold noneB; omega
theorem plainI_bounds (l : List UInt8) : 0 ≤ plainI l ∧ plainI l < 18446744073709551616 := by
  unfold plainI
  split
  · omega
  · exact digitsI_bounds (.inl rfl) l

theorem list_of_size {t : ByteArray} (h : 0 < t.size) : t.data.toList = t[0] :: (t.extract 1 t.size).data.toList := by
  have hl : 0 < t.data.toList.length := by rw [← Lib.size_eq]; exact h
  rw [Lib.extract_data]
  have h1 := drop_cons' hl
  rw [List.drop_zero] at h1
  rw [List.take_of_length_le (by rw [List.length_drop, ← Lib.size_eq]; omega)]
  exact h1

theorem extract2_list (t : ByteArray) : (t.extract 2 t.size).data.toList = t.data.toList.drop 2 := by
  rw [Lib.extract_data, List.take_of_length_le (by rw [List.length_drop, ← Lib.size_eq]; omega)]

theorem extract_size_le (t : ByteArray) (a : Nat) : (t.extract a t.size).size ≤ t.size := by
  rw [Lib.size_eq, Lib.extract_data, List.length_take, List.length_drop, ← Lib.size_eq]; omega

theorem prefix_two {l : List UInt8} {a b : UInt8} (h : Lib.hasPrefix l [a, b] = true) : 2 ≤ l.length := by
  unfold Lib.hasPrefix at h
  have := (List.isPrefixOf_iff_prefix.1 h).length_le
  simpa using this

set_option maxRecDepth 100000 in
set_option maxHeartbeats 1000000 in
theorem parse_any (s : ByteArray) (hs : s.size ≤ 9223372036854775807) (w : World) :
    Calls Tryd.prog 44 #[.string s] w fun e w' => e = .returned (.int .u64 (parseI s.data.toList)) ∧ Below w.heap.size w w' := by
  have ct := trim_any s hs w
  have hle := trimS_le s.data.toList [32, 9, 13, 10]
  have HP : Hid (parseI s.data.toList = parseT (Lib.trimS s.data.toList [32, 9, 13, 10])) := rfl
  have hd : (⟨(Lib.trimS s.data.toList [32, 9, 13, 10]).toArray⟩ : ByteArray).data.toList = Lib.trimS s.data.toList [32, 9, 13, 10] := rfl
  rw [← hd] at HP hle
  generalize (⟨(Lib.trimS s.data.toList [32, 9, 13, 10]).toArray⟩ : ByteArray) = t at ct HP hle
  rw [← Lib.size_eq, ← Lib.size_eq] at hle
  have hts : t.size ≤ 9223372036854775807 := by omega
  have CT := Lib.hid ct
  clear ct hd hle hs
  by_cases h0 : t.size = 0
  · have hl : t.data.toList = [] := List.eq_nil_of_length_eq_zero (by rw [← Lib.size_eq]; exact h0)
    have h1 : t.toList.isEmpty = true := by rw [Lib.toList_data, hl]; rfl
    have HR : Hid (parseT t.data.toList = 0) := by show _ = _; rw [hl]; rfl
    clear hl h0
    go_enter Tryd.func44, Tryd.ntmps44
    go_wp2_with (go_at_call 66; refine CT.out.mono ?_; rintro e w1 ⟨rfl, hB⟩)
    go_ret
    exact ⟨ret_int (by rw [HP.out, HR.out]), hB⟩
  · have hpos : 0 < t.size := by omega
    have hl := list_of_size hpos
    have h1 : t.toList.isEmpty = false := by rw [Lib.toList_data, hl]; rfl
    have hc0 : (0 : Int) ≤ (t[0].toNat : Int) := Int.natCast_nonneg _
    have e1 := extract_size_le t 1
    have e2 := extract_size_le t 2
    have B := Lib.hid (fun w => parseBits_any (t.extract 1 t.size) w)
    have U := Lib.hid (fun w => parseUnsigned_any (t.extract 1 t.size) (by omega) w)
    have V := Lib.hid (fun w => parseUnsigned_any t hts w)
    have D := Lib.hid (fun w => parseDigits_any (t.extract 2 t.size) (by omega) 16 (.inr rfl) w)
    have bu := plainI_bounds (t.extract 1 t.size).data.toList
    have N := Lib.hid (fun w => neg_any (plainI (t.extract 1 t.size).data.toList) bu.1 bu.2 w)
    have P := Lib.hid (fun (p : ByteArray) w => Go.Proofs.Tryd.strings_HasPrefix t p w)
    have HT : Hid (parseT t.data.toList = if t[0] = 126 then parseBitsI (t.extract 1 t.size).data.toList
        else if Lib.hasPrefix t.data.toList [48, 120] = true ∨ Lib.hasPrefix t.data.toList [48, 88] = true then digitsI 16 (t.extract 2 t.size).data.toList
        else if t[0] = 45 then negI (plainI (t.extract 1 t.size).data.toList)
        else if t[0] = 43 then plainI (t.extract 1 t.size).data.toList
        else plainI t.data.toList) := by
      show _ = _
      rw [extract2_list, hl]; rfl
    have toC : ∀ n : Nat, n < 256 → (t[0] = UInt8.ofNat n ↔ (t[0].toNat : Int) = n) := by
      intro n hn
      rw [← UInt8.toNat_inj, UInt8.toNat_ofNat']
      omega
    have T126 : Hid (t[0] = 126 ↔ (t[0].toNat : Int) = 126) := toC 126 (by decide)
    have T45 : Hid (t[0] = 45 ↔ (t[0].toNat : Int) = 45) := toC 45 (by decide)
    have T43 : Hid (t[0] = 43 ↔ (t[0].toNat : Int) = 43) := toC 43 (by decide)
    have pt1 : Lib.hasPrefix t.data.toList [48, 120] = true → 2 ≤ t.size := fun h => by rw [Lib.size_eq]; exact prefix_two h
    have pt2 : Lib.hasPrefix t.data.toList [48, 88] = true → 2 ≤ t.size := fun h => by rw [Lib.size_eq]; exact prefix_two h
    clear toC hl h0 bu e1 e2
    generalize parseBitsI (t.extract 1 t.size).data.toList = vB at *
    generalize plainI (t.extract 1 t.size).data.toList = vU at *
    generalize digitsI 16 (t.extract 2 t.size).data.toList = vD at *
    generalize plainI t.data.toList = vP at *
    by_cases h126 : (t[0].toNat : Int) = 126
    · have q : ((t[0].toNat : Int) == 126) = true := by rw [h126]; rfl
      have HR : Hid (parseT t.data.toList = vB) := by show _ = _; rw [HT.out, if_pos (T126.out.2 h126)]
      clear pt1 pt2 h126
      go_enter Tryd.func44, Tryd.ntmps44
      go_wp2_with (first | (go_at_call 66; refine CT.out.mono ?_; rintro e w1 ⟨rfl, hB⟩) | (go_at_call 67; refine (B.out _).mono ?_; rintro e w2 ⟨rfl, rfl⟩))
      go_ret
      exact ⟨ret_int (by rw [HP.out, HR.out]), hB⟩
    · have q : ((t[0].toNat : Int) == 126) = false := by rw [beq_eq_false_iff_ne]; exact h126
      have n126 : ¬ t[0] = 126 := fun h => h126 (T126.out.1 h)
      have HT2 := Lib.hid ((HT.out).trans (if_neg n126))
      clear HT n126 h126
      cases p1 : Lib.hasPrefix t.data.toList [48, 120]
      · cases p2 : Lib.hasPrefix t.data.toList [48, 88]
        · have HT3 := Lib.hid ((HT2.out).trans (if_neg (by rw [p1, p2]; simp)))
          clear pt1 pt2 HT2
          by_cases h45 : (t[0].toNat : Int) = 45
          · have q2 : ((t[0].toNat : Int) == 45) = true := by rw [h45]; rfl
            have HR := Lib.hid ((HT3.out).trans (if_pos (T45.out.2 h45)))
            clear h45 HT3
            go_enter Tryd.func44, Tryd.ntmps44
            go_wp2_with (first | (go_at_call 66; refine CT.out.mono ?_; rintro e w1 ⟨rfl, hB⟩) | (go_at_call 68; refine (P.out _ _).mono ?_; rintro e w2 ⟨rfl, rfl⟩) | (go_at_call 70; refine (U.out _).mono ?_; rintro e w2 ⟨rfl, rfl⟩) | (go_at_call 23; refine (N.out _).mono ?_; rintro e w2 ⟨rfl, rfl⟩))
            go_ret
            exact ⟨ret_int (by rw [HP.out, HR.out]), hB⟩
          · have q2 : ((t[0].toNat : Int) == 45) = false := by rw [beq_eq_false_iff_ne]; exact h45
            have n45 : ¬ t[0] = 45 := fun h => h45 (T45.out.1 h)
            by_cases h43 : (t[0].toNat : Int) = 43
            · have q3 : ((t[0].toNat : Int) == 43) = true := by rw [h43]; rfl
              have HR := Lib.hid (((HT3.out).trans (if_neg n45)).trans (if_pos (T43.out.2 h43)))
              clear h43 h45 n45 HT3
              go_enter Tryd.func44, Tryd.ntmps44
              go_wp2_with (first | (go_at_call 66; refine CT.out.mono ?_; rintro e w1 ⟨rfl, hB⟩) | (go_at_call 68; refine (P.out _ _).mono ?_; rintro e w2 ⟨rfl, rfl⟩) | (go_at_call 70; refine (U.out _).mono ?_; rintro e w2 ⟨rfl, rfl⟩))
              go_ret
              exact ⟨ret_int (by rw [HP.out, HR.out]), hB⟩
            · have q3 : ((t[0].toNat : Int) == 43) = false := by rw [beq_eq_false_iff_ne]; exact h43
              have n43 : ¬ t[0] = 43 := fun h => h43 (T43.out.1 h)
              have HR := Lib.hid (((HT3.out).trans (if_neg n45)).trans (if_neg n43))
              clear h43 h45 n45 n43 HT3
              go_enter Tryd.func44, Tryd.ntmps44
              go_wp2_with (first | (go_at_call 66; refine CT.out.mono ?_; rintro e w1 ⟨rfl, hB⟩) | (go_at_call 68; refine (P.out _ _).mono ?_; rintro e w2 ⟨rfl, rfl⟩) | (go_at_call 70; refine (V.out _).mono ?_; rintro e w2 ⟨rfl, rfl⟩))
              go_ret
              exact ⟨ret_int (by rw [HP.out, HR.out]), hB⟩
        · have h2 := pt2 p2
          have HR := Lib.hid ((HT2.out).trans (if_pos (.inr p2)))
          clear pt1 pt2 HT2
          go_enter Tryd.func44, Tryd.ntmps44
          go_wp2_with (first | (go_at_call 66; refine CT.out.mono ?_; rintro e w1 ⟨rfl, hB⟩) | (go_at_call 68; refine (P.out _ _).mono ?_; rintro e w2 ⟨rfl, rfl⟩) | (go_at_call 69; refine (D.out _).mono ?_; rintro e w2 ⟨rfl, rfl⟩))
          go_ret
          exact ⟨ret_int (by rw [HP.out, HR.out]), hB⟩
      · have h2 := pt1 p1
        have HR := Lib.hid ((HT2.out).trans (if_pos (.inl p1)))
        clear pt1 pt2 HT2
        go_enter Tryd.func44, Tryd.ntmps44
        go_wp2_with (first | (go_at_call 66; refine CT.out.mono ?_; rintro e w1 ⟨rfl, hB⟩) | (go_at_call 68; refine (P.out _ _).mono ?_; rintro e w2 ⟨rfl, rfl⟩) | (go_at_call 69; refine (D.out _).mono ?_; rintro e w2 ⟨rfl, rfl⟩))
        go_ret
        exact ⟨ret_int (by rw [HP.out, HR.out]), hB⟩
end Go.Proofs.YtmepgpiihhilaaaDoor
