/- The document's reading of a sign within a text. -/
import Derived.Test.YtcpjggcpimghjaaText
namespace Go.Proofs.Ytcpjggcpimghjaa
open Go.RowKit
set_option linter.unusedVariables false

def oneS (L : List UInt8) : ByteArray := match oneT L with | some (o, _) => bs o | none => ⟨#[]⟩
def oneN (L : List UInt8) : Nat := match oneT L with | some (_, n) => n | none => 0
theorem one_n {L : List UInt8} (h : oneT L = none) : oneS L = ⟨#[]⟩ ∧ oneN L = 0 := by unfold oneS oneN; rw [h]; exact ⟨rfl, rfl⟩
theorem one_s {L o : List UInt8} {n : Nat} (h : oneT L = some (o, n)) : oneS L = bs o ∧ oneN L = n := by unfold oneS oneN; rw [h]; exact ⟨rfl, rfl⟩
theorem drop0 (s : ByteArray) : s.data.toList.drop 0 = s.data.toList := List.drop_zero
theorem ext_one {s : ByteArray} {k : Nat} (h : k < s.size) : s.extract k (k + 1) = bs [s[k]] := by
  rw [piece_bs, drop_cons s k h]; rfl
theorem hexN_short : ∀ (i : Nat) (R : List UInt8) (n : Int), R.length < i → hexN i R n = none
  | 0, R, n, h => by omega
  | i + 1, [], n, h => rfl
  | i + 1, c :: r, n, h => by rw [hexN]; split; rfl; exact hexN_short i r _ (by simp at h; omega)
theorem oneR_92 {s : ByteArray} (h : 1 < s.size) (h0 : (s[0].toNat : Int) = 92) (hc : (s[1].toNat : Int) = 92) : oneS s.data.toList = ⟨#[92]⟩ ∧ oneN s.data.toList = 2 := by
  have e : s[1] = 92 := ci_inj (by unfold ci; rw [hc]; rfl)
  have := one_esc (s := s) (p := 0) (by omega) h0
  rw [drop_cons s (0 + 1) h, e, drop0] at this
  exact one_s this
theorem oneR_39 {s : ByteArray} (h : 1 < s.size) (h0 : (s[0].toNat : Int) = 92) (hc : (s[1].toNat : Int) = 39) : oneS s.data.toList = ⟨#[39]⟩ ∧ oneN s.data.toList = 2 := by
  have e : s[1] = 39 := ci_inj (by unfold ci; rw [hc]; rfl)
  have := one_esc (s := s) (p := 0) (by omega) h0
  rw [drop_cons s (0 + 1) h, e, drop0] at this
  exact one_s this
theorem oneR_34 {s : ByteArray} (h : 1 < s.size) (h0 : (s[0].toNat : Int) = 92) (hc : (s[1].toNat : Int) = 34) : oneS s.data.toList = ⟨#[34]⟩ ∧ oneN s.data.toList = 2 := by
  have e : s[1] = 34 := ci_inj (by unfold ci; rw [hc]; rfl)
  have := one_esc (s := s) (p := 0) (by omega) h0
  rw [drop_cons s (0 + 1) h, e, drop0] at this
  exact one_s this
theorem oneR_110 {s : ByteArray} (h : 1 < s.size) (h0 : (s[0].toNat : Int) = 92) (hc : (s[1].toNat : Int) = 110) : oneS s.data.toList = ⟨#[10]⟩ ∧ oneN s.data.toList = 2 := by
  have e : s[1] = 110 := ci_inj (by unfold ci; rw [hc]; rfl)
  have := one_esc (s := s) (p := 0) (by omega) h0
  rw [drop_cons s (0 + 1) h, e, drop0] at this
  exact one_s this
theorem oneR_114 {s : ByteArray} (h : 1 < s.size) (h0 : (s[0].toNat : Int) = 92) (hc : (s[1].toNat : Int) = 114) : oneS s.data.toList = ⟨#[13]⟩ ∧ oneN s.data.toList = 2 := by
  have e : s[1] = 114 := ci_inj (by unfold ci; rw [hc]; rfl)
  have := one_esc (s := s) (p := 0) (by omega) h0
  rw [drop_cons s (0 + 1) h, e, drop0] at this
  exact one_s this
theorem oneR_116 {s : ByteArray} (h : 1 < s.size) (h0 : (s[0].toNat : Int) = 92) (hc : (s[1].toNat : Int) = 116) : oneS s.data.toList = ⟨#[9]⟩ ∧ oneN s.data.toList = 2 := by
  have e : s[1] = 116 := ci_inj (by unfold ci; rw [hc]; rfl)
  have := one_esc (s := s) (p := 0) (by omega) h0
  rw [drop_cons s (0 + 1) h, e, drop0] at this
  exact one_s this
theorem oneR_48 {s : ByteArray} (h : 1 < s.size) (h0 : (s[0].toNat : Int) = 92) (hc : (s[1].toNat : Int) = 48) : oneS s.data.toList = ⟨#[0]⟩ ∧ oneN s.data.toList = 2 := by
  have e : s[1] = 48 := ci_inj (by unfold ci; rw [hc]; rfl)
  have := one_esc (s := s) (p := 0) (by omega) h0
  rw [drop_cons s (0 + 1) h, e, drop0] at this
  exact one_s this
theorem oneR_x {s : ByteArray} (h : 1 < s.size) (h0 : (s[0].toNat : Int) = 92) (h92 : ¬ (s[1].toNat : Int) = 92) (h39 : ¬ (s[1].toNat : Int) = 39) (h34 : ¬ (s[1].toNat : Int) = 34) (h110 : ¬ (s[1].toNat : Int) = 110) (h114 : ¬ (s[1].toNat : Int) = 114) (h116 : ¬ (s[1].toNat : Int) = 116) (h48 : ¬ (s[1].toNat : Int) = 48) (h117 : ¬ (s[1].toNat : Int) = 117) : oneS s.data.toList = ⟨#[]⟩ ∧ oneN s.data.toList = 0 := by
  have := one_esc (s := s) (p := 0) (by omega) h0
  rw [show (0 + 1 : Nat) = 1 from rfl, drop_cons s 1 h, drop0, escT] at this
  unfold ci at this
  rw [if_neg (by omega), if_neg h110, if_neg h114, if_neg h116, if_neg h48, if_neg h117] at this
  exact one_n this
theorem oneR_u {s : ByteArray} (h : 1 < s.size) (h0 : (s[0].toNat : Int) = 92) (hc : (s[1].toNat : Int) = 117) : oneT s.data.toList = match hexN 4 (s.data.toList.drop 2) 0 with | none => none | some n => if sizeI n = 0 then none else some (putL n, 6) := by
  have e : s[1] = 117 := ci_inj (by unfold ci; rw [hc]; rfl)
  have := one_esc (s := s) (p := 0) (by omega) h0
  rw [drop_cons s (0 + 1) h, e, drop0] at this
  rw [this]
  show (match (match hexN 4 (s.data.toList.drop 2) 0 with | none => none | some n => if sizeI n = 0 then none else some (putL n, 5)) with | none => none | some (o, n) => some (o, n + 1)) = _
  cases hexN 4 (s.data.toList.drop 2) 0 with
  | none => rfl
  | some n =>
    by_cases hz : sizeI n = 0
    · simp only [if_pos hz]
    · simp only [if_neg hz]
theorem oneR_out {s : ByteArray} (h : s.size = 1) (h0' : 0 < s.size) (h0 : (s[0].toNat : Int) = 92) : oneS s.data.toList = ⟨#[]⟩ ∧ oneN s.data.toList = 0 := by
  have := one_esc (s := s) (p := 0) (by omega) h0
  rw [drop_done s (0 + 1) (by omega), drop0] at this
  exact one_n this
theorem oneR_low {s : ByteArray} (h : 0 < s.size) (hl : (s[0].toNat : Int) < 32) : oneS s.data.toList = ⟨#[]⟩ ∧ oneN s.data.toList = 0 := by
  have := one_low (s := s) (p := 0) h (by omega) hl
  rw [drop0] at this; exact one_n this
theorem oneR_self {s : ByteArray} (h : 0 < s.size) (hn : ¬ (s[0].toNat : Int) = 92) (hl : ¬ (s[0].toNat : Int) < 32) : oneS s.data.toList = s.extract 0 1 ∧ oneN s.data.toList = 1 := by
  have := one_self (s := s) (p := 0) h hn hl
  rw [drop0] at this
  rw [ext_one (k := 0) h]; exact one_s this

set_option maxRecDepth 100000 in
set_option maxHeartbeats 4000000 in
theorem rone_any (s : ByteArray) (hs : s.size ≤ 100000) (q : Int) (h0 : 0 < s.size) (hq : ((s[0].toNat : Int) == q) = false) (w : World) :
    Calls Try.prog 44 #[.string s, .int .u8 q] w fun e w' => e = .returned (.tuple #[.string (oneS s.data.toList), .int .i64 (oneN s.data.toList : Nat)]) ∧ Below w.heap.size w w' := by
  have HLO := Lib.hid (oneR_low (s := s) h0)
  have HSE := Lib.hid (oneR_self (s := s) h0)
  have H92 := Lib.hid (fun h => oneR_92 (s := s) h)
  have H39 := Lib.hid (fun h => oneR_39 (s := s) h)
  have H34 := Lib.hid (fun h => oneR_34 (s := s) h)
  have H110 := Lib.hid (fun h => oneR_110 (s := s) h)
  have H114 := Lib.hid (fun h => oneR_114 (s := s) h)
  have H116 := Lib.hid (fun h => oneR_116 (s := s) h)
  have H48 := Lib.hid (fun h => oneR_48 (s := s) h)
  have HX := Lib.hid (fun h => oneR_x (s := s) h)
  have HU := Lib.hid (fun h => oneR_u (s := s) h)
  have HO := Lib.hid (fun h => oneR_out (s := s) h h0)
  have NN := Lib.hid (@one_n s.data.toList)
  have NS := Lib.hid (fun o n => @one_s s.data.toList o n)
  generalize oneS s.data.toList = os at *
  generalize oneN s.data.toList = on at *
  by_cases hl : (s[0].toNat : Int) < 32
  · obtain ⟨rfl, rfl⟩ := HLO.out hl
    go_enter Try.func44, Try.ntmps44
    go_wp2_with fail
    go_ret2
    exact ⟨rfl, Below.refl _ _⟩
  · by_cases h92 : (s[0].toNat : Int) = 92
    · have n92 : ((s[0].toNat : Int) != 92) = false := by rw [h92]; rfl
      by_cases h1 : 1 < s.size
      · have hi1 : ¬ (s.size : Int) < 2 := by omega
        by_cases hc92 : (s[1].toNat : Int) = 92
        · have hc := hc92
          obtain ⟨rfl, rfl⟩ := H92.out h1 h92 hc
          have q92 : ((s[1].toNat : Int) == 92) = true := by rw [hc]; rfl
          have e : s[1] = 92 := ci_inj (by unfold ci; rw [hc]; rfl)
          have HE : Hid (s.extract 1 2 = ⟨#[92]⟩) := by show _ = _; rw [show (2 : Nat) = 1 + 1 from rfl, ext_one h1, e]; rfl
          clear e
          clear hc hc92  h92
          go_enter Try.func44, Try.ntmps44
          go_wp2_with fail
          go_ret2
          exact ⟨ret_text HE.out rfl, Below.refl _ _⟩
        by_cases hc39 : (s[1].toNat : Int) = 39
        · have hc := hc39
          obtain ⟨rfl, rfl⟩ := H39.out h1 h92 hc
          have q92 : ((s[1].toNat : Int) == 92) = false := by rw [hc]; rfl
          have q39 : ((s[1].toNat : Int) == 39) = true := by rw [hc]; rfl
          have e : s[1] = 39 := ci_inj (by unfold ci; rw [hc]; rfl)
          have HE : Hid (s.extract 1 2 = ⟨#[39]⟩) := by show _ = _; rw [show (2 : Nat) = 1 + 1 from rfl, ext_one h1, e]; rfl
          clear e
          clear hc hc39 hc92 h92
          go_enter Try.func44, Try.ntmps44
          go_wp2_with fail
          go_ret2
          exact ⟨ret_text HE.out rfl, Below.refl _ _⟩
        by_cases hc34 : (s[1].toNat : Int) = 34
        · have hc := hc34
          obtain ⟨rfl, rfl⟩ := H34.out h1 h92 hc
          have q92 : ((s[1].toNat : Int) == 92) = false := by rw [hc]; rfl
          have q39 : ((s[1].toNat : Int) == 39) = false := by rw [hc]; rfl
          have q34 : ((s[1].toNat : Int) == 34) = true := by rw [hc]; rfl
          have e : s[1] = 34 := ci_inj (by unfold ci; rw [hc]; rfl)
          have HE : Hid (s.extract 1 2 = ⟨#[34]⟩) := by show _ = _; rw [show (2 : Nat) = 1 + 1 from rfl, ext_one h1, e]; rfl
          clear e
          clear hc hc34 hc92 hc39 h92
          go_enter Try.func44, Try.ntmps44
          go_wp2_with fail
          go_ret2
          exact ⟨ret_text HE.out rfl, Below.refl _ _⟩
        by_cases hc110 : (s[1].toNat : Int) = 110
        · have hc := hc110
          obtain ⟨rfl, rfl⟩ := H110.out h1 h92 hc
          have q92 : ((s[1].toNat : Int) == 92) = false := by rw [hc]; rfl
          have q39 : ((s[1].toNat : Int) == 39) = false := by rw [hc]; rfl
          have q34 : ((s[1].toNat : Int) == 34) = false := by rw [hc]; rfl
          have q110 : ((s[1].toNat : Int) == 110) = true := by rw [hc]; rfl
          clear hc hc110 hc92 hc39 hc34 h92
          go_enter Try.func44, Try.ntmps44
          go_wp2_with fail
          go_ret2
          exact ⟨rfl, Below.refl _ _⟩
        by_cases hc114 : (s[1].toNat : Int) = 114
        · have hc := hc114
          obtain ⟨rfl, rfl⟩ := H114.out h1 h92 hc
          have q92 : ((s[1].toNat : Int) == 92) = false := by rw [hc]; rfl
          have q39 : ((s[1].toNat : Int) == 39) = false := by rw [hc]; rfl
          have q34 : ((s[1].toNat : Int) == 34) = false := by rw [hc]; rfl
          have q110 : ((s[1].toNat : Int) == 110) = false := by rw [hc]; rfl
          have q114 : ((s[1].toNat : Int) == 114) = true := by rw [hc]; rfl
          clear hc hc114 hc92 hc39 hc34 hc110 h92
          go_enter Try.func44, Try.ntmps44
          go_wp2_with fail
          go_ret2
          exact ⟨rfl, Below.refl _ _⟩
        by_cases hc116 : (s[1].toNat : Int) = 116
        · have hc := hc116
          obtain ⟨rfl, rfl⟩ := H116.out h1 h92 hc
          have q92 : ((s[1].toNat : Int) == 92) = false := by rw [hc]; rfl
          have q39 : ((s[1].toNat : Int) == 39) = false := by rw [hc]; rfl
          have q34 : ((s[1].toNat : Int) == 34) = false := by rw [hc]; rfl
          have q110 : ((s[1].toNat : Int) == 110) = false := by rw [hc]; rfl
          have q114 : ((s[1].toNat : Int) == 114) = false := by rw [hc]; rfl
          have q116 : ((s[1].toNat : Int) == 116) = true := by rw [hc]; rfl
          clear hc hc116 hc92 hc39 hc34 hc110 hc114 h92
          go_enter Try.func44, Try.ntmps44
          go_wp2_with fail
          go_ret2
          exact ⟨rfl, Below.refl _ _⟩
        by_cases hc48 : (s[1].toNat : Int) = 48
        · have hc := hc48
          obtain ⟨rfl, rfl⟩ := H48.out h1 h92 hc
          have q92 : ((s[1].toNat : Int) == 92) = false := by rw [hc]; rfl
          have q39 : ((s[1].toNat : Int) == 39) = false := by rw [hc]; rfl
          have q34 : ((s[1].toNat : Int) == 34) = false := by rw [hc]; rfl
          have q110 : ((s[1].toNat : Int) == 110) = false := by rw [hc]; rfl
          have q114 : ((s[1].toNat : Int) == 114) = false := by rw [hc]; rfl
          have q116 : ((s[1].toNat : Int) == 116) = false := by rw [hc]; rfl
          have q48 : ((s[1].toNat : Int) == 48) = true := by rw [hc]; rfl
          clear hc hc48 hc92 hc39 hc34 hc110 hc114 hc116 h92
          go_enter Try.func44, Try.ntmps44
          go_wp2_with fail
          go_ret2
          exact ⟨rfl, Below.refl _ _⟩
        have q92 : ((s[1].toNat : Int) == 92) = false := by rw [beq_eq_false_iff_ne]; exact hc92
        have q39 : ((s[1].toNat : Int) == 39) = false := by rw [beq_eq_false_iff_ne]; exact hc39
        have q34 : ((s[1].toNat : Int) == 34) = false := by rw [beq_eq_false_iff_ne]; exact hc34
        have q110 : ((s[1].toNat : Int) == 110) = false := by rw [beq_eq_false_iff_ne]; exact hc110
        have q114 : ((s[1].toNat : Int) == 114) = false := by rw [beq_eq_false_iff_ne]; exact hc114
        have q116 : ((s[1].toNat : Int) == 116) = false := by rw [beq_eq_false_iff_ne]; exact hc116
        have q48 : ((s[1].toNat : Int) == 48) = false := by rw [beq_eq_false_iff_ne]; exact hc48
        by_cases hc117 : (s[1].toNat : Int) = 117
        · have HUU := Lib.hid (HU.out h1 h92 hc117)
          have q117 : ((s[1].toNat : Int) != 117) = false := by rw [hc117]; rfl
          clear hc117 hc92 hc39 hc34 hc110 hc114 hc116 hc48 h92
          by_cases h6 : s.size < 6
          · have hi6 : (s.size : Int) < 6 := by omega
            obtain ⟨rfl, rfl⟩ := NN.out (HUU.out.trans (by rw [hexN_short _ _ _ (by rw [List.length_drop, list_size']; omega)]))
            go_enter Try.func44, Try.ntmps44
            go_wp2_with fail
            go_ret2
            exact ⟨rfl, Below.refl _ _⟩
          · have hi6 : ¬ (s.size : Int) < 6 := by omega
            go_enter Try.func44, Try.ntmps44
            go_wp2_with fail
            go_loop [6, 7] (fun nn ii => ∃ (i : Nat) (n : Int), ii = .int .i64 (i : Int) ∧ nn = .int .i64 n ∧ 2 ≤ i ∧ i ≤ 6 ∧ 0 ≤ n ∧ n ≤ 16777215 ∧ (i ≤ 5 → n ≤ 1048575) ∧ (i ≤ 4 → n ≤ 65535) ∧ (i ≤ 3 → n ≤ 4095) ∧ (i = 2 → n = 0) ∧ Hid (hexN 4 (s.data.toList.drop 2) 0 = hexN (6 - i) (s.data.toList.drop i) n)) (fun _ ii => 6 - (intOf ii).toNat)
            case atStart => exact ⟨2, 0, rfl, rfl, by omega, by omega, by omega, by omega, by omega, by omega, by omega, by omega, rfl⟩
            case round =>
              obtain ⟨i, n, rfl, rfl, hi2, hi6', hn0, hn1, hn5, hn4, hn3, hn2, HC⟩ := hrel
              by_cases hlt : i < 6
              · have hin : i < s.size := by omega
                obtain ⟨m, hm⟩ : ∃ m, 6 - i = m + 1 := ⟨5 - i, by omega⟩
                rw [hm] at HC
                have HM2 : Hid (6 - (i + 1) = m) := by show _ = _; omega
                clear hm
                have V := Lib.hid (fun w => rvalue_any (s[i].toNat : Int) (Int.natCast_nonneg _) (by have := s[i].toNat_lt; omega) w)
                have B1 := Lib.hid (@hexN_bad s i m n hin)
                have B2 := Lib.hid (@hexN_more s i m n hin)
                have VV : Hid (valI (s[i].toNat : Int) = if hexI (s[i].toNat : Int) = 16 then -1 else hexI (s[i].toNat : Int)) := rfl
                have hr := hexI_range (s[i].toNat : Int)
                generalize hexI (s[i].toNat : Int) = d at *
                generalize valI (s[i].toNat : Int) = v at *
                obtain ⟨hr0, hr1⟩ := hr
                by_cases hb : d = 16
                · have hv : v = -1 := VV.out.trans (if_pos hb)
                  obtain ⟨rfl, rfl⟩ := NN.out (HUU.out.trans (by rw [HC.out, B1.out hb]))
                  subst hv
                  clear hb
                  go_wp2_with (go_at_call 42; refine (V.out _).mono ?_; rintro e w' ⟨rfl, rfl⟩)
                  go_ret2
                  exact ⟨rfl, Below.refl _ _⟩
                · have hv : v = d := VV.out.trans (if_neg hb)
                  have E := Lib.hid (HC.out.trans (B2.out hb))
                  subst hv
                  have HB := Lib.hid hb
                  clear hb
                  go_wp2_with (go_at_call 42; refine (V.out _).mono ?_; rintro e w' ⟨rfl, rfl⟩)
                  go_round
                  case rel =>
                    have hb := HB.out
                    exact ⟨i + 1, n * 16 + v, by go_num, by go_num, by omega, by omega, by omega, by omega, by omega, by omega, by omega, by omega, by rw [HM2.out]; exact E.out⟩
                  case measure => simp [intOf]; omega
              · obtain rfl : i = 6 := by omega
                have P := Lib.hid (fun w => rput_any n w)
                have PE : Hid (putE n = if sizeI n = 0 then 2 else 0) := rfl
                have E := Lib.hid (HUU.out.trans (by rw [HC.out]; rfl : _ = if sizeI n = 0 then none else some (putL n, 6)))
                have HPS : Hid (putS n = bs (putL n)) := rfl
                generalize putS n = ps at *
                generalize putE n = pe at *
                by_cases hz : sizeI n = 0
                · have hp : pe = 2 := by rw [PE.out, if_pos hz]
                  subst hp
                  obtain ⟨rfl, rfl⟩ := NN.out (E.out.trans (if_pos hz))
                  clear hz
                  go_wp2_with fail
                  refine (P.out _).mono ?_; rintro e w1 ⟨rfl, hB⟩
                  go_wp2_with fail
                  go_ret2
                  exact ⟨rfl, hB⟩
                · have hp : pe = 0 := by rw [PE.out, if_neg hz]
                  subst hp
                  have E2 := NS.out _ _ (E.out.trans (if_neg hz))
                  rw [← HPS.out] at E2
                  obtain ⟨rfl, rfl⟩ := E2
                  clear hz
                  go_wp2_with fail
                  refine (P.out _).mono ?_; rintro e w1 ⟨rfl, hB⟩
                  go_wp2_with fail
                  go_ret2
                  exact ⟨rfl, hB⟩
        · obtain ⟨rfl, rfl⟩ := HX.out h1 h92 hc92 hc39 hc34 hc110 hc114 hc116 hc48 hc117
          have q117 : ((s[1].toNat : Int) != 117) = true := by rw [bne_iff_ne]; exact hc117
          clear hc117 hc92 hc39 hc34 hc110 hc114 hc116 hc48 h92
          go_enter Try.func44, Try.ntmps44
          go_wp2_with fail
          go_ret2
          exact ⟨rfl, Below.refl _ _⟩
      · obtain ⟨rfl, rfl⟩ := HO.out (by omega) h92
        have hi1 : (s.size : Int) < 2 := by omega
        clear h92
        go_enter Try.func44, Try.ntmps44
        go_wp2_with fail
        go_ret2
        exact ⟨rfl, Below.refl _ _⟩
    · obtain ⟨rfl, rfl⟩ := HSE.out h92 hl
      have n92 : ((s[0].toNat : Int) != 92) = true := by rw [bne_iff_ne]; exact h92
      clear h92
      go_enter Try.func44, Try.ntmps44
      go_wp2_with fail
      go_ret2
      exact ⟨rfl, Below.refl _ _⟩
end Go.Proofs.Ytcpjggcpimghjaa
