/- What stands for a sign behind the backslash, by the program. -/
import Derived.Test.YtcpjggcpimghjaaNum
import Derived.Test.YtcpjggcpimghjaaUPut
namespace Go.Proofs.Ytcpjggcpimghjaa
open Go.RowKit
set_option linter.unusedVariables false

theorem ior4 {x y : Int} (hx₀ : 0 ≤ x) (hx : x % 16 = 0) (hx₁ : x < 4611686018427387904) (h₀ : 0 ≤ y) (h₁ : y < 16) : bits .or .i64 x y = x + y :=
  bits_join .i64 62 (by decide) wraps_i64 4 x y hx₀ hx hx₁ h₀ h₁ (by omega)
theorem hexN_out {s : ByteArray} {k i : Nat} {n : Int} (h : s.size ≤ k) : hexN (i + 1) (s.data.toList.drop k) n = none := by rw [drop_done s k h, hexN]
theorem hexN_bad {s : ByteArray} {k i : Nat} {n : Int} (h : k < s.size) (hc : hexI (s[k].toNat : Int) = 16) : hexN (i + 1) (s.data.toList.drop k) n = none := by
  rw [drop_cons s k h, hexN]; unfold ci; rw [if_pos hc]
theorem hexN_more {s : ByteArray} {k i : Nat} {n : Int} (h : k < s.size) (hc : ¬ hexI (s[k].toNat : Int) = 16) : hexN (i + 1) (s.data.toList.drop k) n = hexN i (s.data.toList.drop (k + 1)) (n * 16 + hexI (s[k].toNat : Int)) := by
  rw [drop_cons s k h, hexN]; unfold ci; rw [if_neg hc]

def codeR (s : ByteArray) (k : Nat) : Option (Value × Nat) := match hexN 4 (s.data.toList.drop k) 0 with | none => none | some n => if sizeI n = 0 then none else some (.string (putS n), k + 4)
theorem codeR_none {s : ByteArray} {k : Nat} (h : hexN 4 (s.data.toList.drop k) 0 = none) : codeR s k = none := by unfold codeR; rw [h]
theorem codeR_bad {s : ByteArray} {k : Nat} {n : Int} (h : hexN 4 (s.data.toList.drop k) 0 = some n) (hz : sizeI n = 0) : codeR s k = none := by unfold codeR; rw [h]; simp only [if_pos hz]
theorem codeR_some {s : ByteArray} {k : Nat} {n : Int} (h : hexN 4 (s.data.toList.drop k) 0 = some n) (hz : ¬ sizeI n = 0) : codeR s k = some (.string (putS n), k + 4) := by unfold codeR; rw [h]; simp only [if_neg hz]

set_option maxRecDepth 100000 in
set_option maxHeartbeats 2000000 in
theorem code_any (b : Nat) (s : ByteArray) (hs : s.size ≤ 1000000) (beg op : Int) (k : Nat) (hk : k ≤ s.size) (w : World) (h : Rd w b s beg k op) :
    Calls Try.prog 66 #[.pointer (some ⟨b, 0, none⟩)] w (Gives b s beg op w (codeR s k)) := by
  have H := Lib.hid h
  have RN := Lib.hid (@codeR_none s k)
  have RB := Lib.hid (fun n (h : hexN 4 (s.data.toList.drop k) 0 = some n) => @codeR_bad s k n h)
  have RS := Lib.hid (fun n (h : hexN 4 (s.data.toList.drop k) 0 = some n) => @codeR_some s k n h)
  generalize codeR s k = R at *
  clear h
  go_enter Try.func66, Try.ntmps66
  go_wp2_with fail
  go_loopw [3, 7] (fun vv ii wr => ∃ (i : Nat) (v : Int), ii = .int .i64 (i : Int) ∧ vv = .int .i64 v ∧ i ≤ 4 ∧ k + i ≤ s.size ∧ 0 ≤ v ∧ v ≤ 16777215 ∧ (i ≤ 3 → v ≤ 1048575) ∧ (i ≤ 2 → v ≤ 65535) ∧ (i ≤ 1 → v ≤ 4095) ∧ (i = 0 → v = 0) ∧ Hid (hexN 4 (s.data.toList.drop k) 0 = hexN (4 - i) (s.data.toList.drop (k + i)) v) ∧ Hid (Rd wr b s beg (k + i : Nat) op) ∧ Hid (Off b w wr)) (fun _ ii _ => 4 - (intOf ii).toNat)
  case atStart => exact ⟨0, 0, rfl, rfl, by omega, by omega, by omega, by omega, by omega, by omega, by omega, by omega, rfl, H.out, Off.refl _ _⟩
  case round =>
    rename_i wr hrel
    obtain ⟨i, v, rfl, rfl, hi, hki, hv0, hv1, hv3, hv2, hvv1, hvv0, HC, HR, HO⟩ := hrel
    by_cases hlt : i < 4
    · obtain ⟨m, hm⟩ : ∃ m, 4 - i = m + 1 := ⟨3 - i, by omega⟩
      rw [hm] at HC
      have hm2 : 4 - (i + 1) = m := by omega
      by_cases hin : k + i < s.size
      · have T := Lib.hid (fun w h => take_in b s hs beg op (k + i) w h hin)
        have D := Lib.hid (fun w => digit_any (s[k + i].toNat : Int) (Int.natCast_nonneg _) (by have := s[k + i].toNat_lt; omega) w)
        have B1 := Lib.hid (@hexN_bad s (k + i) m v hin)
        have B2 := Lib.hid (@hexN_more s (k + i) m v hin)
        have hr := hexI_range (s[k + i].toNat : Int)
        generalize hexI (s[k + i].toNat : Int) = d at *
        obtain ⟨hr0, hr1⟩ := hr
        have HM2 := Lib.hid hm2
        clear hm hm2
        by_cases hb : d = 16
        · have E := Lib.hid (RN.out (HC.out.trans (B1.out hb)))
          have hq : (d == 16) = true := by rw [hb]; rfl
          clear hb
          have G := Lib.hid (fun w h => giveUp_any b s beg (k + i + 1 : Nat) op 5 w h)
          go_wp2_with fail
          refine (T.out _ HR.out).mono ?_; rintro e w1 ⟨rfl, hR1, hO1⟩
          have HR1 := Lib.hid hR1
          have HO1 := Lib.hid hO1
          clear hR1 hO1
          go_wp2_with fail
          refine (D.out _).mono ?_; rintro e w' ⟨rfl, rfl⟩
          go_wp2_with fail
          refine (G.out _ HR1.out).mono ?_; rintro e w' ⟨rfl, rfl⟩
          unfold flt
          go_wp2_with fail
          exact bodyPost_panic rfl (gives_none E.out rfl (HO.out.trans HO1.out))
        · have E := Lib.hid (HC.out.trans (B2.out hb))
          have hq : (d == 16) = false := by rw [beq_eq_false_iff_ne]; exact hb
          have HB := Lib.hid hb
          clear hb
          go_wp2_with fail
          refine (T.out _ HR.out).mono ?_; rintro e w1 ⟨rfl, hR1, hO1⟩
          have HR1 := Lib.hid hR1
          have HO1 := Lib.hid hO1
          clear hR1 hO1
          go_wp2_with fail
          refine (D.out _).mono ?_; rintro e w' ⟨rfl, rfl⟩
          go_wp2_with fail
          go_roundw
          case rel =>
            have hb := HB.out
            refine ⟨i + 1, v * 16 + d, by go_num, ?_, by omega, by omega, by omega, by omega, by omega, by omega, by omega, by omega, by rw [HM2.out]; exact E.out, HR1.out, HO.out.trans HO1.out⟩
            congr 1
            rw [ior4 (by omega) (by omega) (by omega) (by omega) (by omega)]
          case measure => simp [intOf]; omega
      · have T := Lib.hid (fun w h => take_out b s hs beg op (k + i) w h (by omega))
        have E := Lib.hid (RN.out (HC.out.trans (hexN_out (by omega))))
        clear hm hm2
        go_wp2_with fail
        refine (T.out _ HR.out).mono ?_; rintro e w1 ⟨rfl, hO1⟩
        unfold flt
        have HO1 := Lib.hid hO1
        clear hO1
        go_wp2_with fail
        exact bodyPost_panic rfl (gives_none E.out rfl (HO.out.trans HO1.out))
    · have e4 : 4 - i = 0 := by omega
      rw [e4] at HC
      obtain rfl : i = 4 := by omega
      have P := Lib.hid (fun w => put_any v w)
      have PE : Hid (putE v = if sizeI v = 0 then 2 else 0) := rfl
      have E1 := Lib.hid (fun hz => RB.out _ (HC.out.trans rfl) hz)
      have E2 := Lib.hid (fun hz => RS.out _ (HC.out.trans rfl) hz)
      clear e4
      generalize putS v = ps at *
      generalize putE v = pe at *
      by_cases hz : sizeI v = 0
      · have hp : pe = 2 := by rw [PE.out, if_pos hz]
        subst hp
        have E := Lib.hid (E1.out hz)
        have G := Lib.hid (fun w h => giveUp_any b s beg (k + 4 : Nat) op 5 w h)
        clear hz
        go_wp2_with fail
        refine (P.out _).mono ?_; rintro e w1 ⟨rfl, hB⟩
        go_wp2_with fail
        refine (G.out _ (HR.out.below hB HR.out.lt)).mono ?_; rintro e w' ⟨rfl, rfl⟩
        unfold flt
        go_wp2_with fail
        exact bodyPost_panic rfl (gives_none E.out rfl (HO.out.below hB))
      · have hp : pe = 0 := by rw [PE.out, if_neg hz]
        subst hp
        have E := Lib.hid (E2.out hz)
        clear hz
        go_wp2_with fail
        refine (P.out _).mono ?_; rintro e w1 ⟨rfl, hB⟩
        go_wp2_with fail
        go_ret
        exact gives_some E.out rfl (HR.out.below hB HR.out.lt) (HO.out.below hB)
end Go.Proofs.Ytcpjggcpimghjaa
