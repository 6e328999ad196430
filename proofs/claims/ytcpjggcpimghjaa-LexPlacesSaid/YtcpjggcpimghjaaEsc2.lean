/- An escape, by the program. -/
import Derived.Test.YtcpjggcpimghjaaEsc
namespace Go.Proofs.Ytcpjggcpimghjaa
open Go.RowKit
set_option linter.unusedVariables false

def escR (s : ByteArray) (k : Nat) : Option (Value × Nat) := match escT (s.data.toList.drop k) with | none => none | some (o, n) => some (.string (bs o), k + n)
theorem escR_out {s : ByteArray} {k : Nat} (h : s.size ≤ k) : escR s k = none := by unfold escR; rw [drop_done s k h]; rfl
theorem escR_92 {s : ByteArray} {k : Nat} (h : k < s.size) (hc : (s[k].toNat : Int) = 92) : escR s k = some (.string ⟨#[92]⟩, k + 1) := by
  have e : s[k] = 92 := ci_inj (by unfold ci; rw [hc]; rfl)
  unfold escR; rw [drop_cons s k h, e]; rfl
theorem escR_39 {s : ByteArray} {k : Nat} (h : k < s.size) (hc : (s[k].toNat : Int) = 39) : escR s k = some (.string ⟨#[39]⟩, k + 1) := by
  have e : s[k] = 39 := ci_inj (by unfold ci; rw [hc]; rfl)
  unfold escR; rw [drop_cons s k h, e]; rfl
theorem escR_34 {s : ByteArray} {k : Nat} (h : k < s.size) (hc : (s[k].toNat : Int) = 34) : escR s k = some (.string ⟨#[34]⟩, k + 1) := by
  have e : s[k] = 34 := ci_inj (by unfold ci; rw [hc]; rfl)
  unfold escR; rw [drop_cons s k h, e]; rfl
theorem escR_110 {s : ByteArray} {k : Nat} (h : k < s.size) (hc : (s[k].toNat : Int) = 110) : escR s k = some (.string ⟨#[10]⟩, k + 1) := by
  have e : s[k] = 110 := ci_inj (by unfold ci; rw [hc]; rfl)
  unfold escR; rw [drop_cons s k h, e]; rfl
theorem escR_114 {s : ByteArray} {k : Nat} (h : k < s.size) (hc : (s[k].toNat : Int) = 114) : escR s k = some (.string ⟨#[13]⟩, k + 1) := by
  have e : s[k] = 114 := ci_inj (by unfold ci; rw [hc]; rfl)
  unfold escR; rw [drop_cons s k h, e]; rfl
theorem escR_116 {s : ByteArray} {k : Nat} (h : k < s.size) (hc : (s[k].toNat : Int) = 116) : escR s k = some (.string ⟨#[9]⟩, k + 1) := by
  have e : s[k] = 116 := ci_inj (by unfold ci; rw [hc]; rfl)
  unfold escR; rw [drop_cons s k h, e]; rfl
theorem escR_48 {s : ByteArray} {k : Nat} (h : k < s.size) (hc : (s[k].toNat : Int) = 48) : escR s k = some (.string ⟨#[0]⟩, k + 1) := by
  have e : s[k] = 48 := ci_inj (by unfold ci; rw [hc]; rfl)
  unfold escR; rw [drop_cons s k h, e]; rfl
theorem escR_u {s : ByteArray} {k : Nat} (h : k < s.size) (hc : (s[k].toNat : Int) = 117) : escR s k = codeR s (k + 1) := by
  have e : s[k] = 117 := ci_inj (by unfold ci; rw [hc]; rfl)
  unfold escR codeR; rw [drop_cons s k h, e]
  show (match (match hexN 4 (s.data.toList.drop (k + 1)) 0 with | none => none | some n => if sizeI n = 0 then none else some (putL n, 5)) with | none => none | some (o, n) => some (Value.string (bs o), k + n)) = _
  cases hexN 4 (s.data.toList.drop (k + 1)) 0 with
  | none => rfl
  | some n =>
    by_cases hz : sizeI n = 0
    · simp only [if_pos hz]
    · simp only [if_neg hz]; rfl
theorem escR_none {s : ByteArray} {k : Nat} (h : k < s.size) (h92 : ¬ (s[k].toNat : Int) = 92) (h39 : ¬ (s[k].toNat : Int) = 39) (h34 : ¬ (s[k].toNat : Int) = 34) (h110 : ¬ (s[k].toNat : Int) = 110) (h114 : ¬ (s[k].toNat : Int) = 114) (h116 : ¬ (s[k].toNat : Int) = 116) (h48 : ¬ (s[k].toNat : Int) = 48) (h117 : ¬ (s[k].toNat : Int) = 117) : escR s k = none := by
  unfold escR; rw [drop_cons s k h, escT]; unfold ci
  rw [if_neg (by omega), if_neg h110, if_neg h114, if_neg h116, if_neg h48, if_neg h117]

set_option maxRecDepth 100000 in
set_option maxHeartbeats 2000000 in
theorem escape_any (b : Nat) (s : ByteArray) (hs : s.size ≤ 1000000) (beg op : Int) (k : Nat) (hk : k ≤ s.size) (w : World) (h : Rd w b s beg k op) :
    Calls Try.prog 53 #[.pointer (some ⟨b, 0, none⟩)] w (Gives b s beg op w (escR s k)) := by
  have H := Lib.hid h
  clear h
  by_cases hin : k < s.size
  · have T := Lib.hid (fun w h => take_in b s hs beg op k w h hin)
    have E92 := Lib.hid (@escR_92 s k hin)
    have E39 := Lib.hid (@escR_39 s k hin)
    have E34 := Lib.hid (@escR_34 s k hin)
    have E110 := Lib.hid (@escR_110 s k hin)
    have E114 := Lib.hid (@escR_114 s k hin)
    have E116 := Lib.hid (@escR_116 s k hin)
    have E48 := Lib.hid (@escR_48 s k hin)
    have EU := Lib.hid (@escR_u s k hin)
    have EN := Lib.hid (@escR_none s k hin)
    have CD := Lib.hid (fun w h => code_any b s hs beg op (k + 1) (by omega) w h)
    generalize escR s k = R at *
    generalize codeR s (k + 1) = RC at *
    generalize (s[k].toNat : Int) = c at *
    by_cases h92 : c = 92
    · have E := Lib.hid (E92.out h92)
      subst h92
      have hcv : ∀ w, (convert 21 9 (.int .i32 92)).run Try.prog w = .ok (.string ⟨#[92]⟩) w := fun _ => by kernel_rfl
      go_enter Try.func53, Try.ntmps53
      go_wp2_with fail
      refine (T.out _ H.out).mono ?_; rintro e w1 ⟨rfl, hR1, hO1⟩
      have HR1 := Lib.hid hR1
      have HO1 := Lib.hid hO1
      clear hR1 hO1
      go_wp2_with fail
      go_ret
      exact gives_some E.out rfl HR1.out HO1.out
    by_cases h39 : c = 39
    · have E := Lib.hid (E39.out h39)
      subst h39
      have hcv : ∀ w, (convert 21 9 (.int .i32 39)).run Try.prog w = .ok (.string ⟨#[39]⟩) w := fun _ => by kernel_rfl
      go_enter Try.func53, Try.ntmps53
      go_wp2_with fail
      refine (T.out _ H.out).mono ?_; rintro e w1 ⟨rfl, hR1, hO1⟩
      have HR1 := Lib.hid hR1
      have HO1 := Lib.hid hO1
      clear hR1 hO1
      go_wp2_with fail
      go_ret
      exact gives_some E.out rfl HR1.out HO1.out
    by_cases h34 : c = 34
    · have E := Lib.hid (E34.out h34)
      subst h34
      have hcv : ∀ w, (convert 21 9 (.int .i32 34)).run Try.prog w = .ok (.string ⟨#[34]⟩) w := fun _ => by kernel_rfl
      go_enter Try.func53, Try.ntmps53
      go_wp2_with fail
      refine (T.out _ H.out).mono ?_; rintro e w1 ⟨rfl, hR1, hO1⟩
      have HR1 := Lib.hid hR1
      have HO1 := Lib.hid hO1
      clear hR1 hO1
      go_wp2_with fail
      go_ret
      exact gives_some E.out rfl HR1.out HO1.out
    by_cases h110 : c = 110
    · have E := Lib.hid (E110.out h110)
      subst h110
      go_enter Try.func53, Try.ntmps53
      go_wp2_with fail
      refine (T.out _ H.out).mono ?_; rintro e w1 ⟨rfl, hR1, hO1⟩
      have HR1 := Lib.hid hR1
      have HO1 := Lib.hid hO1
      clear hR1 hO1
      go_wp2_with fail
      go_ret
      exact gives_some E.out rfl HR1.out HO1.out
    by_cases h114 : c = 114
    · have E := Lib.hid (E114.out h114)
      subst h114
      go_enter Try.func53, Try.ntmps53
      go_wp2_with fail
      refine (T.out _ H.out).mono ?_; rintro e w1 ⟨rfl, hR1, hO1⟩
      have HR1 := Lib.hid hR1
      have HO1 := Lib.hid hO1
      clear hR1 hO1
      go_wp2_with fail
      go_ret
      exact gives_some E.out rfl HR1.out HO1.out
    by_cases h116 : c = 116
    · have E := Lib.hid (E116.out h116)
      subst h116
      go_enter Try.func53, Try.ntmps53
      go_wp2_with fail
      refine (T.out _ H.out).mono ?_; rintro e w1 ⟨rfl, hR1, hO1⟩
      have HR1 := Lib.hid hR1
      have HO1 := Lib.hid hO1
      clear hR1 hO1
      go_wp2_with fail
      go_ret
      exact gives_some E.out rfl HR1.out HO1.out
    by_cases h48 : c = 48
    · have E := Lib.hid (E48.out h48)
      subst h48
      go_enter Try.func53, Try.ntmps53
      go_wp2_with fail
      refine (T.out _ H.out).mono ?_; rintro e w1 ⟨rfl, hR1, hO1⟩
      have HR1 := Lib.hid hR1
      have HO1 := Lib.hid hO1
      clear hR1 hO1
      go_wp2_with fail
      go_ret
      exact gives_some E.out rfl HR1.out HO1.out
    by_cases h117 : c = 117
    · have E := Lib.hid (EU.out h117)
      subst h117
      go_enter Try.func53, Try.ntmps53
      go_wp2_with fail
      refine (T.out _ H.out).mono ?_; rintro e w1 ⟨rfl, hR1, hO1⟩
      have HR1 := Lib.hid hR1
      have HO1 := Lib.hid hO1
      clear hR1 hO1
      go_wp2_with fail
      refine (CD.out _ HR1.out).mono ?_; rintro e w2 hG
      rcases RC with _ | ⟨v, k2⟩
      · obtain ⟨rfl, hO2⟩ := hG
        have HO2 := Lib.hid hO2
        clear hO2
        unfold flt
        go_wp2_with fail
        exact bodyPost_panic rfl (gives_none E.out rfl (HO1.out.trans HO2.out))
      · obtain ⟨rfl, hR2, hO2⟩ := hG
        have HR2 := Lib.hid hR2
        have HO2 := Lib.hid hO2
        clear hR2 hO2
        go_wp2_with fail
        go_ret
        exact gives_some E.out rfl HR2.out (HO1.out.trans HO2.out)
    have E := Lib.hid (EN.out h92 h39 h34 h110 h114 h116 h48 h117)
    have q92 : (c == 92) = false := by rw [beq_eq_false_iff_ne]; exact h92
    have q39 : (c == 39) = false := by rw [beq_eq_false_iff_ne]; exact h39
    have q34 : (c == 34) = false := by rw [beq_eq_false_iff_ne]; exact h34
    have q110 : (c == 110) = false := by rw [beq_eq_false_iff_ne]; exact h110
    have q114 : (c == 114) = false := by rw [beq_eq_false_iff_ne]; exact h114
    have q116 : (c == 116) = false := by rw [beq_eq_false_iff_ne]; exact h116
    have q48 : (c == 48) = false := by rw [beq_eq_false_iff_ne]; exact h48
    have q117 : (c == 117) = false := by rw [beq_eq_false_iff_ne]; exact h117
    clear h92 h39 h34 h110 h114 h116 h48 h117
    have G := Lib.hid (fun w h => giveUp_any b s beg (k + 1 : Nat) op 5 w h)
    go_enter Try.func53, Try.ntmps53
    go_wp2_with fail
    refine (T.out _ H.out).mono ?_; rintro e w1 ⟨rfl, hR1, hO1⟩
    have HR1 := Lib.hid hR1
    have HO1 := Lib.hid hO1
    clear hR1 hO1
    go_wp2_with fail
    refine (G.out _ HR1.out).mono ?_; rintro e w' ⟨rfl, rfl⟩
    unfold flt
    go_wp2_with fail
    exact bodyPost_panic rfl (gives_none E.out rfl HO1.out)
  · have T := Lib.hid (fun w h => take_out b s hs beg op k w h (by omega))
    have E := Lib.hid (escR_out (s := s) (k := k) (by omega))
    generalize escR s k = R at *
    go_enter Try.func53, Try.ntmps53
    go_wp2_with fail
    refine (T.out _ H.out).mono ?_; rintro e w1 ⟨rfl, hO1⟩
    unfold flt
    have HO1 := Lib.hid hO1
    clear hO1
    go_wp2_with fail
    exact bodyPost_panic rfl (gives_none E.out rfl HO1.out)
end Go.Proofs.Ytcpjggcpimghjaa
