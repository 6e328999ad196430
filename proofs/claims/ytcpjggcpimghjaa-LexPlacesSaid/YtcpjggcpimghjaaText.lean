/- A text, by the program. -/
import Derived.Test.YtcpjggcpimghjaaEsc2
namespace Go.Proofs.Ytcpjggcpimghjaa
open Go.RowKit
set_option linter.unusedVariables false

theorem hexN_len : ∀ (i : Nat) (R : List UInt8) (n v : Int), hexN i R n = some v → i ≤ R.length
  | 0, _, _, _, _ => Nat.zero_le _
  | i + 1, [], _, _, h => by rw [hexN] at h; cases h
  | i + 1, c :: r, n, v, h => by
    rw [hexN] at h
    split at h
    · cases h
    · have := hexN_len i r _ v h; simp; omega
theorem putL_len (n : Int) : (putL n).length ≤ 4 := by have := putL_length n; have := sizeI_range n; omega
theorem escT_size {R : List UInt8} {o : List UInt8} {n : Nat} (h : escT R = some (o, n)) : 1 ≤ n ∧ n ≤ R.length ∧ o.length ≤ 4 := by
  unfold escT at h
  match R with
  | [] => cases h
  | d :: r =>
    simp only at h
    repeat' split at h
    all_goals first
      | (cases h; done)
      | (rename_i heq hz; injection h with h; injection h with h1 h2; subst h1; subst h2
         have := hexN_len 4 r 0 _ heq; have := putL_len; simp; refine ⟨by omega, this _⟩)
      | (injection h with h; injection h with h1 h2; subst h1; subst h2; simp)
def app (acc : List UInt8) (d : Nat) (r : Option (List UInt8 × Nat)) : Option (List UInt8 × Nat) := match r with | none => none | some (o, m) => some (acc ++ o, d + m)
theorem app_none (acc : List UInt8) (d : Nat) : app acc d none = none := rfl
theorem app_some (acc : List UInt8) (d : Nat) (o : List UInt8) (m : Nat) : app acc d (some (o, m)) = some (acc ++ o, d + m) := rfl
theorem app_app (acc o : List UInt8) (d n : Nat) (r : Option (List UInt8 × Nat)) : app acc d (app o n r) = app (acc ++ o) (d + n) r := by
  cases r with
  | none => rfl
  | some x => simp [app, List.append_assoc, Nat.add_assoc]
theorem app_nil (r : Option (List UInt8 × Nat)) : app [] 0 r = r := by cases r <;> simp [app]

theorem txt_out {s : ByteArray} {q : UInt8} {p : Nat} (h : s.size ≤ p) : txt q (s.data.toList.drop p) = none := by rw [drop_done s p h, txt]
theorem txt_end {s : ByteArray} {q : UInt8} {p : Nat} (h : p < s.size) (hc : s[p] = q) : txt q (s.data.toList.drop p) = some ([], 1) := by rw [drop_cons s p h, txt, if_pos hc]
theorem txt_bad {s : ByteArray} {q : UInt8} {p : Nat} (h : p < s.size) (hc : ¬ s[p] = q) (ho : oneT (s.data.toList.drop p) = none) : txt q (s.data.toList.drop p) = none := by
  rw [drop_cons s p h] at ho ⊢; rw [txt, if_neg hc, ho]
theorem txt_more {s : ByteArray} {q : UInt8} {p n : Nat} {o : List UInt8} (h : p < s.size) (hc : ¬ s[p] = q) (ho : oneT (s.data.toList.drop p) = some (o, n + 1)) : txt q (s.data.toList.drop p) = app o (n + 1) (txt q (s.data.toList.drop (p + 1 + n))) := by
  rw [drop_cons s p h] at ho ⊢
  rw [txt, if_neg hc, ho]
  simp only [Nat.add_sub_cancel, List.drop_drop]
  cases txt q (s.data.toList.drop (p + 1 + n)) <;> rfl
theorem one_esc {s : ByteArray} {p : Nat} (h : p < s.size) (hc : (s[p].toNat : Int) = 92) : oneT (s.data.toList.drop p) = match escT (s.data.toList.drop (p + 1)) with | none => none | some (o, n) => some (o, n + 1) := by
  rw [drop_cons s p h, oneT]; unfold ci; rw [if_pos hc]; rfl
theorem one_low {s : ByteArray} {p : Nat} (h : p < s.size) (hc : ¬ (s[p].toNat : Int) = 92) (hl : (s[p].toNat : Int) < 32) : oneT (s.data.toList.drop p) = none := by
  rw [drop_cons s p h, oneT]; unfold ci; rw [if_neg hc, if_pos hl]
theorem one_self {s : ByteArray} {p : Nat} (h : p < s.size) (hc : ¬ (s[p].toNat : Int) = 92) (hl : ¬ (s[p].toNat : Int) < 32) : oneT (s.data.toList.drop p) = some ([s[p]], 1) := by
  rw [drop_cons s p h, oneT]; unfold ci; rw [if_neg hc, if_neg hl]

theorem Off.belowAt {b : Nat} {w w1 w2 : World} (h : Off b w w1) (g : Below w.heap.size w1 w2) : Off b w w2 :=
  ⟨g.os.trans h.os, g.tape.trans h.tape, g.output.trans h.output, Nat.le_trans h.size g.size, fun k hk hb => (g.block k hk).trans (h.block k hk hb)⟩

def textR (s : ByteArray) (q : UInt8) (k : Nat) : Option (Value × Nat) := match txt q (s.data.toList.drop (k + 1)) with | none => none | some (o, m) => some (.string (bs o), k + 1 + m)
theorem textR_none {s : ByteArray} {q : UInt8} {k : Nat} (h : txt q (s.data.toList.drop (k + 1)) = none) : textR s q k = none := by unfold textR; rw [h]
theorem textR_some {s : ByteArray} {q : UInt8} {k m : Nat} {o : List UInt8} (h : txt q (s.data.toList.drop (k + 1)) = some (o, m)) : textR s q k = some (.string (bs o), k + 1 + m) := by unfold textR; rw [h]

set_option maxRecDepth 100000 in
set_option maxHeartbeats 4000000 in
theorem text_lex (b : Nat) (s : ByteArray) (hs : s.size ≤ 100000) (beg op : Int) (k : Nat) (hk : k < s.size) (w : World) (h : Rd w b s beg k op) :
    Calls Try.prog 37 #[.pointer (some ⟨b, 0, none⟩)] w (Gives b s beg op w (textR s s[k] k)) := by
  have H := Lib.hid h
  have hbl := h.lt
  clear h
  have T0 := Lib.hid (fun w h => take_in b s (by omega) beg op k w h hk)
  have RN := Lib.hid (@textR_none s s[k] k)
  have RS := Lib.hid (fun o m => @textR_some s s[k] k m o)
  generalize textR s s[k] k = R at *
  have HQI : Hid (∀ c : UInt8, (c.toNat : Int) = (s[k].toNat : Int) → c = s[k]) := fun c h => ci_inj h
  generalize s[k] = q at *
  have hW : (w.alloc (.cells #[.pointer none, .slice none 0 0] 77)).heap.size = w.heap.size + 1 := by simp
  have HB0 := Lib.hid (Bld.new w)
  have H1 := Lib.hid (H.out.alloc (.cells #[.pointer none, .slice none 0 0] 77))
  have HO0 := Lib.hid ((Off.refl b w).alloc (.cells #[.pointer none, .slice none 0 0] 77))
  go_enter Try.func37, Try.ntmps37
  go_wp2_with fail
  refine (T0.out _ H1.out).mono ?_; rintro e w1 ⟨rfl, hR1, hO1⟩
  have HR1 := Lib.hid hR1
  have HB1 := Lib.hid (HB0.out.off hO1 hbl)
  have HO1 := Lib.hid (HO0.out.trans hO1)
  have hz1 := Lib.hid hO1.size
  clear hR1 hO1
  by_cases hin : k + 1 < s.size
  · have T1 := Lib.hid (fun w h => take_in b s (by omega) beg op (k + 1) w h hin)
    go_wp2_with fail
    refine (T1.out _ HR1.out).mono ?_; rintro e w2 ⟨rfl, hR2, hO2⟩
    have HR2 := Lib.hid hR2
    have HB2 := Lib.hid (HB1.out.off hO2 hbl)
    have HO2 := Lib.hid (HO1.out.trans hO2)
    clear hR2 hO2
    go_wp2_with fail
    go_loopg [5] (s.size - (k + 1)) (fun g cv wr => ∃ (p : Nat) (hp : p < s.size) (acc : List UInt8), g = s.size - p ∧ k + 1 ≤ p ∧ cv = .int .u8 (s[p].toNat : Int) ∧ acc.length ≤ 4 * p ∧ Hid (Rd wr b s beg (p + 1 : Nat) op) ∧ Hid (Bld wr w.heap.size w.heap.size acc) ∧ Hid (Off b w wr) ∧ Hid (txt q (s.data.toList.drop (k + 1)) = app acc (p - (k + 1)) (txt q (s.data.toList.drop p))))
    case atStart => exact ⟨k + 1, hin, [], rfl, by omega, rfl, Nat.zero_le _, HR2.out, HB2.out, HO2.out, by show _ = _; rw [Nat.sub_self, app_nil]⟩
    case round =>
      obtain ⟨p, hp, acc, rfl, hkp, rfl, hacc, HR, HB, HO, HT⟩ := hrel
      by_cases hcq : s[p] = q
      · have E := Lib.hid (RS.out _ _ (HT.out.trans (by rw [txt_end hp hcq]; rfl)))
        have hq : ((s[p].toNat : Int) != (q.toNat : Int)) = false := by rw [hcq]; simp
        have hq2 : (s[p].toNat : Int) = (q.toNat : Int) := by rw [hcq]
        have ST := Lib.hid (fun w2 h hs => bstring_any w.heap.size w.heap.size acc w2 h hs)
        have hlen : w.heap.size ≤ wr.heap.size := HO.out.size
        clear hcq
        go_wp2_with fail
        refine (ST.out _ HB.out hlen).mono ?_; rintro e w3 ⟨rfl, hB3⟩
        have HR3 := Lib.hid (HR.out.below hB3 hbl)
        have HO3 := Lib.hid (HO.out.belowAt hB3)
        clear hB3
        go_wp2_with fail
        go_ret
        exact gives_some E.out (by rw [List.append_nil]; rfl) (by rw [show k + 1 + (p - (k + 1) + 1) = p + 1 by omega]; exact HR3.out) HO3.out
      · have hq : ((s[p].toNat : Int) != (q.toNat : Int)) = true := by
          rw [bne_iff_ne]; intro h; exact hcq (ci_inj h)
        have M := Lib.hid (fun o n => @txt_more s q p n o hp hcq)
        have TB := Lib.hid (@txt_bad s q p hp hcq)
        have hlen : w.heap.size ≤ wr.heap.size := HO.out.size
        clear hcq
        by_cases h92 : (s[p].toNat : Int) = 92
        · have HE := Lib.hid (one_esc hp h92)
          have hc92 : ((s[p].toNat : Int) == 92) = true := by rw [h92]; rfl
          have EC := Lib.hid (fun w h => escape_any b s (by omega) beg op (p + 1) (by omega) w h)
          have HER : Hid (escR s (p + 1) = match escT (s.data.toList.drop (p + 1)) with | none => none | some (o, n) => some (.string (bs o), p + 1 + n)) := rfl
          generalize escR s (p + 1) = ER at *
          have HES := Lib.hid (fun o n => @escT_size (s.data.toList.drop (p + 1)) o n)
          generalize escT (s.data.toList.drop (p + 1)) = ET at *
          clear h92
          rcases ET with _ | ⟨o, n⟩
          · have hER : ER = none := HER.out
            subst hER
            have E := Lib.hid (RN.out (HT.out.trans (by rw [TB.out HE.out]; rfl)))
            go_wp2_with fail
            refine (EC.out _ HR.out).mono ?_; rintro e w3 ⟨rfl, hO3⟩
            unfold flt
            have HO3 := Lib.hid (HO.out.trans hO3)
            clear hO3
            go_wp2_with fail
            exact bodyPost_panic rfl (gives_none E.out rfl HO3.out)
          · have hER : ER = some (.string (bs o), p + 1 + n) := HER.out
            subst hER
            obtain ⟨n1, n2, n3⟩ := HES.out o n rfl
            rw [List.length_drop, list_size'] at n2
            have HT3 : Hid (txt q (s.data.toList.drop (k + 1)) = app (acc ++ o) (p + 1 + n - (k + 1)) (txt q (s.data.toList.drop (p + 1 + n)))) := by
              show _ = _
              rw [HT.out, M.out o n HE.out, app_app, show p - (k + 1) + (n + 1) = p + 1 + n - (k + 1) by omega]
            have hbo : (bs o).size ≤ 1000000 := by rw [bs_size]; omega
            have WS := Lib.hid (fun w2 h hs => wstring_any w.heap.size w.heap.size acc (bs o) w2 h (by omega) hbo hs)
            have HBL : Hid ((bs o).data.toList = o) := rfl
            generalize bs o = bo at *
            go_wp2_with fail
            refine (EC.out _ HR.out).mono ?_; rintro e w2 ⟨rfl, hR2, hO2⟩
            have HR2 := Lib.hid hR2
            have HB2 := Lib.hid (HB.out.off hO2 hbl)
            have HO2 := Lib.hid (HO.out.trans hO2)
            clear hR2 hO2
            go_wp2_with fail
            refine (WS.out _ HB2.out HO2.out.size).mono ?_; rintro e w3 ⟨rfl, hB3, hL3⟩
            rw [HBL.out] at hB3
            have HR3 := Lib.hid (HR2.out.below hL3 hbl)
            have HB3 := Lib.hid hB3
            have HO3 := Lib.hid (HO2.out.belowAt hL3)
            clear hB3 hL3
            by_cases hin2 : p + 1 + n < s.size
            · have T2 := Lib.hid (fun w h => take_in b s (by omega) beg op (p + 1 + n) w h hin2)
              go_wp2_with fail
              refine (T2.out _ HR3.out).mono ?_; rintro e w4 ⟨rfl, hR4, hO4⟩
              have HR4 := Lib.hid hR4
              have HB4 := Lib.hid (HB3.out.off hO4 hbl)
              have HO4 := Lib.hid (HO3.out.trans hO4)
              clear hR4 hO4
              go_wp2_with fail
              go_roundg (s.size - (p + 1 + n))
              case measure => omega
              case rel => exact ⟨p + 1 + n, hin2, acc ++ o, rfl, by omega, rfl, by rw [List.length_append]; omega, HR4.out, HB4.out, HO4.out, HT3.out⟩
            · have T2 := Lib.hid (fun w h => take_out b s (by omega) beg op (p + 1 + n) w h (by omega))
              have E := Lib.hid (RN.out (HT3.out.trans (by rw [txt_out (by omega)]; rfl)))
              go_wp2_with fail
              refine (T2.out _ HR3.out).mono ?_; rintro e w4 ⟨rfl, hO4⟩
              unfold flt
              have HO4 := Lib.hid (HO3.out.trans hO4)
              clear hO4
              go_wp2_with fail
              exact bodyPost_panic rfl (gives_none E.out rfl HO4.out)

        · have hc92 : ((s[p].toNat : Int) == 92) = false := by rw [beq_eq_false_iff_ne]; exact h92
          by_cases hlow : (s[p].toNat : Int) < 32
          · have E := Lib.hid (RN.out (HT.out.trans (by rw [TB.out (one_low hp h92 hlow)]; rfl)))
            have G := Lib.hid (fun w h => giveUp_any b s beg (p + 1 : Nat) op 5 w h)
            clear h92
            go_wp2_with fail
            refine (G.out _ HR.out).mono ?_; rintro e w3 ⟨rfl, rfl⟩
            unfold flt
            go_wp2_with fail
            exact bodyPost_panic rfl (gives_none E.out rfl HO.out)
          · have HT3 : Hid (txt q (s.data.toList.drop (k + 1)) = app (acc ++ [s[p]]) (p + 1 - (k + 1)) (txt q (s.data.toList.drop (p + 1)))) := by
              show _ = _
              rw [HT.out, M.out [s[p]] 0 (one_self hp h92 hlow), app_app, show p - (k + 1) + (0 + 1) = p + 1 - (k + 1) by omega, Nat.add_zero]
            have WB := Lib.hid (fun w2 h hs => wbyte_any w.heap.size w.heap.size acc s[p] w2 h (by omega) hs)
            clear h92
            go_wp2_with fail
            refine (WB.out _ HB.out hlen).mono ?_; rintro e w3 ⟨rfl, hB3, hL3⟩
            have HR3 := Lib.hid (HR.out.below hL3 hbl)
            have HB3 := Lib.hid hB3
            have HO3 := Lib.hid (HO.out.belowAt hL3)
            clear hB3 hL3
            by_cases hin2 : p + 1 < s.size
            · have T2 := Lib.hid (fun w h => take_in b s (by omega) beg op (p + 1) w h hin2)
              go_wp2_with fail
              refine (T2.out _ HR3.out).mono ?_; rintro e w4 ⟨rfl, hR4, hO4⟩
              have HR4 := Lib.hid hR4
              have HB4 := Lib.hid (HB3.out.off hO4 hbl)
              have HO4 := Lib.hid (HO3.out.trans hO4)
              clear hR4 hO4
              go_wp2_with fail
              go_roundg (s.size - (p + 1))
              case measure => omega
              case rel => exact ⟨p + 1, hin2, acc ++ [s[p]], rfl, by omega, rfl, by rw [List.length_append]; simp; omega, HR4.out, HB4.out, HO4.out, HT3.out⟩
            · have T2 := Lib.hid (fun w h => take_out b s (by omega) beg op (p + 1) w h (by omega))
              have E := Lib.hid (RN.out (HT3.out.trans (by rw [txt_out (by omega)]; rfl)))
              go_wp2_with fail
              refine (T2.out _ HR3.out).mono ?_; rintro e w4 ⟨rfl, hO4⟩
              unfold flt
              have HO4 := Lib.hid (HO3.out.trans hO4)
              clear hO4
              go_wp2_with fail
              exact bodyPost_panic rfl (gives_none E.out rfl HO4.out)
  · have T1 := Lib.hid (fun w h => take_out b s (by omega) beg op (k + 1) w h (by omega))
    have E := Lib.hid (RN.out (txt_out (by omega)))
    go_wp2_with fail
    refine (T1.out _ HR1.out).mono ?_; rintro e w2 ⟨rfl, hO2⟩
    unfold flt
    have HO2 := Lib.hid hO2
    clear hO2
    go_wp2_with fail
    exact bodyPost_panic rfl (gives_none E.out rfl (HO1.out.trans HO2.out))
end Go.Proofs.Ytcpjggcpimghjaa
