/- The document's reading of what stands between tokens. -/
import Derived.Test.YtcpjggcpimghjaaSkip
namespace Go.Proofs.Ytcpjggcpimghjaa
open Go.RowKit
set_option linter.unusedVariables false

def gapI (L : List UInt8) : Int := match gap L with | (k, true) => (k : Int) | (k, false) => -1 - (k : Int)
theorem gi_ok {L : List UInt8} {k : Nat} (h : gap L = (k, true)) : gapI L = k := by unfold gapI; rw [h]
theorem gi_bad {L : List UInt8} {k : Nat} (h : gap L = (k, false)) : gapI L = -1 - k := by unfold gapI; rw [h]
theorem line_more {s : ByteArray} {p : Nat} (h : p < s.size) (hc : ¬ (s[p].toNat : Int) = 10) : lineN (s.data.toList.drop p) = lineN (s.data.toList.drop (p + 1)) + 1 := by
  rw [drop_cons s p h, lineN, if_neg (fun e => hc (by rw [e]; rfl))]
theorem line_stop {s : ByteArray} {p : Nat} (h : p < s.size) (hc : (s[p].toNat : Int) = 10) : lineN (s.data.toList.drop p) = 0 := by
  rw [drop_cons s p h, lineN, if_pos (ci_inj (by unfold ci; rw [hc]; rfl))]
theorem line_out {s : ByteArray} {p : Nat} (h : s.size ≤ p) : lineN (s.data.toList.drop p) = 0 := by rw [drop_done s p h]; rfl
theorem end_out {s : ByteArray} {p : Nat} (h : s.size ≤ p + 1) : endN (s.data.toList.drop p) = none := by
  by_cases h2 : p < s.size
  · rw [drop_cons s p h2, drop_done s (p + 1) h]; rfl
  · rw [drop_done s p (by omega)]; rfl
theorem end_here {s : ByteArray} {p : Nat} (h : p + 1 < s.size) (h1 : (s[p].toNat : Int) = 42) (h2 : (s[p + 1].toNat : Int) = 47) : endN (s.data.toList.drop p) = some 0 := by
  rw [drop_cons s p (by omega), drop_cons s (p + 1) h, endN, if_pos ⟨ci_inj (by unfold ci; rw [h1]; rfl), ci_inj (by unfold ci; rw [h2]; rfl)⟩]
theorem end_more {s : ByteArray} {p : Nat} (h : p + 1 < s.size) (hc : ¬ ((s[p].toNat : Int) = 42 ∧ (s[p + 1].toNat : Int) = 47)) : endN (s.data.toList.drop p) = (endN (s.data.toList.drop (p + 1))).map (· + 1) := by
  rw [drop_cons s p (by omega), drop_cons s (p + 1) h, endN, if_neg (fun e => hc ⟨by rw [e.1]; rfl, by rw [e.2]; rfl⟩), ← drop_cons s (p + 1) h]
theorem rem_47 {s : ByteArray} {p : Nat} (h : p + 1 < s.size) (h1 : (s[p].toNat : Int) = 47) (h2 : (s[p + 1].toNat : Int) = 47) : remN (s.data.toList.drop p) = some (lineN (s.data.toList.drop p)) := by
  have e1 : s[p] = 47 := ci_inj (by unfold ci; rw [h1]; rfl)
  have e2 : s[p + 1] = 47 := ci_inj (by unfold ci; rw [h2]; rfl)
  rw [drop_cons s p (by omega), drop_cons s (p + 1) h, e1, e2]; rfl
theorem rem_42 {s : ByteArray} {p : Nat} (h : p + 1 < s.size) (h1 : (s[p].toNat : Int) = 47) (h2 : (s[p + 1].toNat : Int) = 42) : remN (s.data.toList.drop p) = (endN (s.data.toList.drop (p + 2))).map (· + 4) := by
  have e1 : s[p] = 47 := ci_inj (by unfold ci; rw [h1]; rfl)
  have e2 : s[p + 1] = 42 := ci_inj (by unfold ci; rw [h2]; rfl)
  rw [drop_cons s p (by omega), drop_cons s (p + 1) h, e1, e2]; rfl
theorem rem_not {s : ByteArray} {p : Nat} (h : p + 1 < s.size) (h1 : ¬ (s[p + 1].toNat : Int) = 47) (h2 : ¬ (s[p + 1].toNat : Int) = 42) : remN (s.data.toList.drop p) = some 0 := by
  rw [drop_cons s p (by omega), drop_cons s (p + 1) h]
  show (if s[p] = 47 ∧ s[p + 1] = 47 then _ else if s[p] = 47 ∧ s[p + 1] = 42 then _ else some 0) = some 0
  rw [if_neg (fun e => h1 (by rw [e.2]; rfl)), if_neg (fun e => h2 (by rw [e.2]; rfl))]
theorem rem_last {s : ByteArray} {p : Nat} (hp : p < s.size) (h : s.size ≤ p + 1) : remN (s.data.toList.drop p) = some 0 := by
  rw [drop_cons s p hp, drop_done s (p + 1) h]; rfl
theorem rem_slash {s : ByteArray} {p : Nat} (hp : p < s.size) (h : ¬ (s[p].toNat : Int) = 47) : remN (s.data.toList.drop p) = some 0 := by
  rw [drop_cons s p hp]; exact rem_other (fun e => h (by rw [e]; rfl))

set_option maxRecDepth 100000 in
set_option maxHeartbeats 8000000 in
theorem rbetween_any (s : ByteArray) (hs : s.size ≤ 100000) (w : World) :
    Calls Try.prog 18 #[.string s] w fun e w' => e = .returned (.int .i64 (gapI s.data.toList)) ∧ w = w' := by
  have GO := Lib.hid (fun k => @gi_ok s.data.toList k)
  have GB := Lib.hid (fun k => @gi_bad s.data.toList k)
  generalize gapI s.data.toList = G at *
  go_enter Try.func18, Try.ntmps18
  go_wp2_with fail
  go_loop [3, 4, 5] (fun aa _ _ => ∃ p : Nat, aa = .int .i64 (p : Int) ∧ p ≤ s.size ∧ Hid (gap s.data.toList = gAdd p (gap (s.data.toList.drop p)))) (fun aa _ _ => s.size - (intOf aa).toNat)
  case atStart => exact ⟨0, rfl, by omega, by show _ = _; simp [gAdd]⟩
  case round =>
    obtain ⟨p, rfl, hp, HC⟩ := hrel
    by_cases hlt : p < s.size
    · have GBL := Lib.hid (@gap_blank s p hlt)
      have GBD := Lib.hid (@gap_bad s p hlt)
      have GN := Lib.hid (@gap_none s p hlt)
      have GR := Lib.hid (fun n => @gap_rem s p n hlt)
      by_cases hb : blankB s[p] = true
      · have E := Lib.hid (HC.out.trans (by rw [GBL.out hb, gAdd_add]))
        have hcs : (s[p].toNat : Int) = 32 ∨ (s[p].toNat : Int) = 9 ∨ (s[p].toNat : Int) = 13 ∨ (s[p].toNat : Int) = 10 := by
          unfold blankB at hb
          simp only [Bool.or_eq_true, beq_iff_eq] at hb
          rcases hb with ((h | h) | h) | h <;> rw [h] <;> simp
        clear hb
        rcases hcs with h | h | h | h
        · have q32 : ((s[p].toNat : Int) == 32) = true := by rw [h]; rfl
          clear h
          go_wp2_with fail
          go_round
          case rel => exact ⟨p + 1, by go_num, by omega, E.out⟩
          case measure => simp [intOf]; omega
        · have q32 : ((s[p].toNat : Int) == 32) = false := by rw [h]; rfl
          have q9 : ((s[p].toNat : Int) == 9) = true := by rw [h]; rfl
          clear h
          go_wp2_with fail
          go_round
          case rel => exact ⟨p + 1, by go_num, by omega, E.out⟩
          case measure => simp [intOf]; omega
        · have q32 : ((s[p].toNat : Int) == 32) = false := by rw [h]; rfl
          have q9 : ((s[p].toNat : Int) == 9) = false := by rw [h]; rfl
          have q13 : ((s[p].toNat : Int) == 13) = true := by rw [h]; rfl
          clear h
          go_wp2_with fail
          go_round
          case rel => exact ⟨p + 1, by go_num, by omega, E.out⟩
          case measure => simp [intOf]; omega
        · have q32 : ((s[p].toNat : Int) == 32) = false := by rw [h]; rfl
          have q9 : ((s[p].toNat : Int) == 9) = false := by rw [h]; rfl
          have q13 : ((s[p].toNat : Int) == 13) = false := by rw [h]; rfl
          have q10 : ((s[p].toNat : Int) == 10) = true := by rw [h]; rfl
          clear h
          go_wp2_with fail
          go_round
          case rel => exact ⟨p + 1, by go_num, by omega, E.out⟩
          case measure => simp [intOf]; omega
      · have hb2 : blankB s[p] = false := by simpa using hb
        have hci : ∀ x : UInt8, (s[p].toNat : Int) = (x.toNat : Int) → s[p] = x := fun x h => ci_inj h
        have n32 : ¬ (s[p].toNat : Int) = 32 := fun h => hb (by rw [hci 32 h]; rfl)
        have n9 : ¬ (s[p].toNat : Int) = 9 := fun h => hb (by rw [hci 9 h]; rfl)
        have n13 : ¬ (s[p].toNat : Int) = 13 := fun h => hb (by rw [hci 13 h]; rfl)
        have n10 : ¬ (s[p].toNat : Int) = 10 := fun h => hb (by rw [hci 10 h]; rfl)
        have q32 : ((s[p].toNat : Int) == 32) = false := by rw [beq_eq_false_iff_ne]; exact n32
        have q9 : ((s[p].toNat : Int) == 9) = false := by rw [beq_eq_false_iff_ne]; exact n9
        have q13 : ((s[p].toNat : Int) == 13) = false := by rw [beq_eq_false_iff_ne]; exact n13
        have q10 : ((s[p].toNat : Int) == 10) = false := by rw [beq_eq_false_iff_ne]; exact n10
        have N10 := Lib.hid n10
        clear hci n32 n9 n13 n10 hb
        by_cases h47 : (s[p].toNat : Int) = 47
        · have q47 : ((s[p].toNat : Int) != 47) = false := by rw [h47]; rfl
          by_cases h1 : p + 1 < s.size
          · have qe : (((p : Int) + 1) == (s.size : Int)) = false := by rw [beq_eq_false_iff_ne]; omega
            by_cases d47 : (s[p + 1].toNat : Int) = 47
            · -- a remark to the line's end
              have r47 : ((s[p + 1].toNat : Int) != 47) = false := by rw [d47]; rfl
              have r47' : ((s[p + 1].toNat : Int) == 47) = true := by rw [d47]; rfl
              have hl1 := line_more (s := s) (p := p) hlt N10.out
              have hl2 := line_more (s := s) (p := p + 1) h1 (by rw [d47]; decide)
              have HR : Hid (gap (s.data.toList.drop p) = gAdd (lineN (s.data.toList.drop p)) (gap (s.data.toList.drop (p + lineN (s.data.toList.drop p))))) := by
                have := GR.out (lineN (s.data.toList.drop p) - 1) hb2 (by rw [rem_47 h1 h47 d47, show lineN (s.data.toList.drop p) - 1 + 1 = lineN (s.data.toList.drop p) by omega])
                rw [show lineN (s.data.toList.drop p) - 1 + 1 = lineN (s.data.toList.drop p) by omega] at this
                exact this
              have HL1 := Lib.hid hl1
              have hlp : 1 ≤ lineN (s.data.toList.drop p) := by omega
              have HLP := Lib.hid hlp
              clear hl1 hl2 h47 d47 hb2 hlp
              go_wp2_with fail
              go_loop [3] (fun bb => ∃ q : Nat, bb = .int .i64 (q : Int) ∧ p ≤ q ∧ q ≤ s.size ∧ Hid (p + lineN (s.data.toList.drop p) = q + lineN (s.data.toList.drop q))) (fun bb => s.size - (intOf bb).toNat)
              case atStart => exact ⟨p, rfl, by omega, by omega, rfl⟩
              case round =>
                obtain ⟨q, rfl, hpq, hqs, HQ⟩ := hrel
                by_cases hq : q < s.size
                · by_cases hc : (s[q].toNat : Int) = 10
                  · have hcc : ((s[q].toNat : Int) != 10) = false := by rw [hc]; rfl
                    have E := Lib.hid (HQ.out.trans (by rw [line_stop hq hc, Nat.add_zero]))
                    clear hc
                    go_wp2_with fail
                    go_round
                    case rel => exact ⟨q, rfl, hqs, by show _ = _; rw [HC.out, HR.out, gAdd_add, E.out]⟩
                    case measure => have := E.out; have := HLP.out; simp [intOf]; omega
                  · have hcc : ((s[q].toNat : Int) != 10) = true := by rw [bne_iff_ne]; exact hc
                    have E := Lib.hid (HQ.out.trans (by rw [line_more hq hc]))
                    clear hc
                    go_wp2_with fail
                    go_round
                    case rel => exact ⟨q + 1, by go_num, by omega, by omega, by show _ = _; rw [E.out]; omega⟩
                    case measure => simp [intOf]; omega
                · have E := Lib.hid (HQ.out.trans (by rw [line_out (by omega), Nat.add_zero]))
                  have hd : decide (q < s.size) = false := by rw [decide_eq_false_iff_not]; exact hq
                  go_wp2_with fail
                  go_round
                  case rel => exact ⟨q, rfl, hqs, by show _ = _; rw [HC.out, HR.out, gAdd_add, E.out]⟩
                  case measure => have := E.out; have := HLP.out; simp [intOf]; omega
            · have r47 : ((s[p + 1].toNat : Int) != 47) = true := by rw [bne_iff_ne]; exact d47
              have r47' : ((s[p + 1].toNat : Int) == 47) = false := by rw [beq_eq_false_iff_ne]; exact d47
              by_cases d42 : (s[p + 1].toNat : Int) = 42
              · have r42 : ((s[p + 1].toNat : Int) != 42) = false := by rw [d42]; rfl
                have R42 := Lib.hid (rem_42 h1 h47 d42)
                have HB2 := Lib.hid hb2
                clear d42 d47 h47 hb2
                go_wp2_with fail
                go_loop [5] (fun bb => ∃ q : Nat, bb = .int .i64 (q : Int) ∧ p + 2 ≤ q ∧ q ≤ s.size ∧ Hid (endN (s.data.toList.drop (p + 2)) = (endN (s.data.toList.drop q)).map (· + (q - (p + 2))))) (fun bb => s.size - (intOf bb).toNat)
                case atStart => exact ⟨p + 2, by go_num, by omega, by omega, by show _ = _; simp⟩
                case round =>
                  obtain ⟨q, rfl, hpq, hqs, HQ⟩ := hrel
                  by_cases hq : q + 1 < s.size
                  · have hdq : decide (q + 1 < s.size) = true := by rw [decide_eq_true_eq]; exact hq
                    have hqi : ((q : Int) + 1) < (s.size : Int) := by omega
                    by_cases hc : (s[q].toNat : Int) = 42 ∧ (s[q + 1].toNat : Int) = 47
                    · have e1 : ((s[q].toNat : Int) != 42) = false := by rw [hc.1]; rfl
                      have e2 : ((s[q + 1].toNat : Int) != 47) = false := by rw [hc.2]; rfl
                      have E := Lib.hid (GR.out (q - (p + 2) + 3) HB2.out (by rw [R42.out, HQ.out, end_here hq hc.1 hc.2]; simp))
                      clear hc
                      go_wp2_with fail
                      go_round
                      case rel => exact ⟨q + 2, by go_num, by omega, by show _ = _; rw [HC.out, E.out, gAdd_add, show p + (q - (p + 2) + 3 + 1) = q + 2 by omega]⟩
                      case measure => simp [intOf]; omega
                    · have E : Hid (endN (s.data.toList.drop (p + 2)) = (endN (s.data.toList.drop (q + 1))).map (· + (q + 1 - (p + 2)))) := by
                        show _ = _
                        rw [HQ.out, end_more hq hc]
                        cases endN (s.data.toList.drop (q + 1)) with
                        | none => rfl
                        | some i => simp; omega
                      by_cases e1 : (s[q].toNat : Int) = 42
                      · have e2 : ¬ (s[q + 1].toNat : Int) = 47 := fun h => hc ⟨e1, h⟩
                        have f1 : ((s[q].toNat : Int) != 42) = false := by rw [e1]; rfl
                        have f2 : ((s[q + 1].toNat : Int) != 47) = true := by rw [bne_iff_ne]; exact e2
                        clear hc e1 e2
                        go_wp2_with fail
                        go_round
                        case rel => exact ⟨q + 1, by go_num, by omega, by omega, E.out⟩
                        case measure => simp [intOf]; omega
                      · have f1 : ((s[q].toNat : Int) != 42) = true := by rw [bne_iff_ne]; exact e1
                        clear hc e1
                        go_wp2_with fail
                        go_round
                        case rel => exact ⟨q + 1, by go_num, by omega, by omega, E.out⟩
                        case measure => simp [intOf]; omega
                  · have hdq : decide (q + 1 < s.size) = false := by rw [decide_eq_false_iff_not]; exact hq
                    have hqi : ¬ ((q : Int) + 1) < (s.size : Int) := by omega
                    have hqi2 : (s.size : Int) ≤ (q : Int) + 1 := by omega
                    have E := Lib.hid (GB.out p (HC.out.trans (by rw [GBD.out HB2.out (by rw [R42.out, HQ.out, end_out (by omega)]; rfl)]; rfl)))
                    go_wp2_with fail
                    go_ret
                    exact ⟨ret_int (by rw [E.out]), rfl⟩
              · have r42 : ((s[p + 1].toNat : Int) != 42) = true := by rw [bne_iff_ne]; exact d42
                have E := Lib.hid (GO.out p (HC.out.trans (by rw [GN.out hb2 (rem_not h1 d47 d42)]; rfl)))
                clear d42 d47 h47 hb2
                go_wp2_with fail
                go_ret
                exact ⟨ret_int (by rw [E.out]), rfl⟩
          · have qe : (((p : Int) + 1) == (s.size : Int)) = true := by rw [beq_iff_eq]; omega
            have E := Lib.hid (GO.out p (HC.out.trans (by rw [GN.out hb2 (rem_last hlt (by omega))]; rfl)))
            clear h47 hb2
            go_wp2_with fail
            go_ret
            exact ⟨ret_int (by rw [E.out]), rfl⟩
        · have q47 : ((s[p].toNat : Int) != 47) = true := by rw [bne_iff_ne]; exact h47
          have E := Lib.hid (GO.out p (HC.out.trans (by rw [GN.out hb2 (rem_slash hlt h47)]; rfl)))
          clear h47 hb2
          go_wp2_with fail
          go_ret
          exact ⟨ret_int (by rw [E.out]), rfl⟩
    · have E := Lib.hid (GO.out p (HC.out.trans (by rw [gap_out (by omega)]; rfl)))
      go_wp2_with fail
      go_ret
      exact ⟨ret_int (by rw [E.out]), rfl⟩
end Go.Proofs.Ytcpjggcpimghjaa
