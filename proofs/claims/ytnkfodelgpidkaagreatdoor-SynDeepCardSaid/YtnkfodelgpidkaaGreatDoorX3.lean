/- Part of a proof that the program keeps SynDeep: contracts of its functions and of the document's. -/
import Derived.Test.YtnkfodelgpidkaaGreatDoorX2
import Derived.WalkSmall
import Derived.OwnWalk
import Derived.Deep.LoopGhost
set_option maxRecDepth 100000
set_option maxHeartbeats 4000000
set_option linter.unusedVariables false
set_option linter.unusedSimpArgs false
namespace Go.Proofs.YtnkfodelgpidkaaGreatDoor
open Go.RowKit
theorem d_element (c : Cr) (s : Ss) (hg : Gs c s) (HR0 : Rt c) (IH : Ih c .element s) : Ct c .element s := by
 intro w h
 have G0 := Lib.hid (S3.init h hg HR0)
 have HR := Lib.hid HR0
 have IH := Lib.hid IH
 have hg := Lib.hid hg
 clear h HR0
 go_enter Tryz.func30, Tryz.ntmps30
 go_wp2_with fail
 have Q1 : Hid (isS c s [102, 117, 110, 99, 116, 105, 111, 110] = false) := HR.out _ (by decide) _
 refine (n_no [102, 117, 110, 99, 116, 105, 111, 110] (by decide) G0.out Q1.out).mono ?_; rintro e w1 ⟨rfl, hG, hO⟩
 have G1 := Lib.hid hG
 clear hG hO
 go_wp2_with fail
 refine (n_run (t := .statement) rfl rfl trivial G1.out (IH.out .statement _ hg.out (mu_same (show (10 : Nat) < 11 by decide) (fun _ => (show (9 : Nat) < 10 by decide))))).mono ?_
 rintro e w2 ⟨r2, v2, rfl, hM, hG, hN, hW, hL, hO, hP⟩
 have M2 := Lib.hid hM
 have G2 := Lib.hid hG
 have W2 := Lib.hid hW
 clear hM hG hN hW hL hO hP
 go_wp2_with fail
 go_ret
 exact ⟨r2, _, MD.mk1 M2.out fun m h0 => by simp only [bodyM, bm, rm, Q1.out, h0, if_true, Bool.false_eq_true, if_false, true_and, and_true, and_self, false_and, or_true, Bool.true_eq_false, and_false, Int.reduceEq, false_or, or_false, true_or], rfl, G2.out.st, W2.out.mono G1.out.size⟩
theorem d_brackets (c : Cr) (s : Ss) (hg : Gs c s) (HR0 : Rt c) (IH : Ih c .brackets s) : Ct c .brackets s := by
 intro w h
 have hc := Lib.hid h.ok
 have G0 := Lib.hid (S3.init h hg HR0)
 have IH := Lib.hid IH
 have hg := Lib.hid hg
 clear h HR0
 go_enter Tryz.func105, Tryz.ntmps105
 go_wp2_with fail
 refine (n_need [40] (by decide) G0.out).mono ?_; rintro e w1 ⟨rfl, hG, hO⟩
 have G1 := Lib.hid hG
 clear hG hO
 have N2 : Hid (Nx c s (needS c s [40])) := (nx_need hc.out [40] (by decide) hg.out)
 go_wp2_with fail
 refine (n_run (t := .expr) rfl rfl trivial G1.out (IH.out .expr _ N2.out.gs (mu_nx N2.out (fun _ => (show (7 : Nat) < 8 by decide))))).mono ?_
 rintro e w3 ⟨r3, v3, rfl, hM, hG, hN, hW, hL, hO, hP⟩
 have M3 := Lib.hid hM
 have G3 := Lib.hid hG
 have W3 := Lib.hid hW
 clear hM hG hN hW hL hO hP
 go_wp2_with fail
 refine (n_need [41] (by decide) G3.out).mono ?_; rintro e w5 ⟨rfl, hG, hO⟩
 have G5 := Lib.hid hG
 have W6 := Lib.hid (W3.out.off hO G1.out.ltb)
 clear hG hO
 go_wp2_with fail
 go_ret
 exact ⟨⟨r3.l, 0, needS c r3.s [41]⟩, _, MD.mk1 M3.out fun m h0 => by simp only [bodyM, bm, rm, h0, if_true, Bool.false_eq_true, if_false, true_and, and_true, and_self, false_and, or_true, Bool.true_eq_false, and_false, Int.reduceEq, false_or, or_false, true_or], rfl, G5.out.st, W6.out.mono G1.out.size⟩
theorem d_short (c : Cr) (s : Ss) (hg : Gs c s) (HR0 : Rt c) (IH : Ih c .short s) : Ct c .short s := by
 intro w h
 have G0 := Lib.hid (S3.init h hg HR0)
 have HR := Lib.hid HR0
 have IH := Lib.hid IH
 have hg := Lib.hid hg
 clear h HR0
 go_enter Tryz.func108, Tryz.ntmps108
 go_wp2_with fail
 have Q1 : Hid (isS c s [98, 114, 101, 97, 107] = false) := HR.out _ (by decide) _
 refine (n_no [98, 114, 101, 97, 107] (by decide) G0.out Q1.out).mono ?_; rintro e w1 ⟨rfl, hG, hO⟩
 have G1 := Lib.hid hG
 clear hG hO
 go_wp2_with fail
 have Q2 : Hid (isS c s [99, 111, 110, 116, 105, 110, 117, 101] = false) := HR.out _ (by decide) _
 refine (n_no [99, 111, 110, 116, 105, 110, 117, 101] (by decide) G1.out Q2.out).mono ?_; rintro e w2 ⟨rfl, hG, hO⟩
 have G2 := Lib.hid hG
 clear hG hO
 go_wp2_with fail
 have Q3 : Hid (isS c s [114, 101, 116, 117, 114, 110] = false) := HR.out _ (by decide) _
 refine (n_no [114, 101, 116, 117, 114, 110] (by decide) G2.out Q3.out).mono ?_; rintro e w3 ⟨rfl, hG, hO⟩
 have G3 := Lib.hid hG
 clear hG hO
 go_wp2_with fail
 have Q4 : Hid (isS c s [116, 104, 114, 111, 119] = false) := HR.out _ (by decide) _
 refine (n_no [116, 104, 114, 111, 119] (by decide) G3.out Q4.out).mono ?_; rintro e w4 ⟨rfl, hG, hO⟩
 have G4 := Lib.hid hG
 clear hG hO
 go_wp2_with fail
 refine (n_run (t := .expr) rfl rfl trivial G4.out (IH.out .expr _ hg.out (mu_same (show (8 : Nat) < 9 by decide) (fun _ => (show (7 : Nat) < 8 by decide))))).mono ?_
 rintro e w5 ⟨r5, v5, rfl, hM, hG, hN, hW, hL, hO, hP⟩
 have M5 := Lib.hid hM
 have G5 := Lib.hid hG
 have W5 := Lib.hid hW
 have L5 := Lib.hid hL
 clear hM hG hN hW hL hO hP
 go_wp2_with fail
 refine (n_make 6 [] 1 1 rfl (by decide) (by have := L5.out; (try simp only [List.length_append, mk_len, List.length_nil] at *); omega) G5.out W5.out).mono ?_
 rintro e w7 ⟨v7, rfl, hW, hG, hB⟩
 have W7 := Lib.hid hW
 have G7 := Lib.hid hG
 clear hW hG hB
 go_wp2_with fail
 refine (n_closed _ G7.out).mono ?_; rintro e w9 ⟨rfl, hG, hO⟩
 have G9 := Lib.hid hG
 have W10 := Lib.hid (W7.out.off hO G5.out.ltb)
 clear hG hO
 go_wp2_with fail
 go_ret
 exact ⟨⟨mkL 6 [] 1 r5.l, 0, needS c r5.s [59]⟩, _, MD.mk1 M5.out fun m h0 => by simp only [bodyM, bm, rm, Q1.out, Q2.out, Q3.out, Q4.out, h0, if_true, Bool.false_eq_true, if_false, true_and, and_true, and_self, false_and, or_true, Bool.true_eq_false, and_false, Int.reduceEq, false_or, or_false, true_or], rfl, G9.out.st, W10.out.mono G5.out.size⟩
theorem d_cond (c : Cr) (s : Ss) (hg : Gs c s) (HR0 : Rt c) (IH : Ih c .cond s) : Ct c .cond s := by
 intro w h
 have G0 := Lib.hid (S3.init h hg HR0)
 have HR := Lib.hid HR0
 have IH := Lib.hid IH
 have hg := Lib.hid hg
 clear h HR0
 go_enter Tryz.func202, Tryz.ntmps202
 go_wp2_with fail
 refine (n_run (t := (.binary 1)) rfl rfl trivial G0.out (IH.out (.binary 1) _ hg.out (mu_same (show (5 : Nat) < 6 by decide) (fun _ => (show (4 : Nat) < 5 by decide))) (by decide) (by decide))).mono ?_
 rintro e w1 ⟨r1, v1, rfl, hM, hG, hN, hW, hL, hO, hP⟩
 have M1 := Lib.hid hM
 have G1 := Lib.hid hG
 have W1 := Lib.hid hW
 clear hM hG hN hW hL hO hP
 go_wp2_with fail
 have Q3 : Hid (isS c r1.s [63] = false) := HR.out _ (by decide) _
 refine (n_no [63] (by decide) G1.out Q3.out).mono ?_; rintro e w3 ⟨rfl, hG, hO⟩
 have G3 := Lib.hid hG
 have W4 := Lib.hid (W1.out.off hO G0.out.ltb)
 clear hG hO
 go_wp2_with fail
 go_ret
 exact ⟨⟨r1.l, 0, r1.s⟩, _, MD.mk1 M1.out fun m h0 => by simp only [bodyM, bm, rm, Q3.out, h0, if_true, Bool.false_eq_true, if_false, true_and, and_true, and_self, false_and, or_true, Bool.true_eq_false, and_false, Int.reduceEq, false_or, or_false, true_or], rfl, G3.out.st, W4.out⟩
theorem d_statement (c : Cr) (s : Ss) (hg : Gs c s) (HR0 : Rt c) (IH : Ih c .statement s) : Ct c .statement s := by
 intro w h
 have G0 := Lib.hid (S3.init h hg HR0)
 have HR := Lib.hid HR0
 have IH := Lib.hid IH
 have hg := Lib.hid hg
 clear h HR0
 go_enter Tryz.func53, Tryz.ntmps53
 go_wp2_with fail
 refine (n_is [123] (by decide) G0.out).mono ?_; rintro e w1 ⟨rfl, hG, hB⟩
 have G1 := Lib.hid hG
 clear hG hB
 have Q1 : Hid (isS c s [123] = false) := HR.out _ (by decide) _
 rw [Q1.out]
 go_wp2_with fail
 cases hq : isS c s [59]
 ·have Q2 := Lib.hid hq
  clear hq
  refine (n_no [59] (by decide) G1.out Q2.out).mono ?_; rintro e w2 ⟨rfl, hG, hO⟩
  have G2 := Lib.hid hG
  clear hG hO
  go_wp2_with fail
  refine (n_is [102, 117, 110, 99, 116, 105, 111, 110] (by decide) G2.out).mono ?_; rintro e w3 ⟨rfl, hG, hB⟩
  have G3 := Lib.hid hG
  clear hG hB
  have Q3 : Hid (isS c s [102, 117, 110, 99, 116, 105, 111, 110] = false) := HR.out _ (by decide) _
  rw [Q3.out]
  go_wp2_with fail
  have Q4 : Hid (isS c s [118, 97, 114] = false) := HR.out _ (by decide) _
  refine (n_no [118, 97, 114] (by decide) G3.out Q4.out).mono ?_; rintro e w4 ⟨rfl, hG, hO⟩
  have G4 := Lib.hid hG
  clear hG hO
  go_wp2_with fail
  have Q5 : Hid (isS c s [105, 102] = false) := HR.out _ (by decide) _
  refine (n_no [105, 102] (by decide) G4.out Q5.out).mono ?_; rintro e w5 ⟨rfl, hG, hO⟩
  have G5 := Lib.hid hG
  clear hG hO
  go_wp2_with fail
  have Q6 : Hid (isS c s [119, 104, 105, 108, 101] = false) := HR.out _ (by decide) _
  refine (n_no [119, 104, 105, 108, 101] (by decide) G5.out Q6.out).mono ?_; rintro e w6 ⟨rfl, hG, hO⟩
  have G6 := Lib.hid hG
  clear hG hO
  go_wp2_with fail
  have Q7 : Hid (isS c s [100, 111] = false) := HR.out _ (by decide) _
  refine (n_no [100, 111] (by decide) G6.out Q7.out).mono ?_; rintro e w7 ⟨rfl, hG, hO⟩
  have G7 := Lib.hid hG
  clear hG hO
  go_wp2_with fail
  have Q8 : Hid (isS c s [102, 111, 114] = false) := HR.out _ (by decide) _
  refine (n_no [102, 111, 114] (by decide) G7.out Q8.out).mono ?_; rintro e w8 ⟨rfl, hG, hO⟩
  have G8 := Lib.hid hG
  clear hG hO
  go_wp2_with fail
  have Q9 : Hid (isS c s [116, 114, 121] = false) := HR.out _ (by decide) _
  refine (n_no [116, 114, 121] (by decide) G8.out Q9.out).mono ?_; rintro e w9 ⟨rfl, hG, hO⟩
  have G9 := Lib.hid hG
  clear hG hO
  go_wp2_with fail
  refine (n_run (t := .short) rfl rfl trivial G9.out (IH.out .short _ hg.out (mu_same (show (9 : Nat) < 10 by decide) (fun _ => (show (8 : Nat) < 9 by decide))))).mono ?_
  rintro e w10 ⟨r10, v10, rfl, hM, hG, hN, hW, hL, hO, hP⟩
  have M10 := Lib.hid hM
  have G10 := Lib.hid hG
  have W10 := Lib.hid hW
  clear hM hG hN hW hL hO hP
  go_wp2_with fail
  go_ret
  exact ⟨r10, _, MD.mk1 M10.out fun m h0 => by simp only [bodyM, bm, rm, Q1.out, Q2.out, Q3.out, Q4.out, Q5.out, Q6.out, Q7.out, Q8.out, Q9.out, h0, if_true, Bool.false_eq_true, if_false, true_and, and_true, and_self, false_and, or_true, Bool.true_eq_false, and_false, Int.reduceEq, false_or, or_false, true_or], rfl, G10.out.st, W10.out.mono G9.out.size⟩
 ·have Q12 := Lib.hid hq
  clear hq
  refine (n_yes [59] (by decide) G1.out Q12.out).mono ?_; rintro e w12 ⟨rfl, hG, hO⟩
  have G12 := Lib.hid hG
  clear hG hO
  go_wp2_with fail
  refine (n_make 5 [] 0 0 rfl (by decide) (by decide) G12.out (NO.nil _ 0)).mono ?_
  rintro e w14 ⟨v14, rfl, hW, hG, hB⟩
  have W14 := Lib.hid hW
  have G14 := Lib.hid hG
  clear hW hG hB
  go_wp2_with fail
  go_ret
  exact ⟨⟨mkL 5 [] 0 [], 0, s.up⟩, _, MD.mk0 fun m => by simp only [bodyM, bm, rm, Q1.out, Q12.out, if_true, Bool.false_eq_true, if_false, true_and, and_true, and_self, false_and, or_true, Bool.true_eq_false, and_false, Int.reduceEq, false_or, or_false, true_or], rfl, G14.out.st, W14.out.mono G12.out.size⟩
theorem d_list (c : Cr) (stop : List UInt8) (s : Ss) (hg : Gs c s) (HR0 : Rt c) (IH : Ih c (.list stop) s) : Ct c (.list stop) s := by
 intro ho
 have ho := Lib.hid ho
 intro w h
 have hc := Lib.hid h.ok
 have hfew := h.ok.few
 have G0 := Lib.hid (S3.init h hg HR0)
 have IH := Lib.hid IH
 have hg := Lib.hid hg
 clear h HR0
 go_enter Tryz.func249, Tryz.ntmps249
 go_wp2_with fail
 cases hq : isS c s stop
 ·have Q1 := Lib.hid hq
  clear hq
  refine (n_no stop ho.out G0.out Q1.out).mono ?_; rintro e w1 ⟨rfl, hG, hO⟩
  have G1 := Lib.hid hG
  clear hG hO
  go_wp2_with fail
  go_loopg [6, 7] (ml c s) (fun g ov nv wr => ∃ (sj : Ss) (n : Nat) (L : List LN), nv = .int .i64 (n : Int) ∧ g = ml c sj ∧ n ≤ c.ts.length + 1 ∧ Hid (S3 c w sj wr) ∧ Hid (Nle c s sj) ∧ Hid (NO wr w.heap.size ov L) ∧ Hid ((sj.bad < 0 → n ≤ sj.i ∧ L.length ≤ 100 * sj.i) ∧ L.length ≤ 100 * c.ts.length + 200) ∧ Hid (∀ r, MD c (.listL stop L n) sj r → MD c (.list stop) s r))
  case atStart => exact ⟨_, 0, [], rfl, rfl, by omega, G1.out, (Nle.refl hg.out), NO.nil _ _, ⟨fun _ => ⟨Nat.zero_le _, Nat.zero_le _⟩, Nat.zero_le _⟩, fun r hr => MD.mk1  hr fun m  h0 => by simp only [bodyM, bm, rm, Q1.out, h0, if_true, Bool.false_eq_true, if_false, true_and, and_true, and_self, false_and, or_true, Bool.true_eq_false, and_false, Int.reduceEq, false_or, or_false, true_or]⟩
  case round =>
   obtain ⟨sj, n, L, rfl, rfl, hn, GL, NL, WL, BL, DL⟩ := hrel
   have BX := Lib.hid (show L.length ≤ 1200000 by have := BL.out; omega)
   have c3 := GL.out.st.1.c3
   by_cases hb : sj.bad < 0
   ·have HB2 := Lib.hid hb
    have LV : Hid (s.bad < 0) := Nle.lv NL.out hb
    go_wp2_with fail
    refine (n_run (t := .assign) rfl rfl trivial GL.out (IH.out .assign _ NL.out.gs (mu_le NL.out (show (7 : Nat) < 9 by decide) (fun hb => absurd LV.out (by omega))))).mono ?_
    rintro e w3 ⟨r3, v3, rfl, hM, hG, hN, hW, hL, hO, hP⟩
    have M3 := Lib.hid hM
    have G3 := Lib.hid hG
    have W4 := Lib.hid (WL.out.off hO G0.out.lt)
    have W3 := Lib.hid hW
    have L3 := Lib.hid hL
    have P3 := Lib.hid hP
    have K5 : Hid (Nx c (sj) (r3.s)) := hN
    have J6 : Hid (Nx c sj (r3.s)) := K5.out
    have N7 : Hid (Nx c s (r3.s)) := NL.out.nx K5.out
    clear hM hG hN hW hL hO hP
    go_wp2_with fail
    refine (n_join (by have := BX.out; (try simp only [List.length_append, mk_len, List.length_nil] at *); omega) (by have := L3.out; (try simp only [List.length_append, mk_len, List.length_nil] at *); omega) G3.out W4.out W3.out).mono ?_
    rintro e w8 ⟨v8, rfl, hW, hG, hB⟩
    have W8 := Lib.hid hW
    have G8 := Lib.hid hG
    clear hW hG hB
    go_wp2_with fail
    cases hq : isS c r3.s stop
    ·have Q11 := Lib.hid hq
     clear hq
     refine (n_no stop ho.out G8.out Q11.out).mono ?_; rintro e w11 ⟨rfl, hG, hO⟩
     have G11 := Lib.hid hG
     have W12 := Lib.hid (W8.out.off hO G3.out.ltb)
     clear hG hO
     go_wp2_with fail
     refine (n_need [44] (by decide) G11.out).mono ?_; rintro e w13 ⟨rfl, hG, hO⟩
     have G13 := Lib.hid hG
     have W14 := Lib.hid (W12.out.off hO G3.out.ltb)
     clear hG hO
     have K15 : Hid (Nx c (r3.s) (needS c r3.s [44])) := (nx_need hc.out [44] (by decide) N7.out.gs)
     have J16 : Hid (Nx c sj (needS c r3.s [44])) := J6.out.nx K15.out
     have N17 : Hid (Nx c s (needS c r3.s [44])) := N7.out.nx K15.out
     go_wp2_with fail
     have hle := GL.out.st.1.le
     go_roundg (ml c (needS c r3.s [44]))
     case measure => exact ml_nx J16.out HB2.out hle
     case rel =>
      have h1 := BL.out.1 HB2.out
      refine ⟨needS c r3.s [44], n + 1, L ++ r3.l, rfl, rfl, by omega, G13.out, N17.out.le, W14.out.mono G3.out.size, ?_, fun r hr => DL.out r (MD.mk2 M3.out hr fun m h0 h1 => by simp only [bodyM, bm, rm, HB2.out, Q11.out, h0, h1, if_true, Bool.false_eq_true, if_false, true_and, and_true, and_self, false_and, or_true, Bool.true_eq_false, and_false, Int.reduceEq, false_or, or_false, true_or])⟩
      have hb := HB2.out
      have := N17.out.gs.1
      have := K5.out.live
      have := K5.out.dead
      have := K5.out.gs.1
      have := K15.out.live
      have := K15.out.dead
      have := K15.out.gs.1
      have := J6.out.live hb
      have := J16.out.live hb
      have t0 := P3.out.tri
      simp only [ac, dl, kp, lp, Bool.false_eq_true, false_or, true_or, and_true] at t0
      rcases t0 with t0 | t0 | t0
      all_goals exact ⟨fun hX => ⟨by omega, by (try simp only [List.length_append, mk_len, List.length_nil]); omega⟩, by (try simp only [List.length_append, mk_len, List.length_nil]); omega⟩
    ·have Q18 := Lib.hid hq
     clear hq
     refine (n_yes stop ho.out G8.out Q18.out).mono ?_; rintro e w18 ⟨rfl, hG, hO⟩
     have G18 := Lib.hid hG
     have W19 := Lib.hid (W8.out.off hO G3.out.ltb)
     clear hG hO
     go_wp2_with fail
     go_ret2
     exact ⟨⟨L ++ r3.l, (n + 1), r3.s.up⟩, _, DL.out _ (MD.mk1 M3.out fun m h0 => by simp only [bodyM, bm, rm, HB2.out, Q18.out, h0, if_true, Bool.false_eq_true, if_false, true_and, and_true, and_self, false_and, or_true, Bool.true_eq_false, and_false, Int.reduceEq, false_or, or_false, true_or]), rfl, G18.out.st, W19.out.mono G3.out.size⟩
   ·have HB23 := Lib.hid (Int.not_lt.1 hb)
    go_wp2_with fail
    go_ret2
    exact ⟨⟨[], 0, sj⟩, _, DL.out _ (MD.mk0 fun m => by simp only [bodyM, bm, rm, (Int.not_lt.2 HB23.out), if_true, Bool.false_eq_true, if_false, true_and, and_true, and_self, false_and, or_true, Bool.true_eq_false, and_false, Int.reduceEq, false_or, or_false, true_or]), rfl, GL.out.st, NO.nil _ _⟩
 ·have Q24 := Lib.hid hq
  clear hq
  refine (n_yes stop ho.out G0.out Q24.out).mono ?_; rintro e w24 ⟨rfl, hG, hO⟩
  have G24 := Lib.hid hG
  clear hG hO
  go_wp2_with fail
  go_ret2
  exact ⟨⟨[], 0, s.up⟩, _, MD.mk0 fun m => by simp only [bodyM, bm, rm, Q24.out, if_true, Bool.false_eq_true, if_false, true_and, and_true, and_self, false_and, or_true, Bool.true_eq_false, and_false, Int.reduceEq, false_or, or_false, true_or], rfl, G24.out.st, NO.nil _ _⟩
theorem d_expr (c : Cr) (s : Ss) (hg : Gs c s) (HR0 : Rt c) (IH : Ih c .expr s) : Ct c .expr s := by
 intro w h
 have hfew := h.ok.few
 have G0 := Lib.hid (S3.init h hg HR0)
 have IH := Lib.hid IH
 have hg := Lib.hid hg
 clear h HR0
 go_enter Tryz.func169, Tryz.ntmps169
 go_wp2_with fail
 refine (n_run (t := .assign) rfl rfl trivial G0.out (IH.out .assign _ hg.out (mu_same (show (7 : Nat) < 8 by decide) (fun _ => (show (6 : Nat) < 7 by decide))))).mono ?_
 rintro e w1 ⟨r1, v1, rfl, hM, hG, hN, hW, hL, hO, hP⟩
 have M1 := Lib.hid hM
 have G1 := Lib.hid hG
 have W1 := Lib.hid hW
 have P1 := Lib.hid hP
 have N2 : Hid (Nx c s (r1.s)) := hN
 clear hM hG hN hW hL hO hP
 go_wp2_with fail
 go_loopg [3] (ml c r1.s) (fun g xv wr => ∃ (sj : Ss) (L : List LN), g = ml c sj ∧ Hid (S3 c w sj wr) ∧ Hid (Nx c s sj) ∧ Hid (NO wr (w.heap.size) xv L) ∧ Hid ((sj.bad < 0 → L.length ≤ 100 * sj.i) ∧ L.length ≤ 100 * c.ts.length + 200) ∧ Hid (∀ r, MD c (.exprL L) sj r → MD c (.expr) s r))
 case atStart =>
  refine ⟨r1.s, r1.l, rfl, G1.out, N2.out, W1.out, ?_, fun r hr => MD.mk2 M1.out hr fun m h0 h1 => by simp only [bodyM, bm, rm, h0, h1, if_true, Bool.false_eq_true, if_false, true_and, and_true, and_self, false_and, or_true, Bool.true_eq_false, and_false, Int.reduceEq, false_or, or_false, true_or]⟩
  have t0 := P1.out.tri
  simp only [ac, dl, kp, lp, Bool.false_eq_true, false_or, true_or, and_true] at t0
  have := N2.out.gs.1
  rcases t0 with t0 | t0 | t0 <;> exact ⟨fun hX => by omega, by omega⟩
 case round =>
  obtain ⟨sj, L, rfl, GL, NL, WL, BL, DL⟩ := hrel
  have BX := Lib.hid (show L.length ≤ 1200000 by have := BL.out; omega)
  go_wp2_with fail
  cases hq : isS c sj [44]
  ·have Q3 := Lib.hid hq
   clear hq
   refine (n_no [44] (by decide) GL.out Q3.out).mono ?_; rintro e w3 ⟨rfl, hG, hO⟩
   have G3 := Lib.hid hG
   have W4 := Lib.hid (WL.out.off hO G0.out.lt)
   clear hG hO
   go_wp2_with fail
   go_ret
   exact ⟨⟨L, 0, sj⟩, _, DL.out _ (MD.mk0 fun m => by simp only [bodyM, bm, rm, Q3.out, if_true, Bool.false_eq_true, if_false, true_and, and_true, and_self, false_and, or_true, Bool.true_eq_false, and_false, Int.reduceEq, false_or, or_false, true_or]), rfl, G3.out.st, W4.out⟩
  ·have Q5 := Lib.hid hq
   clear hq
   refine (n_yes [44] (by decide) GL.out Q5.out).mono ?_; rintro e w5 ⟨rfl, hG, hO⟩
   have G5 := Lib.hid hG
   have W6 := Lib.hid (WL.out.off hO G0.out.lt)
   clear hG hO
   have LQ5 := Lib.hid (Gs.live NL.out.gs (isS_in (by decide) Q5.out))
   have K7 : Hid (Nx c (sj) (sj.up)) := (nx_up NL.out.gs (isS_in (by decide) Q5.out))
   have J8 : Hid (Nx c sj (sj.up)) := K7.out
   have N9 : Hid (Nx c s (sj.up)) := NL.out.nx K7.out
   go_wp2_with fail
   refine (n_run (t := .assign) rfl rfl trivial G5.out (IH.out .assign _ N9.out.gs (mu_nx N9.out (fun _ => (show (6 : Nat) < 7 by decide))))).mono ?_
   rintro e w10 ⟨r10, v10, rfl, hM, hG, hN, hW, hL, hO, hP⟩
   have M10 := Lib.hid hM
   have G10 := Lib.hid hG
   have W11 := Lib.hid (W6.out.off hO G0.out.lt)
   have W10 := Lib.hid hW
   have L10 := Lib.hid hL
   have P10 := Lib.hid hP
   have K12 : Hid (Nx c (sj.up) (r10.s)) := hN
   have J13 : Hid (Nx c sj (r10.s)) := J8.out.nx K12.out
   have N14 : Hid (Nx c s (r10.s)) := N9.out.nx K12.out
   clear hM hG hN hW hL hO hP
   go_wp2_with fail
   refine (n_join (by have := BX.out; (try simp only [List.length_append, mk_len, List.length_nil] at *); omega) (by have := L10.out; (try simp only [List.length_append, mk_len, List.length_nil] at *); omega) G10.out W11.out W10.out).mono ?_
   rintro e w15 ⟨v15, rfl, hW, hG, hB⟩
   have W15 := Lib.hid hW
   have G15 := Lib.hid hG
   have L15 := Lib.hid (show (L ++ r10.l).length ≤ 1700101 by have := BX.out; have := L10.out; (try simp only [List.length_append, mk_len, List.length_nil] at *); omega)
   clear hW hG hB
   go_wp2_with fail
   refine (n_make 42 [] 2 2 rfl (by decide) (by have := L15.out; (try simp only [List.length_append, mk_len, List.length_nil] at *); omega) G15.out W15.out).mono ?_
   rintro e w18 ⟨v18, rfl, hW, hG, hB⟩
   have W18 := Lib.hid hW
   have G18 := Lib.hid hG
   clear hW hG hB
   go_wp2_with fail
   have hle := GL.out.st.1.le
   go_roundg (ml c r10.s)
   case measure => exact ml_nx J13.out LQ5.out hle
   case rel =>
    have h1 := BL.out.1 LQ5.out
    refine ⟨r10.s, mkL 42 [] 2 (L ++ r10.l), rfl, G18.out, N14.out, W18.out.mono G15.out.size, ?_, fun r hr => DL.out r (MD.mk2 M10.out hr fun m h0 h1 => by simp only [bodyM, bm, rm, Q5.out, h0, h1, if_true, Bool.false_eq_true, if_false, true_and, and_true, and_self, false_and, or_true, Bool.true_eq_false, and_false, Int.reduceEq, false_or, or_false, true_or])⟩
    have h2 := BL.out.2
    have hb := LQ5.out
    have := up_f sj
    have := N14.out.gs.1
    have := K7.out.live
    have := K7.out.dead
    have := K7.out.gs.1
    have := K12.out.live
    have := K12.out.dead
    have := K12.out.gs.1
    have := LQ5.out
    have := J8.out.live hb
    have := J13.out.live hb
    have t0 := P10.out.tri
    simp only [ac, dl, kp, lp, Bool.false_eq_true, false_or, true_or, and_true] at t0
    rcases t0 with t0 | t0 | t0
    all_goals exact ⟨fun hX => by (try simp only [List.length_append, mk_len, List.length_nil]); omega, by (try simp only [List.length_append, mk_len, List.length_nil]); omega⟩
theorem d_assign (c : Cr) (s : Ss) (hg : Gs c s) (HR0 : Rt c) (IH : Ih c .assign s) : Ct c .assign s := by
 intro w h
 have hc := Lib.hid h.ok
 have hfew := h.ok.few
 have G0 := Lib.hid (S3.init h hg HR0)
 have IH := Lib.hid IH
 have hg := Lib.hid hg
 clear h HR0
 go_enter Tryz.func168, Tryz.ntmps168
 go_wp2_with fail
 refine (n_run (t := .cond) rfl rfl trivial G0.out (IH.out .cond _ hg.out (mu_same (show (6 : Nat) < 7 by decide) (fun _ => (show (5 : Nat) < 6 by decide))))).mono ?_
 rintro e w1 ⟨r1, v1, rfl, hM, hG, hN, hW, hL, hO, hP⟩
 have M1 := Lib.hid hM
 have G1 := Lib.hid hG
 have W1 := Lib.hid hW
 have L1 := Lib.hid hL
 have N2 : Hid (Nx c s (r1.s)) := hN
 clear hM hG hN hW hL hO hP
 go_wp2_with fail
 obtain ⟨X3, HX3⟩ : ∃ X, Hid (fx (c.T r1.s.i) = X) := ⟨_, rfl⟩
 refine (n_hereX G1.out HX3.out).mono ?_; rintro e w3 ⟨rfl, hG, hB⟩
 have G3 := Lib.hid hG
 have W4 := Lib.hid (W1.out.below hB)
 clear hG hB
 go_wp2_with fail
 refine (dsets_any X3 _).mono ?_; rintro e _ ⟨rfl, rfl⟩
 cases hq : setsL.contains X3
 ·have Q5 := Lib.hid hq
  clear hq
  go_wp2_with fail
  go_ret
  exact ⟨⟨r1.l, 0, r1.s⟩, _, MD.mk1 M1.out fun m h0 => by simp only [bodyM, bm, rm, HX3.out, Q5.out, h0, if_true, Bool.false_eq_true, if_false, true_and, and_true, and_self, false_and, or_true, Bool.true_eq_false, and_false, Int.reduceEq, false_or, or_false, true_or], rfl, G3.out.st, W4.out⟩
 ·have Q6 := Lib.hid hq
  clear hq
  have IN := Lib.hid (setsR_in (c := c) (k := r1.s.i) (by rw [HX3.out]; exact Q6.out))
  have LV : Hid (s.bad < 0) := Nle.lv N2.out.le (Gs.live N2.out.gs IN.out)
  go_wp2_with fail
  refine (n_target (by have := L1.out; (try simp only [List.length_append, mk_len, List.length_nil] at *); omega) G3.out W4.out).mono ?_; rintro e w7 ⟨rfl, hG, hB⟩
  have G7 := Lib.hid hG
  have W8 := Lib.hid (W4.out.below hB)
  clear hG hB
  cases hq : tgM r1.l
  ·have Q9 := Lib.hid hq
   clear hq
   go_wp2_with fail
   refine (n_stop G7.out).mono ?_; rintro e w10 ⟨rfl, hG, hO⟩
   have G10 := Lib.hid hG
   clear hG hO
   go_wp2_with fail
   go_ret
   exact ⟨⟨[], 0, stopS c r1.s⟩, _, MD.mk1 M1.out fun m h0 => by simp only [bodyM, bm, rm, HX3.out, Q6.out, Q9.out, h0, if_true, Bool.false_eq_true, if_false, true_and, and_true, and_self, false_and, or_true, Bool.true_eq_false, and_false, Int.reduceEq, false_or, or_false, true_or], rfl, G10.out.st, NO.nil _ _⟩
  ·have Q13 := Lib.hid hq
   clear hq
   have c1 := G7.out.st.1.c1
   have f1 := G7.out.st.1.fz 1
   have hin := IN.out
   have hfw := hc.out.few
   have S14 := Lib.hid (S3.inc G7.out hin)
   have W15 := Lib.hid (NO.setI W8.out G0.out.ltb (k := 1) (.int .i64 ((r1.s.i : Int) + 1)))
   go_wp2_with fail
   generalize World.setCell w7 ⟨c.b, 1, none⟩ (.int .i64 ((r1.s.i : Int) + 1)) = w14 at *
   have G14 := Lib.hid S14.out
   clear c1 f1 hin
   have N16 : Hid (Nx c s (r1.s.up)) := N2.out.nx (nx_up N2.out.gs IN.out)
   refine (n_run (t := .assign) rfl rfl trivial G14.out (IH.out .assign _ N16.out.gs (mu_nx N16.out (fun hb => absurd LV.out (by omega))))).mono ?_
   rintro e w17 ⟨r17, v17, rfl, hM, hG, hN, hW, hL, hO, hP⟩
   have M17 := Lib.hid hM
   have G17 := Lib.hid hG
   have W18 := Lib.hid (W15.out.off hO G0.out.ltb)
   have W17 := Lib.hid hW
   have L17 := Lib.hid hL
   clear hM hG hN hW hL hO hP
   go_wp2_with fail
   refine (n_join (by have := L1.out; (try simp only [List.length_append, mk_len, List.length_nil] at *); omega) (by have := L17.out; (try simp only [List.length_append, mk_len, List.length_nil] at *); omega) G17.out W18.out W17.out).mono ?_
   rintro e w20 ⟨v20, rfl, hW, hG, hB⟩
   have W20 := Lib.hid hW
   have G20 := Lib.hid hG
   have L20 := Lib.hid (show (r1.l ++ r17.l).length ≤ 1000201 by have := L1.out; have := L17.out; (try simp only [List.length_append, mk_len, List.length_nil] at *); omega)
   clear hW hG hB
   go_wp2_with fail
   refine (n_make 41 X3 2 2 rfl (by decide) (by have := L20.out; (try simp only [List.length_append, mk_len, List.length_nil] at *); omega) G20.out W20.out).mono ?_
   rintro e w23 ⟨v23, rfl, hW, hG, hB⟩
   have W23 := Lib.hid hW
   have G23 := Lib.hid hG
   clear hW hG hB
   go_wp2_with fail
   go_ret
   exact ⟨⟨mkL 41 X3 2 (r1.l ++ r17.l), 0, r17.s⟩, _, MD.mk2 M1.out M17.out fun m h0 h1 => by simp only [bodyM, bm, rm, HX3.out, Q6.out, Q13.out, h0, h1, if_true, Bool.false_eq_true, if_false, true_and, and_true, and_self, false_and, or_true, Bool.true_eq_false, and_false, Int.reduceEq, false_or, or_false, true_or], rfl, G23.out.st, W23.out.mono G20.out.size⟩
theorem d_binary (c : Cr) (least : Int) (s : Ss) (hg : Gs c s) (HR0 : Rt c) (IH : Ih c (.binary least) s) : Ct c (.binary least) s := by
 intro hl1 hl2
 intro w h
 have hc := Lib.hid h.ok
 have hfew := h.ok.few
 have G0 := Lib.hid (S3.init h hg HR0)
 have IH := Lib.hid IH
 have hg := Lib.hid hg
 clear h HR0
 go_enter Tryz.func221, Tryz.ntmps221
 go_wp2_with fail
 refine (n_run (t := .unary) rfl rfl trivial G0.out (IH.out .unary _ hg.out (mu_same (show (4 : Nat) < 5 by decide) (fun _ => (show (3 : Nat) < 4 by decide))))).mono ?_
 rintro e w1 ⟨r1, v1, rfl, hM, hG, hN, hW, hL, hO, hP⟩
 have M1 := Lib.hid hM
 have G1 := Lib.hid hG
 have W1 := Lib.hid hW
 have P1 := Lib.hid hP
 have N2 : Hid (Nx c s (r1.s)) := hN
 clear hM hG hN hW hL hO hP
 go_wp2_with fail
 go_loopg [5] (ml c r1.s) (fun g xv wr => ∃ (sj : Ss) (L : List LN), g = ml c sj ∧ Hid (S3 c w sj wr) ∧ Hid (Nx c s sj) ∧ Hid (NO wr (w.heap.size) xv L) ∧ Hid ((sj.bad < 0 → L.length ≤ 100 * sj.i) ∧ L.length ≤ 100 * c.ts.length + 200) ∧ Hid (∀ r, MD c (.binL least L) sj r → MD c (.binary least) s r))
 case atStart =>
  refine ⟨r1.s, r1.l, rfl, G1.out, N2.out, W1.out, ?_, fun r hr => MD.mk2 M1.out hr fun m h0 h1 => by simp only [bodyM, bm, rm, h0, h1, if_true, Bool.false_eq_true, if_false, true_and, and_true, and_self, false_and, or_true, Bool.true_eq_false, and_false, Int.reduceEq, false_or, or_false, true_or]⟩
  have t0 := P1.out.tri
  simp only [ac, dl, kp, lp, Bool.false_eq_true, false_or, true_or, and_true] at t0
  have := N2.out.gs.1
  rcases t0 with t0 | t0 | t0 <;> exact ⟨fun hX => by omega, by omega⟩
 case round =>
  obtain ⟨sj, L, rfl, GL, NL, WL, BL, DL⟩ := hrel
  have BX := Lib.hid (show L.length ≤ 1200000 by have := BL.out; omega)
  have c3 := GL.out.st.1.c3
  by_cases hb : sj.bad < 0
  ·have HB3 := Lib.hid hb
   have LV : Hid (s.bad < 0) := Nle.lv NL.out.le hb
   go_wp2_with fail
   obtain ⟨X4, HX4⟩ : ∃ X, Hid (fx (c.T sj.i) = X) := ⟨_, rfl⟩
   refine (n_hereX GL.out HX4.out).mono ?_; rintro e w4 ⟨rfl, hG, hB⟩
   have G4 := Lib.hid hG
   have W5 := Lib.hid (WL.out.below hB)
   clear hG hB
   go_wp2_with fail
   refine (dlevel_any X4 _).mono ?_; rintro e _ ⟨rfl, rfl⟩
   obtain ⟨kk, HK⟩ : ∃ kk, Hid (levelI X4 = kk) := ⟨_, rfl⟩
   rw [HK.out]
   have hkr := level_range X4
   rw [HK.out] at hkr
   by_cases hk : kk < least
   ·have HC := Lib.hid hk
    go_wp2_with fail
    go_ret
    exact ⟨⟨L, 0, sj⟩, _, DL.out _ (MD.mk0 fun m => by simp only [bodyM, bm, rm, HB3.out, HX4.out, HK.out, (show kk < least ∨ kk = 0 from .inl HC.out), if_true, Bool.false_eq_true, if_false, true_and, and_true, and_self, false_and, or_true, Bool.true_eq_false, and_false, Int.reduceEq, false_or, or_false, true_or]), rfl, G4.out.st, W5.out⟩
   by_cases hk : kk = 0
   ·subst hk
    go_wp2_with fail
    go_ret
    exact ⟨⟨L, 0, sj⟩, _, DL.out _ (MD.mk0 fun m => by simp only [bodyM, bm, rm, HB3.out, HX4.out, HK.out, (show (0 : Int) < least ∨ (0 : Int) = 0 from .inr rfl), if_true, Bool.false_eq_true, if_false, true_and, and_true, and_self, false_and, or_true, Bool.true_eq_false, and_false, Int.reduceEq, false_or, or_false, true_or]), rfl, G4.out.st, W5.out⟩
   by_cases hk : kk ≤ 2
   ·have hk0 : (kk == 0) = false := beq_eq_false_iff_ne.2 (by omega)
    have HC := Lib.hid (show least ≤ kk ∧ 1 ≤ kk by omega)
    have HK2 := Lib.hid hk
    have IN := Lib.hid (levR_in (c := c) (k := sj.i) (l := least) (by rw [HX4.out, HK.out]; exact (show ¬ (kk < least ∨ kk = 0) by have := HC.out; omega)))
    have c1 := G4.out.st.1.c1
    have f1 := G4.out.st.1.fz 1
    have hin := IN.out
    have hfw := hc.out.few
    have S7 := Lib.hid (S3.inc G4.out hin)
    have W8 := Lib.hid (NO.setI W5.out G0.out.lt (k := 1) (.int .i64 ((sj.i : Int) + 1)))
    go_wp2_with fail
    generalize World.setCell w4 ⟨c.b, 1, none⟩ (.int .i64 ((sj.i : Int) + 1)) = w7 at *
    have G7 := Lib.hid S7.out
    clear c1 f1 hin
    have K9 : Hid (Nx c (sj) (sj.up)) := (nx_up NL.out.gs IN.out)
    have J10 : Hid (Nx c sj (sj.up)) := K9.out
    have N11 : Hid (Nx c s (sj.up)) := NL.out.nx K9.out
    refine (n_run (t := (.binary (kk + 1))) rfl rfl trivial G7.out (IH.out (.binary (kk + 1)) _ N11.out.gs (mu_nx N11.out (fun hb => absurd LV.out (by omega))) (by omega) (by omega))).mono ?_
    rintro e w12 ⟨r12, v12, rfl, hM, hG, hN, hW, hL, hO, hP⟩
    have M12 := Lib.hid hM
    have G12 := Lib.hid hG
    have W13 := Lib.hid (W8.out.off hO G0.out.lt)
    have W12 := Lib.hid hW
    have L12 := Lib.hid hL
    have P12 := Lib.hid hP
    have K14 : Hid (Nx c (sj.up) (r12.s)) := hN
    have J15 : Hid (Nx c sj (r12.s)) := J10.out.nx K14.out
    have N16 : Hid (Nx c s (r12.s)) := N11.out.nx K14.out
    clear hM hG hN hW hL hO hP
    go_wp2_with fail
    refine (n_join (by have := BX.out; (try simp only [List.length_append, mk_len, List.length_nil] at *); omega) (by have := L12.out; (try simp only [List.length_append, mk_len, List.length_nil] at *); omega) G12.out W13.out W12.out).mono ?_
    rintro e w17 ⟨v17, rfl, hW, hG, hB⟩
    have W17 := Lib.hid hW
    have G17 := Lib.hid hG
    have L17 := Lib.hid (show (L ++ r12.l).length ≤ 1700101 by have := BX.out; have := L12.out; (try simp only [List.length_append, mk_len, List.length_nil] at *); omega)
    clear hW hG hB
    go_wp2_with fail
    refine (n_make 39 X4 2 2 rfl (by decide) (by have := L17.out; (try simp only [List.length_append, mk_len, List.length_nil] at *); omega) G17.out W17.out).mono ?_
    rintro e w20 ⟨v20, rfl, hW, hG, hB⟩
    have W20 := Lib.hid hW
    have G20 := Lib.hid hG
    clear hW hG hB
    go_wp2_with fail
    have hle := GL.out.st.1.le
    go_roundg (ml c r12.s)
    case measure => exact ml_nx J15.out HB3.out hle
    case rel =>
     have h1 := BL.out.1 HB3.out
     refine ⟨r12.s, mkL 39 X4 2 (L ++ r12.l), rfl, G20.out, N16.out, W20.out.mono G17.out.size, ?_, fun r hr => DL.out r (MD.mk2 M12.out hr fun m h0 h1 => by simp only [bodyM, bm, rm, HB3.out, HX4.out, HK.out, (show ¬ (kk < least ∨ kk = 0) by have := HC.out; omega), HK2.out, h0, h1, if_true, Bool.false_eq_true, if_false, true_and, and_true, and_self, false_and, or_true, Bool.true_eq_false, and_false, Int.reduceEq, false_or, or_false, true_or])⟩
     have h2 := BL.out.2
     have hb := HB3.out
     have := up_f sj
     have := N16.out.gs.1
     have := K9.out.live
     have := K9.out.dead
     have := K9.out.gs.1
     have := K14.out.live
     have := K14.out.dead
     have := K14.out.gs.1
     have := J10.out.live hb
     have := J15.out.live hb
     have t0 := P12.out.tri
     simp only [ac, dl, kp, lp, Bool.false_eq_true, false_or, true_or, and_true] at t0
     rcases t0 with t0 | t0 | t0
     all_goals exact ⟨fun hX => by (try simp only [List.length_append, mk_len, List.length_nil]); omega, by (try simp only [List.length_append, mk_len, List.length_nil]); omega⟩
   have hk0 : (kk == 0) = false := beq_eq_false_iff_ne.2 (by omega)
   have HC := Lib.hid (show least ≤ kk ∧ 1 ≤ kk by omega)
   have HK2 := Lib.hid (show 3 ≤ kk by omega)
   have IN := Lib.hid (levR_in (c := c) (k := sj.i) (l := least) (by rw [HX4.out, HK.out]; exact (show ¬ (kk < least ∨ kk = 0) by have := HC.out; omega)))
   have c1 := G4.out.st.1.c1
   have f1 := G4.out.st.1.fz 1
   have hin := IN.out
   have hfw := hc.out.few
   have S22 := Lib.hid (S3.inc G4.out hin)
   have W23 := Lib.hid (NO.setI W5.out G0.out.lt (k := 1) (.int .i64 ((sj.i : Int) + 1)))
   go_wp2_with fail
   generalize World.setCell w4 ⟨c.b, 1, none⟩ (.int .i64 ((sj.i : Int) + 1)) = w22 at *
   have G22 := Lib.hid S22.out
   clear c1 f1 hin
   have K24 : Hid (Nx c (sj) (sj.up)) := (nx_up NL.out.gs IN.out)
   have J25 : Hid (Nx c sj (sj.up)) := K24.out
   have N26 : Hid (Nx c s (sj.up)) := NL.out.nx K24.out
   refine (n_run (t := (.binary (kk + 1))) rfl rfl trivial G22.out (IH.out (.binary (kk + 1)) _ N26.out.gs (mu_nx N26.out (fun hb => absurd LV.out (by omega))) (by omega) (by omega))).mono ?_
   rintro e w27 ⟨r27, v27, rfl, hM, hG, hN, hW, hL, hO, hP⟩
   have M27 := Lib.hid hM
   have G27 := Lib.hid hG
   have W28 := Lib.hid (W23.out.off hO G0.out.lt)
   have W27 := Lib.hid hW
   have L27 := Lib.hid hL
   have P27 := Lib.hid hP
   have K29 : Hid (Nx c (sj.up) (r27.s)) := hN
   have J30 : Hid (Nx c sj (r27.s)) := J25.out.nx K29.out
   have N31 : Hid (Nx c s (r27.s)) := N26.out.nx K29.out
   clear hM hG hN hW hL hO hP
   go_wp2_with fail
   refine (n_join (by have := BX.out; (try simp only [List.length_append, mk_len, List.length_nil] at *); omega) (by have := L27.out; (try simp only [List.length_append, mk_len, List.length_nil] at *); omega) G27.out W28.out W27.out).mono ?_
   rintro e w32 ⟨v32, rfl, hW, hG, hB⟩
   have W32 := Lib.hid hW
   have G32 := Lib.hid hG
   have L32 := Lib.hid (show (L ++ r27.l).length ≤ 1700101 by have := BX.out; have := L27.out; (try simp only [List.length_append, mk_len, List.length_nil] at *); omega)
   clear hW hG hB
   go_wp2_with fail
   refine (n_make 38 X4 2 2 rfl (by decide) (by have := L32.out; (try simp only [List.length_append, mk_len, List.length_nil] at *); omega) G32.out W32.out).mono ?_
   rintro e w35 ⟨v35, rfl, hW, hG, hB⟩
   have W35 := Lib.hid hW
   have G35 := Lib.hid hG
   clear hW hG hB
   go_wp2_with fail
   have hle := GL.out.st.1.le
   go_roundg (ml c r27.s)
   case measure => exact ml_nx J30.out HB3.out hle
   case rel =>
    have h1 := BL.out.1 HB3.out
    refine ⟨r27.s, mkL 38 X4 2 (L ++ r27.l), rfl, G35.out, N31.out, W35.out.mono G32.out.size, ?_, fun r hr => DL.out r (MD.mk2 M27.out hr fun m h0 h1 => by simp only [bodyM, bm, rm, HB3.out, HX4.out, HK.out, (show ¬ (kk < least ∨ kk = 0) by have := HC.out; omega), (show ¬ kk ≤ 2 by have := HK2.out; omega), h0, h1, if_true, Bool.false_eq_true, if_false, true_and, and_true, and_self, false_and, or_true, Bool.true_eq_false, and_false, Int.reduceEq, false_or, or_false, true_or])⟩
    have h2 := BL.out.2
    have hb := HB3.out
    have := up_f sj
    have := N31.out.gs.1
    have := K24.out.live
    have := K24.out.dead
    have := K24.out.gs.1
    have := K29.out.live
    have := K29.out.dead
    have := K29.out.gs.1
    have := J25.out.live hb
    have := J30.out.live hb
    have t0 := P27.out.tri
    simp only [ac, dl, kp, lp, Bool.false_eq_true, false_or, true_or, and_true] at t0
    rcases t0 with t0 | t0 | t0
    all_goals exact ⟨fun hX => by (try simp only [List.length_append, mk_len, List.length_nil]); omega, by (try simp only [List.length_append, mk_len, List.length_nil]); omega⟩
  ·have HB37 := Lib.hid (Int.not_lt.1 hb)
   go_wp2_with fail
   go_ret
   exact ⟨⟨[], 0, sj⟩, _, DL.out _ (MD.mk0 fun m => by simp only [bodyM, bm, rm, (Int.not_lt.2 HB37.out), if_true, Bool.false_eq_true, if_false, true_and, and_true, and_self, false_and, or_true, Bool.true_eq_false, and_false, Int.reduceEq, false_or, or_false, true_or]), rfl, GL.out.st, NO.nil _ _⟩
theorem d_first (c : Cr) (s : Ss) (hg : Gs c s) (HR0 : Rt c) (IH : Ih c .first s) : Ct c .first s := by
 intro w h
 have hfew := h.ok.few
 have G0 := Lib.hid (S3.init h hg HR0)
 have HR := Lib.hid HR0
 have IH := Lib.hid IH
 have hg := Lib.hid hg
 clear h HR0
 go_enter Tryz.func244, Tryz.ntmps244
 go_wp2_with fail
 have Q1 : Hid (isS c s [110, 101, 119] = false) := HR.out _ (by decide) _
 refine (n_no [110, 101, 119] (by decide) G0.out Q1.out).mono ?_; rintro e w1 ⟨rfl, hG, hO⟩
 have G1 := Lib.hid hG
 clear hG hO
 go_wp2_with fail
 refine (n_run (t := .primary) rfl rfl trivial G1.out (IH.out .primary _ hg.out (mu_same (show (2 : Nat) < 3 by decide) (fun _ => (show (1 : Nat) < 2 by decide))))).mono ?_
 rintro e w2 ⟨r2, v2, rfl, hM, hG, hN, hW, hL, hO, hP⟩
 have M2 := Lib.hid hM
 have G2 := Lib.hid hG
 have W2 := Lib.hid hW
 clear hM hG hN hW hL hO hP
 go_wp2_with fail
 go_ret
 exact ⟨r2, _, MD.mk1 M2.out fun m h0 => by simp only [bodyM, bm, rm, Q1.out, h0, if_true, Bool.false_eq_true, if_false, true_and, and_true, and_self, false_and, or_true, Bool.true_eq_false, and_false, Int.reduceEq, false_or, or_false, true_or], rfl, G2.out.st, W2.out.mono G1.out.size⟩
theorem d_primary (c : Cr) (s : Ss) (hg : Gs c s) (HR0 : Rt c) (IH : Ih c .primary s) : Ct c .primary s := by
 intro w h
 have hc := Lib.hid h.ok
 have hfew := h.ok.few
 have G0 := Lib.hid (S3.init h hg HR0)
 have HR := Lib.hid HR0
 have IH := Lib.hid IH
 have hg := Lib.hid hg
 clear h HR0
 go_enter Tryz.func250, Tryz.ntmps250
 go_wp2_with fail
 have Q1 : Hid (isS c s [116, 104, 105, 115] = false) := HR.out _ (by decide) _
 refine (n_no [116, 104, 105, 115] (by decide) G0.out Q1.out).mono ?_; rintro e w1 ⟨rfl, hG, hO⟩
 have G1 := Lib.hid hG
 clear hG hO
 go_wp2_with fail
 have Q2 : Hid (isS c s [110, 117, 108, 108] = false) := HR.out _ (by decide) _
 refine (n_no [110, 117, 108, 108] (by decide) G1.out Q2.out).mono ?_; rintro e w2 ⟨rfl, hG, hO⟩
 have G2 := Lib.hid hG
 clear hG hO
 go_wp2_with fail
 have Q3 : Hid (isS c s [116, 114, 117, 101] = false) := HR.out _ (by decide) _
 refine (n_no [116, 114, 117, 101] (by decide) G2.out Q3.out).mono ?_; rintro e w3 ⟨rfl, hG, hO⟩
 have G3 := Lib.hid hG
 clear hG hO
 go_wp2_with fail
 have Q4 : Hid (isS c s [102, 97, 108, 115, 101] = false) := HR.out _ (by decide) _
 refine (n_no [102, 97, 108, 115, 101] (by decide) G3.out Q4.out).mono ?_; rintro e w4 ⟨rfl, hG, hO⟩
 have G4 := Lib.hid hG
 clear hG hO
 go_wp2_with fail
 refine (n_is [40] (by decide) G4.out).mono ?_; rintro e w5 ⟨rfl, hG, hB⟩
 have G5 := Lib.hid hG
 clear hG hB
 cases hq : isS c s [40]
 ·have Q6 := Lib.hid hq
  clear hq
  go_wp2_with fail
  cases hq : isS c s [91]
  ·have Q7 := Lib.hid hq
   clear hq
   refine (n_no [91] (by decide) G5.out Q7.out).mono ?_; rintro e w7 ⟨rfl, hG, hO⟩
   have G7 := Lib.hid hG
   clear hG hO
   go_wp2_with fail
   have Q8 : Hid (isS c s [123] = false) := HR.out _ (by decide) _
   refine (n_no [123] (by decide) G7.out Q8.out).mono ?_; rintro e w8 ⟨rfl, hG, hO⟩
   have G8 := Lib.hid hG
   clear hG hO
   go_wp2_with fail
   have Q9 : Hid (isS c s [102, 117, 110, 99, 116, 105, 111, 110] = false) := HR.out _ (by decide) _
   refine (n_no [102, 117, 110, 99, 116, 105, 111, 110] (by decide) G8.out Q9.out).mono ?_; rintro e w9 ⟨rfl, hG, hO⟩
   have G9 := Lib.hid hG
   clear hG hO
   go_wp2_with fail
   by_cases hk10 : (c.T s.i).kind = 1
   ·have HK11 := Lib.hid hk10
    clear hk10
    have IN := Lib.hid (kind_inR (c := c) (k := s.i) (by rw [HK11.out]; decide))
    have LV : Hid (s.bad < 0) := Nle.lv (Nle.refl hg.out) (Gs.live hg.out IN.out)
    refine (n_kindX G9.out HK11.out).mono ?_; rintro e w11 ⟨rfl, hG, hB⟩
    have G11 := Lib.hid hG
    clear hG hB
    have hba : Below w11.heap.size w11 (w11.alloc (.cells #[.int .i64 0, .int .i64 0, .string ⟨#[]⟩, .int .u64 0] 42)) := (Below.refl _ _).alloc (Nat.le_refl _) _
    have hbv : Below w11.heap.size w11 (w11.alloc (.cells #[.int .i64 (c.T s.i).kind, .int .i64 (c.T s.i).pos, .string (bs (c.T s.i).text), .int .u64 (c.T s.i).bits] 42)).drew := ((Below.refl _ _).alloc (Nat.le_refl _) _).drew
    have GA12 := Lib.hid (G11.out.below hba)
    have GV12 := Lib.hid (G11.out.below hbv)
    have BV12 : Hid (B4 (w11.alloc (.cells #[.int .i64 (c.T s.i).kind, .int .i64 (c.T s.i).pos, .string (bs (c.T s.i).text), .int .u64 (c.T s.i).bits] 42)).drew w11.heap.size (.int .i64 (c.T s.i).kind) (.int .i64 (c.T s.i).pos) (.string (bs (c.T s.i).text)) (.int .u64 (c.T s.i).bits)) := B4.new w11 _ _ _ _
    have c0 := GA12.out.st.1.c0
    rw [hc.out.form (by have := IN.out; omega)] at c0
    have c1 := GA12.out.st.1.c1
    obtain ⟨d0, d1, d2, d3⟩ := GA12.out.st.1.at _ IN.out
    have e0 := G11.out.st.1.c0
    rw [hc.out.form (by have := IN.out; omega)] at e0
    have e1 := G11.out.st.1.c1
    obtain ⟨f0, f1, f2, f3⟩ := G11.out.st.1.at _ IN.out
    have hin := IN.out
    have hie : (s.i : Int) < (c.ts.length : Int) := by omega
    have b4 := B4.new w11 (.int .i64 0) (.int .i64 0) (.string ⟨#[]⟩) (.int .u64 0)
    have z0 := b4.c0; have z1 := b4.c1; have z2 := b4.c2; have z3 := b4.c3
    clear hba hbv
    go_wp2_with fail
    go_region
    clear b4 z0 z1 z2 z3 c0 c1 d0 d1 d2 d3 e0 e1 f0 f1 f2 f3
    generalize (w11.alloc (.cells #[.int .i64 (c.T s.i).kind, .int .i64 (c.T s.i).pos, .string (bs (c.T s.i).text), .int .u64 (c.T s.i).bits] 42)).drew = w12 at *
    have G12 := Lib.hid GV12.out
    have q1 := G12.out.st.1.c1
    have y1 := G12.out.st.1.fz 1
    have GS13 := Lib.hid (S3.inc G12.out hin)
    have hgb : w11.heap.size ≠ c.b := by have := G11.out.ltb; omega
    have BS13 := Lib.hid (BV12.out.far (p := ⟨c.b, 1, none⟩) hgb (.int .i64 ((s.i : Int) + 1)))
    clear BV12 GV12 GA12
    have x2 := BS13.out.c2; have x3 := BS13.out.c3
    go_wp2_with fail
    generalize World.setCell w12 ⟨c.b, 1, none⟩ (.int .i64 ((s.i : Int) + 1)) = w13 at *
    have G13 := Lib.hid GS13.out
    clear q1 y1 GS13 BS13 x2 x3
    refine (n_make 27 ((c.T s.i).text) 0 0 rfl (by decide) (by decide) G13.out (NO.nil _ 0)).mono ?_
    rintro e w15 ⟨v15, rfl, hW, hG, hB⟩
    have W15 := Lib.hid hW
    have G15 := Lib.hid hG
    clear hW hG hB
    go_wp2_with fail
    go_ret
    exact ⟨⟨mkL 27 ((c.T s.i).text) 0 [], 0, s.up⟩, _, MD.mk0 fun m => by simp only [bodyM, bm, rm, Q1.out, Q2.out, Q3.out, Q4.out, Q6.out, Q7.out, Q8.out, Q9.out, HK11.out, if_true, Bool.false_eq_true, if_false, true_and, and_true, and_self, false_and, or_true, Bool.true_eq_false, and_false, Int.reduceEq, false_or, or_false, true_or], rfl, G15.out.st, W15.out.mono G13.out.size⟩
   by_cases hk16 : (c.T s.i).kind = 3
   ·have HK17 := Lib.hid hk16
    clear hk16
    have IN := Lib.hid (kind_inR (c := c) (k := s.i) (by rw [HK17.out]; decide))
    have LV : Hid (s.bad < 0) := Nle.lv (Nle.refl hg.out) (Gs.live hg.out IN.out)
    refine (n_kindX G9.out HK17.out).mono ?_; rintro e w17 ⟨rfl, hG, hB⟩
    have G17 := Lib.hid hG
    clear hG hB
    have hba : Below w17.heap.size w17 (w17.alloc (.cells #[.int .i64 0, .int .i64 0, .string ⟨#[]⟩, .int .u64 0] 42)) := (Below.refl _ _).alloc (Nat.le_refl _) _
    have hbv : Below w17.heap.size w17 (w17.alloc (.cells #[.int .i64 (c.T s.i).kind, .int .i64 (c.T s.i).pos, .string (bs (c.T s.i).text), .int .u64 (c.T s.i).bits] 42)).drew := ((Below.refl _ _).alloc (Nat.le_refl _) _).drew
    have GA18 := Lib.hid (G17.out.below hba)
    have GV18 := Lib.hid (G17.out.below hbv)
    have BV18 : Hid (B4 (w17.alloc (.cells #[.int .i64 (c.T s.i).kind, .int .i64 (c.T s.i).pos, .string (bs (c.T s.i).text), .int .u64 (c.T s.i).bits] 42)).drew w17.heap.size (.int .i64 (c.T s.i).kind) (.int .i64 (c.T s.i).pos) (.string (bs (c.T s.i).text)) (.int .u64 (c.T s.i).bits)) := B4.new w17 _ _ _ _
    have c0 := GA18.out.st.1.c0
    rw [hc.out.form (by have := IN.out; omega)] at c0
    have c1 := GA18.out.st.1.c1
    obtain ⟨d0, d1, d2, d3⟩ := GA18.out.st.1.at _ IN.out
    have e0 := G17.out.st.1.c0
    rw [hc.out.form (by have := IN.out; omega)] at e0
    have e1 := G17.out.st.1.c1
    obtain ⟨f0, f1, f2, f3⟩ := G17.out.st.1.at _ IN.out
    have hin := IN.out
    have hie : (s.i : Int) < (c.ts.length : Int) := by omega
    have b4 := B4.new w17 (.int .i64 0) (.int .i64 0) (.string ⟨#[]⟩) (.int .u64 0)
    have z0 := b4.c0; have z1 := b4.c1; have z2 := b4.c2; have z3 := b4.c3
    clear hba hbv
    go_wp2_with fail
    go_region
    clear b4 z0 z1 z2 z3 c0 c1 d0 d1 d2 d3 e0 e1 f0 f1 f2 f3
    generalize (w17.alloc (.cells #[.int .i64 (c.T s.i).kind, .int .i64 (c.T s.i).pos, .string (bs (c.T s.i).text), .int .u64 (c.T s.i).bits] 42)).drew = w18 at *
    have G18 := Lib.hid GV18.out
    have q1 := G18.out.st.1.c1
    have y1 := G18.out.st.1.fz 1
    have GS19 := Lib.hid (S3.inc G18.out hin)
    have hgb : w17.heap.size ≠ c.b := by have := G17.out.ltb; omega
    have BS19 := Lib.hid (BV18.out.far (p := ⟨c.b, 1, none⟩) hgb (.int .i64 ((s.i : Int) + 1)))
    clear BV18 GV18 GA18
    have x2 := BS19.out.c2; have x3 := BS19.out.c3
    go_wp2_with fail
    generalize World.setCell w18 ⟨c.b, 1, none⟩ (.int .i64 ((s.i : Int) + 1)) = w19 at *
    have G19 := Lib.hid GS19.out
    have BT19 := Lib.hid BS19.out
    clear q1 y1 GS19 BS19 x2 x3
    refine (n_make 21 [] 0 0 rfl (by decide) (by decide) G19.out (NO.nil _ 0)).mono ?_
    rintro e w21 ⟨v21, rfl, hW, hG, hB⟩
    have W21 := Lib.hid hW
    have B21 := Lib.hid hB
    clear hW hG hB
    have t3 := (BT19.out.stay B21.out).c3
    obtain ⟨g22, cp22, rfl, hg22, hgl22, cb22, fb22, hs22⟩ := W21.out.bitsAt
    have ST22 := Lib.hid (hs22 (c.T s.i).bits)
    clear hs22
    have GS22 := Lib.hid (G19.out.below ((B21.out).setCell (p := ⟨g22, 4, none⟩) hg22 (.int .u64 (c.T s.i).bits)))
    go_wp2_with fail
    generalize World.setCell w21 ⟨g22, 4, none⟩ (.int .u64 (c.T s.i).bits) = w22 at *
    have G22 := Lib.hid GS22.out
    have W22 := Lib.hid ST22.out
    go_ret
    exact ⟨⟨[⟨21, 0, 1, [], (c.T s.i).bits⟩], 0, s.up⟩, _, MD.mk0 fun m => by simp only [bodyM, bm, rm, Q1.out, Q2.out, Q3.out, Q4.out, Q6.out, Q7.out, Q8.out, Q9.out, HK17.out, if_true, Bool.false_eq_true, if_false, true_and, and_true, and_self, false_and, or_true, Bool.true_eq_false, and_false, Int.reduceEq, false_or, or_false, true_or], rfl, G22.out.st, W22.out.mono G19.out.size⟩
   by_cases hk23 : (c.T s.i).kind = 4
   ·have HK24 := Lib.hid hk23
    clear hk23
    have IN := Lib.hid (kind_inR (c := c) (k := s.i) (by rw [HK24.out]; decide))
    have LV : Hid (s.bad < 0) := Nle.lv (Nle.refl hg.out) (Gs.live hg.out IN.out)
    refine (n_kindX G9.out HK24.out).mono ?_; rintro e w24 ⟨rfl, hG, hB⟩
    have G24 := Lib.hid hG
    clear hG hB
    have hba : Below w24.heap.size w24 (w24.alloc (.cells #[.int .i64 0, .int .i64 0, .string ⟨#[]⟩, .int .u64 0] 42)) := (Below.refl _ _).alloc (Nat.le_refl _) _
    have hbv : Below w24.heap.size w24 (w24.alloc (.cells #[.int .i64 (c.T s.i).kind, .int .i64 (c.T s.i).pos, .string (bs (c.T s.i).text), .int .u64 (c.T s.i).bits] 42)).drew := ((Below.refl _ _).alloc (Nat.le_refl _) _).drew
    have GA25 := Lib.hid (G24.out.below hba)
    have GV25 := Lib.hid (G24.out.below hbv)
    have BV25 : Hid (B4 (w24.alloc (.cells #[.int .i64 (c.T s.i).kind, .int .i64 (c.T s.i).pos, .string (bs (c.T s.i).text), .int .u64 (c.T s.i).bits] 42)).drew w24.heap.size (.int .i64 (c.T s.i).kind) (.int .i64 (c.T s.i).pos) (.string (bs (c.T s.i).text)) (.int .u64 (c.T s.i).bits)) := B4.new w24 _ _ _ _
    have c0 := GA25.out.st.1.c0
    rw [hc.out.form (by have := IN.out; omega)] at c0
    have c1 := GA25.out.st.1.c1
    obtain ⟨d0, d1, d2, d3⟩ := GA25.out.st.1.at _ IN.out
    have e0 := G24.out.st.1.c0
    rw [hc.out.form (by have := IN.out; omega)] at e0
    have e1 := G24.out.st.1.c1
    obtain ⟨f0, f1, f2, f3⟩ := G24.out.st.1.at _ IN.out
    have hin := IN.out
    have hie : (s.i : Int) < (c.ts.length : Int) := by omega
    have b4 := B4.new w24 (.int .i64 0) (.int .i64 0) (.string ⟨#[]⟩) (.int .u64 0)
    have z0 := b4.c0; have z1 := b4.c1; have z2 := b4.c2; have z3 := b4.c3
    clear hba hbv
    go_wp2_with fail
    go_region
    clear b4 z0 z1 z2 z3 c0 c1 d0 d1 d2 d3 e0 e1 f0 f1 f2 f3
    generalize (w24.alloc (.cells #[.int .i64 (c.T s.i).kind, .int .i64 (c.T s.i).pos, .string (bs (c.T s.i).text), .int .u64 (c.T s.i).bits] 42)).drew = w25 at *
    have G25 := Lib.hid GV25.out
    have q1 := G25.out.st.1.c1
    have y1 := G25.out.st.1.fz 1
    have GS26 := Lib.hid (S3.inc G25.out hin)
    have hgb : w24.heap.size ≠ c.b := by have := G24.out.ltb; omega
    have BS26 := Lib.hid (BV25.out.far (p := ⟨c.b, 1, none⟩) hgb (.int .i64 ((s.i : Int) + 1)))
    clear BV25 GV25 GA25
    have x2 := BS26.out.c2; have x3 := BS26.out.c3
    go_wp2_with fail
    generalize World.setCell w25 ⟨c.b, 1, none⟩ (.int .i64 ((s.i : Int) + 1)) = w26 at *
    have G26 := Lib.hid GS26.out
    clear q1 y1 GS26 BS26 x2 x3
    refine (n_make 22 ((c.T s.i).text) 0 0 rfl (by decide) (by decide) G26.out (NO.nil _ 0)).mono ?_
    rintro e w28 ⟨v28, rfl, hW, hG, hB⟩
    have W28 := Lib.hid hW
    have G28 := Lib.hid hG
    clear hW hG hB
    go_wp2_with fail
    go_ret
    exact ⟨⟨mkL 22 ((c.T s.i).text) 0 [], 0, s.up⟩, _, MD.mk0 fun m => by simp only [bodyM, bm, rm, Q1.out, Q2.out, Q3.out, Q4.out, Q6.out, Q7.out, Q8.out, Q9.out, HK24.out, if_true, Bool.false_eq_true, if_false, true_and, and_true, and_self, false_and, or_true, Bool.true_eq_false, and_false, Int.reduceEq, false_or, or_false, true_or], rfl, G28.out.st, W28.out.mono G26.out.size⟩
   obtain ⟨kx, HKX⟩ : ∃ X, Hid ((c.T s.i).kind = X) := ⟨_, rfl⟩
   rw [HKX.out] at hk10
   have hk10b : (kx == 1) = false := beq_eq_false_iff_ne.2 hk10
   have hk10n : (kx != 1) = true := bne_iff_ne.2 hk10
   have hk10 := Lib.hid hk10
   rw [HKX.out] at hk16
   have hk16b : (kx == 3) = false := beq_eq_false_iff_ne.2 hk16
   have hk16n : (kx != 3) = true := bne_iff_ne.2 hk16
   have hk16 := Lib.hid hk16
   rw [HKX.out] at hk23
   have hk23b : (kx == 4) = false := beq_eq_false_iff_ne.2 hk23
   have hk23n : (kx != 4) = true := bne_iff_ne.2 hk23
   have hk23 := Lib.hid hk23
   refine (n_kindX G9.out HKX.out).mono ?_; rintro e w29 ⟨rfl, hG, hB⟩
   have G29 := Lib.hid hG
   clear hG hB
   go_wp2_with fail
   refine (n_stop G29.out).mono ?_; rintro e w30 ⟨rfl, hG, hO⟩
   have G30 := Lib.hid hG
   clear hG hO
   go_wp2_with fail
   go_ret
   exact ⟨⟨[], 0, stopS c s⟩, _, MD.mk0 fun m => by simp only [bodyM, bm, rm, Q1.out, Q2.out, Q3.out, Q4.out, Q6.out, Q7.out, Q8.out, Q9.out, HKX.out, (eq_false hk10.out), (eq_false hk16.out), (eq_false hk23.out), if_true, Bool.false_eq_true, if_false, true_and, and_true, and_self, false_and, or_true, Bool.true_eq_false, and_false, Int.reduceEq, false_or, or_false, true_or], rfl, G30.out.st, NO.nil _ _⟩
  ·have Q32 := Lib.hid hq
   clear hq
   have LV : Hid (s.bad < 0) := Nle.lv (Nle.refl hg.out) (Gs.live hg.out (isS_in (by decide) Q32.out))
   refine (n_yes [91] (by decide) G5.out Q32.out).mono ?_; rintro e w32 ⟨rfl, hG, hO⟩
   have G32 := Lib.hid hG
   clear hG hO
   have N33 : Hid (Nx c s (s.up)) := (nx_up hg.out (isS_in (by decide) Q32.out))
   go_wp2_with fail
   refine (n_list [93] (by decide) G32.out (IH.out (.list [93]) _ N33.out.gs (mu_nx N33.out (fun hb => absurd LV.out (by omega))))).mono ?_
   rintro e w34 ⟨r34, v34, rfl, hM, hG, hN, hW, hL, hO, hP⟩
   have M34 := Lib.hid hM
   have G34 := Lib.hid hG
   have hrn34 := hP.few
   have W34 := Lib.hid hW
   have L34 := Lib.hid hL
   clear hM hG hN hW hL hO hP
   go_wp2_with fail
   refine (n_make 28 [] (r34.n) _ (by first | rfl | omega) (by omega) (by have := L34.out; (try simp only [List.length_append, mk_len, List.length_nil] at *); omega) G34.out W34.out).mono ?_
   rintro e w36 ⟨v36, rfl, hW, hG, hB⟩
   have W36 := Lib.hid hW
   have G36 := Lib.hid hG
   clear hW hG hB
   go_wp2_with fail
   go_ret
   exact ⟨⟨mkL 28 [] (r34.n) r34.l, 0, r34.s⟩, _, MD.mk1 M34.out fun m h0 => by simp only [bodyM, bm, rm, Q1.out, Q2.out, Q3.out, Q4.out, Q6.out, Q32.out, h0, if_true, Bool.false_eq_true, if_false, true_and, and_true, and_self, false_and, or_true, Bool.true_eq_false, and_false, Int.reduceEq, false_or, or_false, true_or], rfl, G36.out.st, W36.out.mono G34.out.size⟩
 ·have Q38 := Lib.hid hq
  clear hq
  have LV : Hid (s.bad < 0) := Nle.lv (Nle.refl hg.out) (Gs.live hg.out (isS_in (by decide) Q38.out))
  go_wp2_with fail
  refine (n_run (t := .brackets) rfl rfl trivial G5.out (IH.out .brackets _ hg.out (mu_same (show (1 : Nat) < 2 by decide) (fun hb => absurd LV.out (by omega))))).mono ?_
  rintro e w39 ⟨r39, v39, rfl, hM, hG, hN, hW, hL, hO, hP⟩
  have M39 := Lib.hid hM
  have G39 := Lib.hid hG
  have W39 := Lib.hid hW
  clear hM hG hN hW hL hO hP
  go_wp2_with fail
  go_ret
  exact ⟨r39, _, MD.mk1 M39.out fun m h0 => by simp only [bodyM, bm, rm, Q1.out, Q2.out, Q3.out, Q4.out, Q38.out, h0, if_true, Bool.false_eq_true, if_false, true_and, and_true, and_self, false_and, or_true, Bool.true_eq_false, and_false, Int.reduceEq, false_or, or_false, true_or], rfl, G39.out.st, W39.out.mono G5.out.size⟩
theorem d_unary (c : Cr) (s : Ss) (hg : Gs c s) (HR0 : Rt c) (IH : Ih c .unary s) : Ct c .unary s := by
 intro w h
 have hc := Lib.hid h.ok
 have hfew := h.ok.few
 have G0 := Lib.hid (S3.init h hg HR0)
 have IH := Lib.hid IH
 have hg := Lib.hid hg
 clear h HR0
 go_enter Tryz.func232, Tryz.ntmps232
 go_wp2_with fail
 obtain ⟨X1, HX1⟩ : ∃ X, Hid (fx (c.T s.i) = X) := ⟨_, rfl⟩
 refine (n_hereX G0.out HX1.out).mono ?_; rintro e w1 ⟨rfl, hG, hB⟩
 have G1 := Lib.hid hG
 clear hG hB
 by_cases hx2 : X1 = [100, 101, 108, 101, 116, 101]
 ·have hx2e := tex_true (m := [100, 101, 108, 101, 116, 101]) hx2
  have HQhx2 := Lib.hid hx2
  clear hx2
  have IN := Lib.hid (fxR_in (c := c) (k := s.i) (by rw [HX1.out, HQhx2.out]; decide))
  have LV : Hid (s.bad < 0) := Nle.lv (Nle.refl hg.out) (Gs.live hg.out IN.out)
  have c1 := G1.out.st.1.c1
  have f1 := G1.out.st.1.fz 1
  have hin := IN.out
  have hfw := hc.out.few
  have S3 := Lib.hid (S3.inc G1.out hin)
  go_wp2_with fail
  generalize World.setCell w1 ⟨c.b, 1, none⟩ (.int .i64 ((s.i : Int) + 1)) = w3 at *
  have G3 := Lib.hid S3.out
  clear c1 f1 hin
  have N4 : Hid (Nx c s (s.up)) := (nx_up hg.out IN.out)
  refine (n_run (t := .unary) rfl rfl trivial G3.out (IH.out .unary _ N4.out.gs (mu_nx N4.out (fun hb => absurd LV.out (by omega))))).mono ?_
  rintro e w5 ⟨r5, v5, rfl, hM, hG, hN, hW, hL, hO, hP⟩
  have M5 := Lib.hid hM
  have G5 := Lib.hid hG
  have W5 := Lib.hid hW
  have L5 := Lib.hid hL
  clear hM hG hN hW hL hO hP
  go_wp2_with fail
  refine (n_make 36 X1 1 1 rfl (by decide) (by have := L5.out; (try simp only [List.length_append, mk_len, List.length_nil] at *); omega) G5.out W5.out).mono ?_
  rintro e w7 ⟨v7, rfl, hW, hG, hB⟩
  have W7 := Lib.hid hW
  have G7 := Lib.hid hG
  clear hW hG hB
  go_wp2_with fail
  go_ret
  exact ⟨⟨mkL 36 X1 1 r5.l, 0, r5.s⟩, _, MD.mk1 M5.out fun m h0 => by simp only [bodyM, bm, rm, HX1.out, (show prefixes.contains X1 = true by rw [HQhx2.out]; decide), h0, if_true, Bool.false_eq_true, if_false, true_and, and_true, and_self, false_and, or_true, Bool.true_eq_false, and_false, Int.reduceEq, false_or, or_false, true_or], rfl, G7.out.st, W7.out.mono G5.out.size⟩
 have hx2 := Lib.hid hx2
 by_cases hx9 : X1 = [118, 111, 105, 100]
 ·have hx2e := tex_false (m := [100, 101, 108, 101, 116, 101]) hx2.out
  have hx9e := tex_true (m := [118, 111, 105, 100]) hx9
  have HQhx9 := Lib.hid hx9
  clear hx9
  have IN := Lib.hid (fxR_in (c := c) (k := s.i) (by rw [HX1.out, HQhx9.out]; decide))
  have LV : Hid (s.bad < 0) := Nle.lv (Nle.refl hg.out) (Gs.live hg.out IN.out)
  have c1 := G1.out.st.1.c1
  have f1 := G1.out.st.1.fz 1
  have hin := IN.out
  have hfw := hc.out.few
  have S10 := Lib.hid (S3.inc G1.out hin)
  go_wp2_with fail
  generalize World.setCell w1 ⟨c.b, 1, none⟩ (.int .i64 ((s.i : Int) + 1)) = w10 at *
  have G10 := Lib.hid S10.out
  clear c1 f1 hin
  have N11 : Hid (Nx c s (s.up)) := (nx_up hg.out IN.out)
  refine (n_run (t := .unary) rfl rfl trivial G10.out (IH.out .unary _ N11.out.gs (mu_nx N11.out (fun hb => absurd LV.out (by omega))))).mono ?_
  rintro e w12 ⟨r12, v12, rfl, hM, hG, hN, hW, hL, hO, hP⟩
  have M12 := Lib.hid hM
  have G12 := Lib.hid hG
  have W12 := Lib.hid hW
  have L12 := Lib.hid hL
  clear hM hG hN hW hL hO hP
  go_wp2_with fail
  refine (n_make 36 X1 1 1 rfl (by decide) (by have := L12.out; (try simp only [List.length_append, mk_len, List.length_nil] at *); omega) G12.out W12.out).mono ?_
  rintro e w14 ⟨v14, rfl, hW, hG, hB⟩
  have W14 := Lib.hid hW
  have G14 := Lib.hid hG
  clear hW hG hB
  go_wp2_with fail
  go_ret
  exact ⟨⟨mkL 36 X1 1 r12.l, 0, r12.s⟩, _, MD.mk1 M12.out fun m h0 => by simp only [bodyM, bm, rm, HX1.out, (show prefixes.contains X1 = true by rw [HQhx9.out]; decide), h0, if_true, Bool.false_eq_true, if_false, true_and, and_true, and_self, false_and, or_true, Bool.true_eq_false, and_false, Int.reduceEq, false_or, or_false, true_or], rfl, G14.out.st, W14.out.mono G12.out.size⟩
 have hx9 := Lib.hid hx9
 by_cases hx16 : X1 = [116, 121, 112, 101, 111, 102]
 ·have hx2e := tex_false (m := [100, 101, 108, 101, 116, 101]) hx2.out
  have hx9e := tex_false (m := [118, 111, 105, 100]) hx9.out
  have hx16e := tex_true (m := [116, 121, 112, 101, 111, 102]) hx16
  have HQhx16 := Lib.hid hx16
  clear hx16
  have IN := Lib.hid (fxR_in (c := c) (k := s.i) (by rw [HX1.out, HQhx16.out]; decide))
  have LV : Hid (s.bad < 0) := Nle.lv (Nle.refl hg.out) (Gs.live hg.out IN.out)
  have c1 := G1.out.st.1.c1
  have f1 := G1.out.st.1.fz 1
  have hin := IN.out
  have hfw := hc.out.few
  have S17 := Lib.hid (S3.inc G1.out hin)
  go_wp2_with fail
  generalize World.setCell w1 ⟨c.b, 1, none⟩ (.int .i64 ((s.i : Int) + 1)) = w17 at *
  have G17 := Lib.hid S17.out
  clear c1 f1 hin
  have N18 : Hid (Nx c s (s.up)) := (nx_up hg.out IN.out)
  refine (n_run (t := .unary) rfl rfl trivial G17.out (IH.out .unary _ N18.out.gs (mu_nx N18.out (fun hb => absurd LV.out (by omega))))).mono ?_
  rintro e w19 ⟨r19, v19, rfl, hM, hG, hN, hW, hL, hO, hP⟩
  have M19 := Lib.hid hM
  have G19 := Lib.hid hG
  have W19 := Lib.hid hW
  have L19 := Lib.hid hL
  clear hM hG hN hW hL hO hP
  go_wp2_with fail
  refine (n_make 36 X1 1 1 rfl (by decide) (by have := L19.out; (try simp only [List.length_append, mk_len, List.length_nil] at *); omega) G19.out W19.out).mono ?_
  rintro e w21 ⟨v21, rfl, hW, hG, hB⟩
  have W21 := Lib.hid hW
  have G21 := Lib.hid hG
  clear hW hG hB
  go_wp2_with fail
  go_ret
  exact ⟨⟨mkL 36 X1 1 r19.l, 0, r19.s⟩, _, MD.mk1 M19.out fun m h0 => by simp only [bodyM, bm, rm, HX1.out, (show prefixes.contains X1 = true by rw [HQhx16.out]; decide), h0, if_true, Bool.false_eq_true, if_false, true_and, and_true, and_self, false_and, or_true, Bool.true_eq_false, and_false, Int.reduceEq, false_or, or_false, true_or], rfl, G21.out.st, W21.out.mono G19.out.size⟩
 have hx16 := Lib.hid hx16
 by_cases hx23 : X1 = [43]
 ·have hx2e := tex_false (m := [100, 101, 108, 101, 116, 101]) hx2.out
  have hx9e := tex_false (m := [118, 111, 105, 100]) hx9.out
  have hx16e := tex_false (m := [116, 121, 112, 101, 111, 102]) hx16.out
  have hx23e := tex_true (m := [43]) hx23
  have HQhx23 := Lib.hid hx23
  clear hx23
  have IN := Lib.hid (fxR_in (c := c) (k := s.i) (by rw [HX1.out, HQhx23.out]; decide))
  have LV : Hid (s.bad < 0) := Nle.lv (Nle.refl hg.out) (Gs.live hg.out IN.out)
  have c1 := G1.out.st.1.c1
  have f1 := G1.out.st.1.fz 1
  have hin := IN.out
  have hfw := hc.out.few
  have S24 := Lib.hid (S3.inc G1.out hin)
  go_wp2_with fail
  generalize World.setCell w1 ⟨c.b, 1, none⟩ (.int .i64 ((s.i : Int) + 1)) = w24 at *
  have G24 := Lib.hid S24.out
  clear c1 f1 hin
  have N25 : Hid (Nx c s (s.up)) := (nx_up hg.out IN.out)
  refine (n_run (t := .unary) rfl rfl trivial G24.out (IH.out .unary _ N25.out.gs (mu_nx N25.out (fun hb => absurd LV.out (by omega))))).mono ?_
  rintro e w26 ⟨r26, v26, rfl, hM, hG, hN, hW, hL, hO, hP⟩
  have M26 := Lib.hid hM
  have G26 := Lib.hid hG
  have W26 := Lib.hid hW
  have L26 := Lib.hid hL
  clear hM hG hN hW hL hO hP
  go_wp2_with fail
  refine (n_make 36 X1 1 1 rfl (by decide) (by have := L26.out; (try simp only [List.length_append, mk_len, List.length_nil] at *); omega) G26.out W26.out).mono ?_
  rintro e w28 ⟨v28, rfl, hW, hG, hB⟩
  have W28 := Lib.hid hW
  have G28 := Lib.hid hG
  clear hW hG hB
  go_wp2_with fail
  go_ret
  exact ⟨⟨mkL 36 X1 1 r26.l, 0, r26.s⟩, _, MD.mk1 M26.out fun m h0 => by simp only [bodyM, bm, rm, HX1.out, (show prefixes.contains X1 = true by rw [HQhx23.out]; decide), h0, if_true, Bool.false_eq_true, if_false, true_and, and_true, and_self, false_and, or_true, Bool.true_eq_false, and_false, Int.reduceEq, false_or, or_false, true_or], rfl, G28.out.st, W28.out.mono G26.out.size⟩
 have hx23 := Lib.hid hx23
 by_cases hx30 : X1 = [45]
 ·have hx2e := tex_false (m := [100, 101, 108, 101, 116, 101]) hx2.out
  have hx9e := tex_false (m := [118, 111, 105, 100]) hx9.out
  have hx16e := tex_false (m := [116, 121, 112, 101, 111, 102]) hx16.out
  have hx23e := tex_false (m := [43]) hx23.out
  have hx30e := tex_true (m := [45]) hx30
  have HQhx30 := Lib.hid hx30
  clear hx30
  have IN := Lib.hid (fxR_in (c := c) (k := s.i) (by rw [HX1.out, HQhx30.out]; decide))
  have LV : Hid (s.bad < 0) := Nle.lv (Nle.refl hg.out) (Gs.live hg.out IN.out)
  have c1 := G1.out.st.1.c1
  have f1 := G1.out.st.1.fz 1
  have hin := IN.out
  have hfw := hc.out.few
  have S31 := Lib.hid (S3.inc G1.out hin)
  go_wp2_with fail
  generalize World.setCell w1 ⟨c.b, 1, none⟩ (.int .i64 ((s.i : Int) + 1)) = w31 at *
  have G31 := Lib.hid S31.out
  clear c1 f1 hin
  have N32 : Hid (Nx c s (s.up)) := (nx_up hg.out IN.out)
  refine (n_run (t := .unary) rfl rfl trivial G31.out (IH.out .unary _ N32.out.gs (mu_nx N32.out (fun hb => absurd LV.out (by omega))))).mono ?_
  rintro e w33 ⟨r33, v33, rfl, hM, hG, hN, hW, hL, hO, hP⟩
  have M33 := Lib.hid hM
  have G33 := Lib.hid hG
  have W33 := Lib.hid hW
  have L33 := Lib.hid hL
  clear hM hG hN hW hL hO hP
  go_wp2_with fail
  refine (n_make 36 X1 1 1 rfl (by decide) (by have := L33.out; (try simp only [List.length_append, mk_len, List.length_nil] at *); omega) G33.out W33.out).mono ?_
  rintro e w35 ⟨v35, rfl, hW, hG, hB⟩
  have W35 := Lib.hid hW
  have G35 := Lib.hid hG
  clear hW hG hB
  go_wp2_with fail
  go_ret
  exact ⟨⟨mkL 36 X1 1 r33.l, 0, r33.s⟩, _, MD.mk1 M33.out fun m h0 => by simp only [bodyM, bm, rm, HX1.out, (show prefixes.contains X1 = true by rw [HQhx30.out]; decide), h0, if_true, Bool.false_eq_true, if_false, true_and, and_true, and_self, false_and, or_true, Bool.true_eq_false, and_false, Int.reduceEq, false_or, or_false, true_or], rfl, G35.out.st, W35.out.mono G33.out.size⟩
 have hx30 := Lib.hid hx30
 by_cases hx37 : X1 = [126]
 ·have hx2e := tex_false (m := [100, 101, 108, 101, 116, 101]) hx2.out
  have hx9e := tex_false (m := [118, 111, 105, 100]) hx9.out
  have hx16e := tex_false (m := [116, 121, 112, 101, 111, 102]) hx16.out
  have hx23e := tex_false (m := [43]) hx23.out
  have hx30e := tex_false (m := [45]) hx30.out
  have hx37e := tex_true (m := [126]) hx37
  have HQhx37 := Lib.hid hx37
  clear hx37
  have IN := Lib.hid (fxR_in (c := c) (k := s.i) (by rw [HX1.out, HQhx37.out]; decide))
  have LV : Hid (s.bad < 0) := Nle.lv (Nle.refl hg.out) (Gs.live hg.out IN.out)
  have c1 := G1.out.st.1.c1
  have f1 := G1.out.st.1.fz 1
  have hin := IN.out
  have hfw := hc.out.few
  have S38 := Lib.hid (S3.inc G1.out hin)
  go_wp2_with fail
  generalize World.setCell w1 ⟨c.b, 1, none⟩ (.int .i64 ((s.i : Int) + 1)) = w38 at *
  have G38 := Lib.hid S38.out
  clear c1 f1 hin
  have N39 : Hid (Nx c s (s.up)) := (nx_up hg.out IN.out)
  refine (n_run (t := .unary) rfl rfl trivial G38.out (IH.out .unary _ N39.out.gs (mu_nx N39.out (fun hb => absurd LV.out (by omega))))).mono ?_
  rintro e w40 ⟨r40, v40, rfl, hM, hG, hN, hW, hL, hO, hP⟩
  have M40 := Lib.hid hM
  have G40 := Lib.hid hG
  have W40 := Lib.hid hW
  have L40 := Lib.hid hL
  clear hM hG hN hW hL hO hP
  go_wp2_with fail
  refine (n_make 36 X1 1 1 rfl (by decide) (by have := L40.out; (try simp only [List.length_append, mk_len, List.length_nil] at *); omega) G40.out W40.out).mono ?_
  rintro e w42 ⟨v42, rfl, hW, hG, hB⟩
  have W42 := Lib.hid hW
  have G42 := Lib.hid hG
  clear hW hG hB
  go_wp2_with fail
  go_ret
  exact ⟨⟨mkL 36 X1 1 r40.l, 0, r40.s⟩, _, MD.mk1 M40.out fun m h0 => by simp only [bodyM, bm, rm, HX1.out, (show prefixes.contains X1 = true by rw [HQhx37.out]; decide), h0, if_true, Bool.false_eq_true, if_false, true_and, and_true, and_self, false_and, or_true, Bool.true_eq_false, and_false, Int.reduceEq, false_or, or_false, true_or], rfl, G42.out.st, W42.out.mono G40.out.size⟩
 have hx37 := Lib.hid hx37
 by_cases hx44 : X1 = [33]
 ·have hx2e := tex_false (m := [100, 101, 108, 101, 116, 101]) hx2.out
  have hx9e := tex_false (m := [118, 111, 105, 100]) hx9.out
  have hx16e := tex_false (m := [116, 121, 112, 101, 111, 102]) hx16.out
  have hx23e := tex_false (m := [43]) hx23.out
  have hx30e := tex_false (m := [45]) hx30.out
  have hx37e := tex_false (m := [126]) hx37.out
  have hx44e := tex_true (m := [33]) hx44
  have HQhx44 := Lib.hid hx44
  clear hx44
  have IN := Lib.hid (fxR_in (c := c) (k := s.i) (by rw [HX1.out, HQhx44.out]; decide))
  have LV : Hid (s.bad < 0) := Nle.lv (Nle.refl hg.out) (Gs.live hg.out IN.out)
  have c1 := G1.out.st.1.c1
  have f1 := G1.out.st.1.fz 1
  have hin := IN.out
  have hfw := hc.out.few
  have S45 := Lib.hid (S3.inc G1.out hin)
  go_wp2_with fail
  generalize World.setCell w1 ⟨c.b, 1, none⟩ (.int .i64 ((s.i : Int) + 1)) = w45 at *
  have G45 := Lib.hid S45.out
  clear c1 f1 hin
  have N46 : Hid (Nx c s (s.up)) := (nx_up hg.out IN.out)
  refine (n_run (t := .unary) rfl rfl trivial G45.out (IH.out .unary _ N46.out.gs (mu_nx N46.out (fun hb => absurd LV.out (by omega))))).mono ?_
  rintro e w47 ⟨r47, v47, rfl, hM, hG, hN, hW, hL, hO, hP⟩
  have M47 := Lib.hid hM
  have G47 := Lib.hid hG
  have W47 := Lib.hid hW
  have L47 := Lib.hid hL
  clear hM hG hN hW hL hO hP
  go_wp2_with fail
  refine (n_make 36 X1 1 1 rfl (by decide) (by have := L47.out; (try simp only [List.length_append, mk_len, List.length_nil] at *); omega) G47.out W47.out).mono ?_
  rintro e w49 ⟨v49, rfl, hW, hG, hB⟩
  have W49 := Lib.hid hW
  have G49 := Lib.hid hG
  clear hW hG hB
  go_wp2_with fail
  go_ret
  exact ⟨⟨mkL 36 X1 1 r47.l, 0, r47.s⟩, _, MD.mk1 M47.out fun m h0 => by simp only [bodyM, bm, rm, HX1.out, (show prefixes.contains X1 = true by rw [HQhx44.out]; decide), h0, if_true, Bool.false_eq_true, if_false, true_and, and_true, and_self, false_and, or_true, Bool.true_eq_false, and_false, Int.reduceEq, false_or, or_false, true_or], rfl, G49.out.st, W49.out.mono G47.out.size⟩
 have hx44 := Lib.hid hx44
 by_cases hx51 : X1 = [43, 43]
 ·have hx2e := tex_false (m := [100, 101, 108, 101, 116, 101]) hx2.out
  have hx9e := tex_false (m := [118, 111, 105, 100]) hx9.out
  have hx16e := tex_false (m := [116, 121, 112, 101, 111, 102]) hx16.out
  have hx23e := tex_false (m := [43]) hx23.out
  have hx30e := tex_false (m := [45]) hx30.out
  have hx37e := tex_false (m := [126]) hx37.out
  have hx44e := tex_false (m := [33]) hx44.out
  have hx51e := tex_true (m := [43, 43]) hx51
  have HQhx51 := Lib.hid hx51
  clear hx51
  have IN := Lib.hid (fxR_in (c := c) (k := s.i) (by rw [HX1.out, HQhx51.out]; decide))
  have LV : Hid (s.bad < 0) := Nle.lv (Nle.refl hg.out) (Gs.live hg.out IN.out)
  have c1 := G1.out.st.1.c1
  have f1 := G1.out.st.1.fz 1
  have hin := IN.out
  have hfw := hc.out.few
  have S52 := Lib.hid (S3.inc G1.out hin)
  go_wp2_with fail
  generalize World.setCell w1 ⟨c.b, 1, none⟩ (.int .i64 ((s.i : Int) + 1)) = w52 at *
  have G52 := Lib.hid S52.out
  clear c1 f1 hin
  have N53 : Hid (Nx c s (s.up)) := (nx_up hg.out IN.out)
  refine (n_run (t := .unary) rfl rfl trivial G52.out (IH.out .unary _ N53.out.gs (mu_nx N53.out (fun hb => absurd LV.out (by omega))))).mono ?_
  rintro e w54 ⟨r54, v54, rfl, hM, hG, hN, hW, hL, hO, hP⟩
  have M54 := Lib.hid hM
  have G54 := Lib.hid hG
  have W54 := Lib.hid hW
  have L54 := Lib.hid hL
  clear hM hG hN hW hL hO hP
  have c3 := G54.out.st.1.c3
  by_cases hb : r54.s.bad < 0
  ·have HB56 := Lib.hid hb
   go_wp2_with fail
   refine (n_target (by have := L54.out; (try simp only [List.length_append, mk_len, List.length_nil] at *); omega) G54.out W54.out).mono ?_; rintro e w57 ⟨rfl, hG, hB⟩
   have G57 := Lib.hid hG
   have W58 := Lib.hid (W54.out.below hB)
   clear hG hB
   cases hq : tgM r54.l
   ·have Q59 := Lib.hid hq
    clear hq
    have c1 := G57.out.st.1.c1
    have f1 := G57.out.st.1.fz 1
    have SB60 := Lib.hid (S3.back G57.out hg.out.1 HB56.out)
    go_wp2_with fail
    generalize World.setCell w57 ⟨c.b, 1, none⟩ (.int .i64 (s.i : Int)) = w60 at *
    have G60 := Lib.hid SB60.out
    clear c1 f1
    refine (n_stop G60.out).mono ?_; rintro e w61 ⟨rfl, hG, hO⟩
    have G61 := Lib.hid hG
    clear hG hO
    go_wp2_with fail
    go_ret
    exact ⟨⟨[], 0, stopS c ⟨s.i, r54.s.bad⟩⟩, _, MD.mk1 M54.out fun m h0 => by simp only [bodyM, bm, rm, HX1.out, (show prefixes.contains X1 = false by rw [HQhx51.out]; decide), (show steps.contains X1 = true by rw [HQhx51.out]; decide), HB56.out, Q59.out, h0, if_true, Bool.false_eq_true, if_false, true_and, and_true, and_self, false_and, or_true, Bool.true_eq_false, and_false, Int.reduceEq, false_or, or_false, true_or], rfl, G61.out.st, NO.nil _ _⟩
   ·have Q62 := Lib.hid hq
    clear hq
    go_wp2_with fail
    refine (n_make 37 X1 1 1 rfl (by decide) (by have := L54.out; (try simp only [List.length_append, mk_len, List.length_nil] at *); omega) G57.out W58.out).mono ?_
    rintro e w63 ⟨v63, rfl, hW, hG, hB⟩
    have W63 := Lib.hid hW
    have G63 := Lib.hid hG
    clear hW hG hB
    go_wp2_with fail
    go_ret
    exact ⟨⟨mkL 37 X1 1 r54.l, 0, r54.s⟩, _, MD.mk1 M54.out fun m h0 => by simp only [bodyM, bm, rm, HX1.out, (show prefixes.contains X1 = false by rw [HQhx51.out]; decide), (show steps.contains X1 = true by rw [HQhx51.out]; decide), HB56.out, Q62.out, h0, if_true, Bool.false_eq_true, if_false, true_and, and_true, and_self, false_and, or_true, Bool.true_eq_false, and_false, Int.reduceEq, false_or, or_false, true_or], rfl, G63.out.st, W63.out.mono G57.out.size⟩
  ·have HB65 := Lib.hid (Int.not_lt.1 hb)
   go_wp2_with fail
   refine (n_make 37 X1 1 1 rfl (by decide) (by have := L54.out; (try simp only [List.length_append, mk_len, List.length_nil] at *); omega) G54.out W54.out).mono ?_
   rintro e w66 ⟨v66, rfl, hW, hG, hB⟩
   have W66 := Lib.hid hW
   have G66 := Lib.hid hG
   clear hW hG hB
   go_wp2_with fail
   go_ret
   exact ⟨⟨mkL 37 X1 1 r54.l, 0, r54.s⟩, _, MD.mk1 M54.out fun m h0 => by simp only [bodyM, bm, rm, HX1.out, (show prefixes.contains X1 = false by rw [HQhx51.out]; decide), (show steps.contains X1 = true by rw [HQhx51.out]; decide), (Int.not_lt.2 HB65.out), h0, if_true, Bool.false_eq_true, if_false, true_and, and_true, and_self, false_and, or_true, Bool.true_eq_false, and_false, Int.reduceEq, false_or, or_false, true_or], rfl, G66.out.st, W66.out.mono G54.out.size⟩
 have hx51 := Lib.hid hx51
 by_cases hx68 : X1 = [45, 45]
 ·have hx2e := tex_false (m := [100, 101, 108, 101, 116, 101]) hx2.out
  have hx9e := tex_false (m := [118, 111, 105, 100]) hx9.out
  have hx16e := tex_false (m := [116, 121, 112, 101, 111, 102]) hx16.out
  have hx23e := tex_false (m := [43]) hx23.out
  have hx30e := tex_false (m := [45]) hx30.out
  have hx37e := tex_false (m := [126]) hx37.out
  have hx44e := tex_false (m := [33]) hx44.out
  have hx51e := tex_false (m := [43, 43]) hx51.out
  have hx68e := tex_true (m := [45, 45]) hx68
  have HQhx68 := Lib.hid hx68
  clear hx68
  have IN := Lib.hid (fxR_in (c := c) (k := s.i) (by rw [HX1.out, HQhx68.out]; decide))
  have LV : Hid (s.bad < 0) := Nle.lv (Nle.refl hg.out) (Gs.live hg.out IN.out)
  have c1 := G1.out.st.1.c1
  have f1 := G1.out.st.1.fz 1
  have hin := IN.out
  have hfw := hc.out.few
  have S69 := Lib.hid (S3.inc G1.out hin)
  go_wp2_with fail
  generalize World.setCell w1 ⟨c.b, 1, none⟩ (.int .i64 ((s.i : Int) + 1)) = w69 at *
  have G69 := Lib.hid S69.out
  clear c1 f1 hin
  have N70 : Hid (Nx c s (s.up)) := (nx_up hg.out IN.out)
  refine (n_run (t := .unary) rfl rfl trivial G69.out (IH.out .unary _ N70.out.gs (mu_nx N70.out (fun hb => absurd LV.out (by omega))))).mono ?_
  rintro e w71 ⟨r71, v71, rfl, hM, hG, hN, hW, hL, hO, hP⟩
  have M71 := Lib.hid hM
  have G71 := Lib.hid hG
  have W71 := Lib.hid hW
  have L71 := Lib.hid hL
  clear hM hG hN hW hL hO hP
  have c3 := G71.out.st.1.c3
  by_cases hb : r71.s.bad < 0
  ·have HB73 := Lib.hid hb
   go_wp2_with fail
   refine (n_target (by have := L71.out; (try simp only [List.length_append, mk_len, List.length_nil] at *); omega) G71.out W71.out).mono ?_; rintro e w74 ⟨rfl, hG, hB⟩
   have G74 := Lib.hid hG
   have W75 := Lib.hid (W71.out.below hB)
   clear hG hB
   cases hq : tgM r71.l
   ·have Q76 := Lib.hid hq
    clear hq
    have c1 := G74.out.st.1.c1
    have f1 := G74.out.st.1.fz 1
    have SB77 := Lib.hid (S3.back G74.out hg.out.1 HB73.out)
    go_wp2_with fail
    generalize World.setCell w74 ⟨c.b, 1, none⟩ (.int .i64 (s.i : Int)) = w77 at *
    have G77 := Lib.hid SB77.out
    clear c1 f1
    refine (n_stop G77.out).mono ?_; rintro e w78 ⟨rfl, hG, hO⟩
    have G78 := Lib.hid hG
    clear hG hO
    go_wp2_with fail
    go_ret
    exact ⟨⟨[], 0, stopS c ⟨s.i, r71.s.bad⟩⟩, _, MD.mk1 M71.out fun m h0 => by simp only [bodyM, bm, rm, HX1.out, (show prefixes.contains X1 = false by rw [HQhx68.out]; decide), (show steps.contains X1 = true by rw [HQhx68.out]; decide), HB73.out, Q76.out, h0, if_true, Bool.false_eq_true, if_false, true_and, and_true, and_self, false_and, or_true, Bool.true_eq_false, and_false, Int.reduceEq, false_or, or_false, true_or], rfl, G78.out.st, NO.nil _ _⟩
   ·have Q79 := Lib.hid hq
    clear hq
    go_wp2_with fail
    refine (n_make 37 X1 1 1 rfl (by decide) (by have := L71.out; (try simp only [List.length_append, mk_len, List.length_nil] at *); omega) G74.out W75.out).mono ?_
    rintro e w80 ⟨v80, rfl, hW, hG, hB⟩
    have W80 := Lib.hid hW
    have G80 := Lib.hid hG
    clear hW hG hB
    go_wp2_with fail
    go_ret
    exact ⟨⟨mkL 37 X1 1 r71.l, 0, r71.s⟩, _, MD.mk1 M71.out fun m h0 => by simp only [bodyM, bm, rm, HX1.out, (show prefixes.contains X1 = false by rw [HQhx68.out]; decide), (show steps.contains X1 = true by rw [HQhx68.out]; decide), HB73.out, Q79.out, h0, if_true, Bool.false_eq_true, if_false, true_and, and_true, and_self, false_and, or_true, Bool.true_eq_false, and_false, Int.reduceEq, false_or, or_false, true_or], rfl, G80.out.st, W80.out.mono G74.out.size⟩
  ·have HB82 := Lib.hid (Int.not_lt.1 hb)
   go_wp2_with fail
   refine (n_make 37 X1 1 1 rfl (by decide) (by have := L71.out; (try simp only [List.length_append, mk_len, List.length_nil] at *); omega) G71.out W71.out).mono ?_
   rintro e w83 ⟨v83, rfl, hW, hG, hB⟩
   have W83 := Lib.hid hW
   have G83 := Lib.hid hG
   clear hW hG hB
   go_wp2_with fail
   go_ret
   exact ⟨⟨mkL 37 X1 1 r71.l, 0, r71.s⟩, _, MD.mk1 M71.out fun m h0 => by simp only [bodyM, bm, rm, HX1.out, (show prefixes.contains X1 = false by rw [HQhx68.out]; decide), (show steps.contains X1 = true by rw [HQhx68.out]; decide), (Int.not_lt.2 HB82.out), h0, if_true, Bool.false_eq_true, if_false, true_and, and_true, and_self, false_and, or_true, Bool.true_eq_false, and_false, Int.reduceEq, false_or, or_false, true_or], rfl, G83.out.st, W83.out.mono G71.out.size⟩
 have hx68 := Lib.hid hx68
 have hx2e := tex_false (m := [100, 101, 108, 101, 116, 101]) hx2.out
 have hx9e := tex_false (m := [118, 111, 105, 100]) hx9.out
 have hx16e := tex_false (m := [116, 121, 112, 101, 111, 102]) hx16.out
 have hx23e := tex_false (m := [43]) hx23.out
 have hx30e := tex_false (m := [45]) hx30.out
 have hx37e := tex_false (m := [126]) hx37.out
 have hx44e := tex_false (m := [33]) hx44.out
 have hx51e := tex_false (m := [43, 43]) hx51.out
 have hx68e := tex_false (m := [45, 45]) hx68.out
 have F85 := Lib.hid (show prefixes.contains X1 = false by simp [prefixes, hx2.out, hx9.out, hx16.out, hx23.out, hx30.out, hx37.out, hx44.out, hx51.out, hx68.out])
 have F86 := Lib.hid (show steps.contains X1 = false by simp [steps, hx2.out, hx9.out, hx16.out, hx23.out, hx30.out, hx37.out, hx44.out, hx51.out, hx68.out])
 clear hx2 hx9 hx16 hx23 hx30 hx37 hx44 hx51 hx68
 go_wp2_with fail
 refine (n_run (t := .first) rfl rfl trivial G1.out (IH.out .first _ hg.out (mu_same (show (3 : Nat) < 4 by decide) (fun _ => (show (2 : Nat) < 3 by decide))))).mono ?_
 rintro e w87 ⟨r87, v87, rfl, hM, hG, hN, hW, hL, hO, hP⟩
 have M87 := Lib.hid hM
 have G87 := Lib.hid hG
 have W87 := Lib.hid hW
 have L87 := Lib.hid hL
 have Z87 := Lib.hid hO.size
 have N88 : Hid (Nx c s (r87.s)) := hN
 clear hM hG hN hW hL hO hP
 go_wp2_with fail
 refine (n_behind r87.l true G87.out (IH.out (.behind r87.l true) _ N88.out.gs (mu_nx N88.out (fun _ => (show (1 : Nat) < 3 by decide)))) (by have := L87.out; omega) W87.out G1.out.ltb Z87.out).mono ?_
 rintro e w89 ⟨r89, v89, rfl, hM, hG, hN, hW, hL, hO, hP⟩
 have M89 := Lib.hid hM
 have G89 := Lib.hid hG
 have W89 := Lib.hid hW
 have L89 := Lib.hid hL
 clear hM hG hN hW hL hO hP
 go_wp2_with fail
 obtain ⟨X91, HX91⟩ : ∃ X, Hid (fx (c.T r89.s.i) = X) := ⟨_, rfl⟩
 refine (n_hereX G89.out HX91.out).mono ?_; rintro e w91 ⟨rfl, hG, hB⟩
 have G91 := Lib.hid hG
 have W92 := Lib.hid (W89.out.below hB)
 clear hG hB
 by_cases hx93 : X91 = [43, 43]
 ·have hx93e := tex_true (m := [43, 43]) hx93
  have HQhx93 := Lib.hid hx93
  clear hx93
  have IN := Lib.hid (fxR_in (c := c) (k := r89.s.i) (by rw [HX91.out, HQhx93.out]; decide))
  go_wp2_with fail
  refine (n_target (by have := L89.out; (try simp only [List.length_append, mk_len, List.length_nil] at *); omega) G91.out W92.out).mono ?_; rintro e w94 ⟨rfl, hG, hB⟩
  have G94 := Lib.hid hG
  have W95 := Lib.hid (W92.out.below hB)
  clear hG hB
  cases hq : tgM r89.l
  ·have Q96 := Lib.hid hq
   clear hq
   go_wp2_with fail
   refine (n_stop G94.out).mono ?_; rintro e w97 ⟨rfl, hG, hO⟩
   have G97 := Lib.hid hG
   clear hG hO
   go_wp2_with fail
   go_ret
   exact ⟨⟨[], 0, stopS c r89.s⟩, _, MD.mk2 M87.out M89.out fun m h0 h1 => by simp only [bodyM, bm, rm, HX1.out, F85.out, F86.out, HX91.out, (show steps.contains X91 = true by rw [HQhx93.out]; decide), Q96.out, h0, h1, if_true, Bool.false_eq_true, if_false, true_and, and_true, and_self, false_and, or_true, Bool.true_eq_false, and_false, Int.reduceEq, false_or, or_false, true_or], rfl, G97.out.st, NO.nil _ _⟩
  ·have Q100 := Lib.hid hq
   clear hq
   have c1 := G94.out.st.1.c1
   have f1 := G94.out.st.1.fz 1
   have hin := IN.out
   have hfw := hc.out.few
   have S101 := Lib.hid (S3.inc G94.out hin)
   have W102 := Lib.hid (NO.setI W95.out G1.out.ltb (k := 1) (.int .i64 ((r89.s.i : Int) + 1)))
   go_wp2_with fail
   generalize World.setCell w94 ⟨c.b, 1, none⟩ (.int .i64 ((r89.s.i : Int) + 1)) = w101 at *
   have G101 := Lib.hid S101.out
   clear c1 f1 hin
   refine (n_make 37 X91 1 1 rfl (by decide) (by have := L89.out; (try simp only [List.length_append, mk_len, List.length_nil] at *); omega) G101.out W102.out).mono ?_
   rintro e w104 ⟨v104, rfl, hW, hG, hB⟩
   have W104 := Lib.hid hW
   have B104 := Lib.hid hB
   clear hW hG hB
   obtain ⟨g106, cp106, rfl, hg106, hgl106, cb106, fb106, hs106⟩ := W104.out.bitsAt
   have ST106 := Lib.hid (hs106 1)
   clear hs106
   have GS106 := Lib.hid (G101.out.below ((B104.out).setCell (p := ⟨g106, 4, none⟩) hg106 (.int .u64 1)))
   go_wp2_with fail
   generalize World.setCell w104 ⟨g106, 4, none⟩ (.int .u64 1) = w106 at *
   have G106 := Lib.hid GS106.out
   have W106 := Lib.hid ST106.out
   go_ret
   exact ⟨⟨(⟨37, 1, r89.l.length + 1, X91, 1⟩ :: r89.l), 0, r89.s.up⟩, _, MD.mk2 M87.out M89.out fun m h0 h1 => by simp only [bodyM, bm, rm, HX1.out, F85.out, F86.out, HX91.out, (show steps.contains X91 = true by rw [HQhx93.out]; decide), Q100.out, h0, h1, if_true, Bool.false_eq_true, if_false, true_and, and_true, and_self, false_and, or_true, Bool.true_eq_false, and_false, Int.reduceEq, false_or, or_false, true_or], rfl, G106.out.st, W106.out.mono G101.out.size⟩
 have hx93 := Lib.hid hx93
 by_cases hx107 : X91 = [45, 45]
 ·have hx93e := tex_false (m := [43, 43]) hx93.out
  have hx107e := tex_true (m := [45, 45]) hx107
  have HQhx107 := Lib.hid hx107
  clear hx107
  have IN := Lib.hid (fxR_in (c := c) (k := r89.s.i) (by rw [HX91.out, HQhx107.out]; decide))
  go_wp2_with fail
  refine (n_target (by have := L89.out; (try simp only [List.length_append, mk_len, List.length_nil] at *); omega) G91.out W92.out).mono ?_; rintro e w108 ⟨rfl, hG, hB⟩
  have G108 := Lib.hid hG
  have W109 := Lib.hid (W92.out.below hB)
  clear hG hB
  cases hq : tgM r89.l
  ·have Q110 := Lib.hid hq
   clear hq
   go_wp2_with fail
   refine (n_stop G108.out).mono ?_; rintro e w111 ⟨rfl, hG, hO⟩
   have G111 := Lib.hid hG
   clear hG hO
   go_wp2_with fail
   go_ret
   exact ⟨⟨[], 0, stopS c r89.s⟩, _, MD.mk2 M87.out M89.out fun m h0 h1 => by simp only [bodyM, bm, rm, HX1.out, F85.out, F86.out, HX91.out, (show steps.contains X91 = true by rw [HQhx107.out]; decide), Q110.out, h0, h1, if_true, Bool.false_eq_true, if_false, true_and, and_true, and_self, false_and, or_true, Bool.true_eq_false, and_false, Int.reduceEq, false_or, or_false, true_or], rfl, G111.out.st, NO.nil _ _⟩
  ·have Q114 := Lib.hid hq
   clear hq
   have c1 := G108.out.st.1.c1
   have f1 := G108.out.st.1.fz 1
   have hin := IN.out
   have hfw := hc.out.few
   have S115 := Lib.hid (S3.inc G108.out hin)
   have W116 := Lib.hid (NO.setI W109.out G1.out.ltb (k := 1) (.int .i64 ((r89.s.i : Int) + 1)))
   go_wp2_with fail
   generalize World.setCell w108 ⟨c.b, 1, none⟩ (.int .i64 ((r89.s.i : Int) + 1)) = w115 at *
   have G115 := Lib.hid S115.out
   clear c1 f1 hin
   refine (n_make 37 X91 1 1 rfl (by decide) (by have := L89.out; (try simp only [List.length_append, mk_len, List.length_nil] at *); omega) G115.out W116.out).mono ?_
   rintro e w118 ⟨v118, rfl, hW, hG, hB⟩
   have W118 := Lib.hid hW
   have B118 := Lib.hid hB
   clear hW hG hB
   obtain ⟨g120, cp120, rfl, hg120, hgl120, cb120, fb120, hs120⟩ := W118.out.bitsAt
   have ST120 := Lib.hid (hs120 1)
   clear hs120
   have GS120 := Lib.hid (G115.out.below ((B118.out).setCell (p := ⟨g120, 4, none⟩) hg120 (.int .u64 1)))
   go_wp2_with fail
   generalize World.setCell w118 ⟨g120, 4, none⟩ (.int .u64 1) = w120 at *
   have G120 := Lib.hid GS120.out
   have W120 := Lib.hid ST120.out
   go_ret
   exact ⟨⟨(⟨37, 1, r89.l.length + 1, X91, 1⟩ :: r89.l), 0, r89.s.up⟩, _, MD.mk2 M87.out M89.out fun m h0 h1 => by simp only [bodyM, bm, rm, HX1.out, F85.out, F86.out, HX91.out, (show steps.contains X91 = true by rw [HQhx107.out]; decide), Q114.out, h0, h1, if_true, Bool.false_eq_true, if_false, true_and, and_true, and_self, false_and, or_true, Bool.true_eq_false, and_false, Int.reduceEq, false_or, or_false, true_or], rfl, G120.out.st, W120.out.mono G115.out.size⟩
 have hx107 := Lib.hid hx107
 have hx93e := tex_false (m := [43, 43]) hx93.out
 have hx107e := tex_false (m := [45, 45]) hx107.out
 have F121 := Lib.hid (show steps.contains X91 = false by simp [steps, hx93.out, hx107.out])
 clear hx93 hx107
 go_wp2_with fail
 go_ret
 exact ⟨⟨r89.l, 0, r89.s⟩, _, MD.mk2 M87.out M89.out fun m h0 h1 => by simp only [bodyM, bm, rm, HX1.out, F85.out, F86.out, HX91.out, F121.out, h0, h1, if_true, Bool.false_eq_true, if_false, true_and, and_true, and_self, false_and, or_true, Bool.true_eq_false, and_false, Int.reduceEq, false_or, or_false, true_or], rfl, G91.out.st, W92.out.mono G1.out.size⟩
theorem d_behind_true (c : Cr) (x : List LN) (s : Ss) (hg : Gs c s) (HR0 : Rt c) (IH : Ih c (.behind x true) s) : Ct c (.behind x true) s := by
 intro hx w B v h hv hlt hBW
 have hc := Lib.hid h.ok
 have hfew := h.ok.few
 have G0 := Lib.hid (S3.init h hg HR0)
 have W0 := Lib.hid hv
 have hlt := Lib.hid hlt
 have hBW := Lib.hid hBW
 have IH := Lib.hid IH
 have hg := Lib.hid hg
 clear h hv HR0
 obtain ⟨aox, cpx, rfl⟩ := W0.out.slice
 go_enter Tryz.func243, Tryz.ntmps243
 go_wp2_with fail
 go_loopg [1] (ml c s) (fun g xv wr => ∃ (sj : Ss) (L : List LN), g = ml c sj ∧ Hid (S3 c w sj wr) ∧ Hid (Nle c s sj) ∧ Hid (NO wr (B) xv L) ∧ Hid ((sj.bad < 0 → L.length + 100 * s.i ≤ x.length + 100 * sj.i) ∧ L.length ≤ x.length + 100 * c.ts.length + 200) ∧ Hid (∀ r, MD c (.behind L true) sj r → MD c (.behind x true) s r))
 case atStart =>
  refine ⟨s, x, rfl, G0.out, (Nle.refl hg.out), W0.out, ?_, fun r hr => hr⟩
  exact ⟨fun _ => Nat.le_refl _, by omega⟩
 case round =>
  obtain ⟨sj, L, rfl, GL, NL, WL, BL, DL⟩ := hrel
  have BX := Lib.hid (show L.length ≤ 1200000 by have := BL.out; omega)
  have c3 := GL.out.st.1.c3
  by_cases hb : sj.bad < 0
  ·have HB1 := Lib.hid hb
   have LV : Hid (s.bad < 0) := Nle.lv NL.out hb
   go_wp2_with fail
   cases hq : isS c sj [46]
   ·have Q2 := Lib.hid hq
    clear hq
    refine (n_no [46] (by decide) GL.out Q2.out).mono ?_; rintro e w2 ⟨rfl, hG, hO⟩
    have G2 := Lib.hid hG
    have W3 := Lib.hid (WL.out.off hO hlt.out)
    clear hG hO
    go_wp2_with fail
    cases hq : isS c sj [91]
    ·have Q4 := Lib.hid hq
     clear hq
     refine (n_no [91] (by decide) G2.out Q4.out).mono ?_; rintro e w4 ⟨rfl, hG, hO⟩
     have G4 := Lib.hid hG
     have W5 := Lib.hid (W3.out.off hO hlt.out)
     clear hG hO
     go_wp2_with fail
     cases hq : isS c sj [40]
     ·have Q6 := Lib.hid hq
      clear hq
      refine (n_no [40] (by decide) G4.out Q6.out).mono ?_; rintro e w6 ⟨rfl, hG, hO⟩
      have G6 := Lib.hid hG
      have W7 := Lib.hid (W5.out.off hO hlt.out)
      clear hG hO
      go_wp2_with fail
      go_ret
      exact ⟨⟨L, 0, sj⟩, _, DL.out _ (MD.mk0 fun m => by simp only [bodyM, bm, rm, HB1.out, Q2.out, Q4.out, Q6.out, if_true, Bool.false_eq_true, if_false, true_and, and_true, and_self, false_and, or_true, Bool.true_eq_false, and_false, Int.reduceEq, false_or, or_false, true_or]), rfl, G6.out.st, W7.out⟩
     ·have Q8 := Lib.hid hq
      clear hq
      refine (n_yes [40] (by decide) G4.out Q8.out).mono ?_; rintro e w8 ⟨rfl, hG, hO⟩
      have G8 := Lib.hid hG
      have W9 := Lib.hid (W5.out.off hO hlt.out)
      clear hG hO
      have LQ8 := Lib.hid (Gs.live NL.out.gs (isS_in (by decide) Q8.out))
      have K10 : Hid (Nx c (sj) (sj.up)) := (nx_up NL.out.gs (isS_in (by decide) Q8.out))
      have J11 : Hid (Nx c sj (sj.up)) := K10.out
      have N12 : Hid (Nx c s (sj.up)) := NL.out.nx K10.out
      go_wp2_with fail
      refine (n_list [41] (by decide) G8.out (IH.out (.list [41]) _ N12.out.gs (mu_nx N12.out (fun hb => absurd LV.out (by omega))))).mono ?_
      rintro e w13 ⟨r13, v13, rfl, hM, hG, hN, hW, hL, hO, hP⟩
      have M13 := Lib.hid hM
      have G13 := Lib.hid hG
      have hrn13 := hP.few
      have W14 := Lib.hid (W9.out.off hO hlt.out)
      have W13 := Lib.hid hW
      have L13 := Lib.hid hL
      have P13 := Lib.hid hP
      have K15 : Hid (Nx c (sj.up) (r13.s)) := hN
      have J16 : Hid (Nx c sj (r13.s)) := J11.out.nx K15.out
      have N17 : Hid (Nx c s (r13.s)) := N12.out.nx K15.out
      clear hM hG hN hW hL hO hP
      go_wp2_with fail
      refine (n_join (by have := BX.out; (try simp only [List.length_append, mk_len, List.length_nil] at *); omega) (by have := L13.out; (try simp only [List.length_append, mk_len, List.length_nil] at *); omega) G13.out W14.out W13.out).mono ?_
      rintro e w18 ⟨v18, rfl, hW, hG, hB⟩
      have W18 := Lib.hid hW
      have G18 := Lib.hid hG
      have L18 := Lib.hid (show (L ++ r13.l).length ≤ 1700101 by have := BX.out; have := L13.out; (try simp only [List.length_append, mk_len, List.length_nil] at *); omega)
      clear hW hG hB
      go_wp2_with fail
      refine (n_make 34 [] (1 + r13.n) _ (by first | rfl | omega) (by omega) (by have := L18.out; (try simp only [List.length_append, mk_len, List.length_nil] at *); omega) G18.out W18.out).mono ?_
      rintro e w21 ⟨v21, rfl, hW, hG, hB⟩
      have W21 := Lib.hid hW
      have G21 := Lib.hid hG
      clear hW hG hB
      go_wp2_with fail
      have hle := GL.out.st.1.le
      go_roundg (ml c r13.s)
      case measure => exact ml_nx J16.out HB1.out hle
      case rel =>
       have h1 := BL.out.1 HB1.out
       refine ⟨r13.s, mkL 34 [] (1 + r13.n) (L ++ r13.l), rfl, G21.out, N17.out.le, W21.out.mono (Nat.le_trans hBW.out G18.out.size), ?_, fun r hr => DL.out r (MD.mk2 M13.out hr fun m h0 h1 => by simp only [bodyM, bm, rm, HB1.out, Q2.out, Q4.out, Q8.out, h0, h1, if_true, Bool.false_eq_true, if_false, true_and, and_true, and_self, false_and, or_true, Bool.true_eq_false, and_false, Int.reduceEq, false_or, or_false, true_or])⟩
       have h2 := BL.out.2
       have hb := HB1.out
       have := up_f sj
       have := N17.out.gs.1
       have := K10.out.live
       have := K10.out.dead
       have := K10.out.gs.1
       have := K15.out.live
       have := K15.out.dead
       have := K15.out.gs.1
       have := LQ8.out
       have := J11.out.live hb
       have := J16.out.live hb
       have t0 := P13.out.tri
       simp only [ac, dl, kp, lp, Bool.false_eq_true, false_or, true_or, and_true] at t0
       rcases t0 with t0 | t0 | t0
       all_goals exact ⟨fun hX => by (try simp only [List.length_append, mk_len, List.length_nil]); omega, by (try simp only [List.length_append, mk_len, List.length_nil]); omega⟩
    ·have Q23 := Lib.hid hq
     clear hq
     refine (n_yes [91] (by decide) G2.out Q23.out).mono ?_; rintro e w23 ⟨rfl, hG, hO⟩
     have G23 := Lib.hid hG
     have W24 := Lib.hid (W3.out.off hO hlt.out)
     clear hG hO
     have LQ23 := Lib.hid (Gs.live NL.out.gs (isS_in (by decide) Q23.out))
     have K25 : Hid (Nx c (sj) (sj.up)) := (nx_up NL.out.gs (isS_in (by decide) Q23.out))
     have J26 : Hid (Nx c sj (sj.up)) := K25.out
     have N27 : Hid (Nx c s (sj.up)) := NL.out.nx K25.out
     go_wp2_with fail
     refine (n_run (t := .expr) rfl rfl trivial G23.out (IH.out .expr _ N27.out.gs (mu_nx N27.out (fun hb => absurd LV.out (by omega))))).mono ?_
     rintro e w28 ⟨r28, v28, rfl, hM, hG, hN, hW, hL, hO, hP⟩
     have M28 := Lib.hid hM
     have G28 := Lib.hid hG
     have W29 := Lib.hid (W24.out.off hO hlt.out)
     have W28 := Lib.hid hW
     have L28 := Lib.hid hL
     have P28 := Lib.hid hP
     have K30 : Hid (Nx c (sj.up) (r28.s)) := hN
     have J31 : Hid (Nx c sj (r28.s)) := J26.out.nx K30.out
     have N32 : Hid (Nx c s (r28.s)) := N27.out.nx K30.out
     clear hM hG hN hW hL hO hP
     go_wp2_with fail
     refine (n_join (by have := BX.out; (try simp only [List.length_append, mk_len, List.length_nil] at *); omega) (by have := L28.out; (try simp only [List.length_append, mk_len, List.length_nil] at *); omega) G28.out W29.out W28.out).mono ?_
     rintro e w33 ⟨v33, rfl, hW, hG, hB⟩
     have W33 := Lib.hid hW
     have G33 := Lib.hid hG
     have L33 := Lib.hid (show (L ++ r28.l).length ≤ 1700101 by have := BX.out; have := L28.out; (try simp only [List.length_append, mk_len, List.length_nil] at *); omega)
     clear hW hG hB
     go_wp2_with fail
     refine (n_make 33 [] 2 2 rfl (by decide) (by have := L33.out; (try simp only [List.length_append, mk_len, List.length_nil] at *); omega) G33.out W33.out).mono ?_
     rintro e w36 ⟨v36, rfl, hW, hG, hB⟩
     have W36 := Lib.hid hW
     have G36 := Lib.hid hG
     clear hW hG hB
     go_wp2_with fail
     refine (n_need [93] (by decide) G36.out).mono ?_; rintro e w38 ⟨rfl, hG, hO⟩
     have G38 := Lib.hid hG
     have W39 := Lib.hid (W36.out.off hO G33.out.ltb)
     clear hG hO
     have K40 : Hid (Nx c (r28.s) (needS c r28.s [93])) := (nx_need hc.out [93] (by decide) N32.out.gs)
     have J41 : Hid (Nx c sj (needS c r28.s [93])) := J31.out.nx K40.out
     have N42 : Hid (Nx c s (needS c r28.s [93])) := N32.out.nx K40.out
     go_wp2_with fail
     have hle := GL.out.st.1.le
     go_roundg (ml c (needS c r28.s [93]))
     case measure => exact ml_nx J41.out HB1.out hle
     case rel =>
      have h1 := BL.out.1 HB1.out
      refine ⟨needS c r28.s [93], mkL 33 [] 2 (L ++ r28.l), rfl, G38.out, N42.out.le, W39.out.mono (Nat.le_trans hBW.out G33.out.size), ?_, fun r hr => DL.out r (MD.mk2 M28.out hr fun m h0 h1 => by simp only [bodyM, bm, rm, HB1.out, Q2.out, Q23.out, h0, h1, if_true, Bool.false_eq_true, if_false, true_and, and_true, and_self, false_and, or_true, Bool.true_eq_false, and_false, Int.reduceEq, false_or, or_false, true_or])⟩
      have h2 := BL.out.2
      have hb := HB1.out
      have := up_f sj
      have := N42.out.gs.1
      have := K25.out.live
      have := K25.out.dead
      have := K25.out.gs.1
      have := K30.out.live
      have := K30.out.dead
      have := K30.out.gs.1
      have := K40.out.live
      have := K40.out.dead
      have := K40.out.gs.1
      have := LQ23.out
      have := J26.out.live hb
      have := J31.out.live hb
      have := J41.out.live hb
      have t0 := P28.out.tri
      simp only [ac, dl, kp, lp, Bool.false_eq_true, false_or, true_or, and_true] at t0
      rcases t0 with t0 | t0 | t0
      all_goals exact ⟨fun hX => by (try simp only [List.length_append, mk_len, List.length_nil]); omega, by (try simp only [List.length_append, mk_len, List.length_nil]); omega⟩
   ·have Q43 := Lib.hid hq
    clear hq
    refine (n_yes [46] (by decide) GL.out Q43.out).mono ?_; rintro e w43 ⟨rfl, hG, hO⟩
    have G43 := Lib.hid hG
    have W44 := Lib.hid (WL.out.off hO hlt.out)
    clear hG hO
    have LQ43 := Lib.hid (Gs.live NL.out.gs (isS_in (by decide) Q43.out))
    have K45 : Hid (Nx c (sj) (sj.up)) := (nx_up NL.out.gs (isS_in (by decide) Q43.out))
    have J46 : Hid (Nx c sj (sj.up)) := K45.out
    have N47 : Hid (Nx c s (sj.up)) := NL.out.nx K45.out
    go_wp2_with fail
    refine (n_key G43.out).mono ?_; rintro e w48 ⟨rfl, hG, hO⟩
    have G48 := Lib.hid hG
    have W49 := Lib.hid (W44.out.off hO hlt.out)
    clear hG hO
    have K50 : Hid (Nx c (sj.up) ((keyS c sj.up).2)) := (nx_key hc.out N47.out.gs)
    have J51 : Hid (Nx c sj ((keyS c sj.up).2)) := J46.out.nx K50.out
    have N52 : Hid (Nx c s ((keyS c sj.up).2)) := N47.out.nx K50.out
    go_wp2_with fail
    refine (n_make 32 ((keyS c sj.up).1) 1 1 rfl (by decide) (by have := BX.out; (try simp only [List.length_append, mk_len, List.length_nil] at *); omega) G48.out W49.out).mono ?_
    rintro e w53 ⟨v53, rfl, hW, hG, hB⟩
    have W53 := Lib.hid hW
    have G53 := Lib.hid hG
    clear hW hG hB
    go_wp2_with fail
    have hle := GL.out.st.1.le
    go_roundg (ml c ((keyS c sj.up).2))
    case measure => exact ml_nx J51.out HB1.out hle
    case rel =>
     have h1 := BL.out.1 HB1.out
     refine ⟨(keyS c sj.up).2, mkL 32 ((keyS c sj.up).1) 1 L, rfl, G53.out, N52.out.le, W53.out.mono (Nat.le_trans hBW.out G48.out.size), ?_, fun r hr => DL.out r (MD.mk1  hr fun m  h0 => by simp only [bodyM, bm, rm, HB1.out, Q43.out, h0, if_true, Bool.false_eq_true, if_false, true_and, and_true, and_self, false_and, or_true, Bool.true_eq_false, and_false, Int.reduceEq, false_or, or_false, true_or])⟩
     have h2 := BL.out.2
     have hb := HB1.out
     have := up_f sj
     have := N52.out.gs.1
     have := K45.out.live
     have := K45.out.dead
     have := K45.out.gs.1
     have := K50.out.live
     have := K50.out.dead
     have := K50.out.gs.1
     have := LQ43.out
     have := J46.out.live hb
     have := J51.out.live hb
     all_goals exact ⟨fun hX => by (try simp only [List.length_append, mk_len, List.length_nil]); omega, by (try simp only [List.length_append, mk_len, List.length_nil]); omega⟩
  ·have HB55 := Lib.hid (Int.not_lt.1 hb)
   go_wp2_with fail
   go_ret
   exact ⟨⟨[], 0, sj⟩, _, DL.out _ (MD.mk0 fun m => by simp only [bodyM, bm, rm, (Int.not_lt.2 HB55.out), if_true, Bool.false_eq_true, if_false, true_and, and_true, and_self, false_and, or_true, Bool.true_eq_false, and_false, Int.reduceEq, false_or, or_false, true_or]), rfl, GL.out.st, NO.nil _ _⟩
theorem ct_all (c : Cr) (hR : Rt c) : ∀ (n : Nat) (t : MT) (s : Ss), Gs c s → mu c t s < n → Ct c t s
 | 0, _, _, _, hn => absurd hn (Nat.not_lt_zero _)
 | n + 1, t, s, hg, hn => by
  have IH : Ih c t s := fun t' s' hg' hl => ct_all c hR n t' s' hg' (by omega)
  cases t with
  | element => exact d_element c s hg hR IH
  | statement => exact d_statement c s hg hR IH
  | brackets => exact d_brackets c s hg hR IH
  | short => exact d_short c s hg hR IH
  | expr => exact d_expr c s hg hR IH
  | assign => exact d_assign c s hg hR IH
  | cond => exact d_cond c s hg hR IH
  | unary => exact d_unary c s hg hR IH
  | first => exact d_first c s hg hR IH
  | primary => exact d_primary c s hg hR IH
  | list stop => exact d_list c stop s hg hR IH
  | binary l => exact d_binary c l s hg hR IH
  | behind x calls =>
   cases calls
   ·exact trivial
   ·exact d_behind_true c x s hg hR IH
  | _ => trivial
theorem element_at (c : Cr) (hR : Rt c) (s : Ss) (hg : Gs c s) : Ct c .element s := ct_all c hR _ _ _ hg (Nat.lt_succ_self _)
end Go.Proofs.YtnkfodelgpidkaaGreatDoor
