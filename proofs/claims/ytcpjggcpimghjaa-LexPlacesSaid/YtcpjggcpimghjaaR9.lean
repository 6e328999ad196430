/- The document's reading of the token at the front. -/
import Derived.Test.YtcpjggcpimghjaaR5
import Derived.Test.YtcpjggcpimghjaaR7
import Derived.Test.YtcpjggcpimghjaaR8
import Derived.Test.YtcpjggcpimghjaaToks
namespace Go.Proofs.Ytcpjggcpimghjaa
open Go.RowKit
set_option linter.unusedVariables false

def NextPost (w : World) (x : Option (Tk × Nat)) (e : Ending) (w' : World) : Prop := match x with
  | some (t, n) => e = .returned (.tuple #[tkV t 0, .int .i64 (n : Int)]) ∧ Below w.heap.size w w'
  | none => ∃ k t b, e = .returned (.tuple #[.agg #[.int .i64 k, .int .i64 0, .string t, .int .u64 b], .int .i64 0]) ∧ Below w.heap.size w w'
theorem np_some {w w' : World} {x : Option (Tk × Nat)} {t : Tk} {n : Nat} {e : Ending} (h : x = some (t, n)) (he : e = .returned (.tuple #[tkV t 0, .int .i64 (n : Int)])) (hb : Below w.heap.size w w') : NextPost w x e w' := by subst h; exact ⟨he, hb⟩
theorem np_none {w w' : World} {x : Option (Tk × Nat)} {k b : Int} {t : ByteArray} {e : Ending} (h : x = none) (he : e = .returned (.tuple #[.agg #[.int .i64 k, .int .i64 0, .string t, .int .u64 b], .int .i64 0])) (hb : Below w.heap.size w w') : NextPost w x e w' := by subst h; exact ⟨k, t, b, he, hb⟩
theorem next_res {wf : World} {g : Nat} {x0 x1 x2 x3 v : Value} (h : B4 wf g x0 x1 x2 x3) (tmps : Array Value) (ht : tmps[2]?.getD undef = .pointer (some ⟨g, 0, none⟩)) (hv : tmps[3]?.getD undef = v) :
    (results Try.f19 tmps).run Try.prog wf = .ok (.tuple #[.agg #[x0, x1, x2, x3], v]) wf := by
  have e0 := h.c0
  have e1 := h.c1
  have e2 := h.c2
  have e3 := h.c3
  simp [results, Try.results19, go_sem, ht, hv, e0, e1, e2, e3]
theorem B4.below {w w' : World} {g B : Nat} {x0 x1 x2 x3 : Value} (h : B4 w g x0 x1 x2 x3) (hb : Below B w w') (hg : g < B) : B4 w' g x0 x1 x2 x3 := (hb.block g hg).trans h
theorem take_list (s : ByteArray) (n : Nat) : (s.extract 0 n).data.toList = s.data.toList.take n := by rw [Lib.extract_data, List.drop_zero, Nat.sub_zero]
theorem take_bs (s : ByteArray) (n : Nat) : s.extract 0 n = bs (s.data.toList.take n) := bs_eq (take_list s n)

set_option maxRecDepth 100000 in
set_option maxHeartbeats 8000000 in
theorem rnext_tok (s : ByteArray) (hs : s.size ≤ 100000) (h0 : 0 < s.size) (w : World) :
    Calls Try.prog 19 #[.string s] w (NextPost w (tokO s.data.toList)) := by
  have N := Lib.hid (fun w => rname_any s (by omega) w)
  have hL := drop_cons s 0 h0
  rw [List.drop_zero] at hL
  have HNN : Hid (nameN s.data.toList = if letB (s[0].toNat : Int) then nmL s.data.toList else 0) := by
    show _ = _; unfold nameN; rw [hL]; rfl
  have NPP := Lib.hid (np_parts (s[0].toNat : Int))
  have HTK : Hid (tokO s.data.toList = if digB (s[0].toNat : Int) then (match numO (s.data.toList.take (nmL s.data.toList)) with | none => none | some n => some (⟨3, 0, [], ofI n⟩, nmL s.data.toList))
      else if npB (s[0].toNat : Int) then some (⟨if wordB (s.data.toList.take (nmL s.data.toList)) then 2 else 1, 0, s.data.toList.take (nmL s.data.toList), 0⟩, nmL s.data.toList)
      else if (s[0].toNat : Int) = 39 ∨ (s[0].toNat : Int) = 34 then (match txt s[0] (s.data.toList.drop 1) with | none => none | some (o, m) => some (⟨4, 0, o, 0⟩, m + 1))
      else if sgnN s.data.toList 4 = 0 then none else some (⟨5, 0, s.data.toList.take (sgnN s.data.toList 4), 0⟩, sgnN s.data.toList 4)) := by
    have e : tokO s.data.toList = tokO (s[0] :: s.data.toList.drop (0 + 1)) := by rw [← hL]
    show _ = _
    rw [e, tokO, ← hL]; rfl
  have HB0 := Lib.hid (B4.new w (.int .i64 0) (.int .i64 0) (.string ⟨#[]⟩) (.int .u64 0))
  have HBL := Lib.hid ((Below.refl w.heap.size w).alloc (Nat.le_refl _) (.cells #[.int .i64 0, .int .i64 0, .string ⟨#[]⟩, .int .u64 0] 35))
  obtain ⟨wa, hwa⟩ : ∃ wa, wa = w.alloc (.cells #[.int .i64 0, .int .i64 0, .string ⟨#[]⟩, .int .u64 0] 35) := ⟨_, rfl⟩
  rw [← hwa] at HB0 HBL
  have HWA := Lib.hid hwa
  clear hwa
  have b0 := HB0.out.c0
  have b1 := HB0.out.c1
  have b2 := HB0.out.c2
  have b3 := HB0.out.c3
  have fb := HB0.out.fz
  have FIN : Hid (∀ (wb : World), B4 wb w.heap.size (.int .i64 0) (.int .i64 0) (.string ⟨#[]⟩) (.int .u64 0) → Below w.heap.size w wb → ∀ u0 u1 u2 u3 : Value,
      B4 ((((wb.setCell ⟨w.heap.size, 0, none⟩ u0).setCell ⟨w.heap.size, 1, none⟩ u1).setCell ⟨w.heap.size, 2, none⟩ u2).setCell ⟨w.heap.size, 3, none⟩ u3) w.heap.size u0 u1 u2 u3 ∧
      Below w.heap.size w ((((wb.setCell ⟨w.heap.size, 0, none⟩ u0).setCell ⟨w.heap.size, 1, none⟩ u1).setCell ⟨w.heap.size, 2, none⟩ u2).setCell ⟨w.heap.size, 3, none⟩ u3)) := by
    intro wb h hb u0 u1 u2 u3
    exact ⟨(((h.s0 u0).s1 u1).s2 u2).s3 u3, (((hb.setCell (p := ⟨w.heap.size, 0, none⟩) (Nat.le_refl _) u0).setCell (p := ⟨w.heap.size, 1, none⟩) (Nat.le_refl _) u1).setCell (p := ⟨w.heap.size, 2, none⟩) (Nat.le_refl _) u2).setCell (p := ⟨w.heap.size, 3, none⟩) (Nat.le_refl _) u3⟩
  generalize tokO s.data.toList = tk at *
  cases hl : letB (s[0].toNat : Int)
  · rw [hl] at HNN NPP
    have HN0 : Hid (nameN s.data.toList = 0) := HNN.out
    rw [HN0.out] at N
    have D := Lib.hid (fun w => rDigit_any (s[0].toNat : Int) w)
    cases hd : digB (s[0].toNat : Int)
    · rw [hd] at D NPP HTK
      rw [NPP.out] at HTK
      clear hl hd
      by_cases hq : (s[0].toNat : Int) = 39 ∨ (s[0].toNat : Int) = 34
      · have T := Lib.hid (fun w => rtext_any s hs h0 w)
        have HT2 : Hid (tk = match txt s[0] (s.data.toList.drop 1) with | none => none | some (o, m) => some (⟨4, 0, o, 0⟩, m + 1)) := by
          have := HTK.out; simp only [Bool.false_eq_true, Bool.or_false, if_false, if_pos hq] at this; exact this
        have TN := Lib.hid (@tx_n s[0] (s.data.toList.drop 1))
        have TS := Lib.hid (fun o n => @tx_s s[0] (s.data.toList.drop 1) o n)
        have hq2 : ((s[0].toNat : Int) == 39) = true ∨ (((s[0].toNat : Int) == 39) = false ∧ ((s[0].toNat : Int) == 34) = true) := by
          rcases hq with h | h
          · exact .inl (by rw [h]; rfl)
          · exact .inr ⟨by rw [h]; rfl, by rw [h]; rfl⟩
        generalize txN s[0] (s.data.toList.drop 1) = zn at *
        generalize txS s[0] (s.data.toList.drop 1) = zs at *
        generalize txt s[0] (s.data.toList.drop 1) = x at *
        clear hq
        have FZ : Hid (∀ (wb : World) (hb : Below w.heap.size w wb) (h4 : B4 wb w.heap.size (.int .i64 0) (.int .i64 0) (.string ⟨#[]⟩) (.int .u64 0)) (tmps : Array Value), tmps[2]?.getD undef = .pointer (some ⟨w.heap.size, 0, none⟩) → tmps[3]?.getD undef = .int .i64 (zn : Int) →
            bodyPost Try.prog Try.f19 (NextPost w tk) .ret { tmps := tmps, defers := [] } ((((wb.setCell ⟨w.heap.size, 0, none⟩ (.int .i64 4)).setCell ⟨w.heap.size, 1, none⟩ (.int .i64 0)).setCell ⟨w.heap.size, 2, none⟩ (.string zs)).setCell ⟨w.heap.size, 3, none⟩ (.int .u64 0))) := by
          intro wb hb h4 tmps t2 t3
          obtain ⟨g4, gb⟩ := FIN.out wb h4 hb (.int .i64 4) (.int .i64 0) (.string zs) (.int .u64 0)
          refine bodyPost_ret (next_res g4 tmps t2 t3) rfl ?_
          rcases x with _ | ⟨o, m⟩
          · obtain ⟨rfl, rfl⟩ := TN.out rfl
            exact np_none HT2.out rfl gb
          · obtain ⟨rfl, rfl⟩ := TS.out o m rfl
            exact np_some HT2.out rfl gb
        rcases hq2 with h39 | ⟨h39, h34⟩
        all_goals
          go_enter Try.func19, Try.ntmps19
          go_wp2_with fail
          rw [← HWA.out]
          refine (N.out _).mono ?_; rintro e w' ⟨rfl, rfl⟩
          go_wp2_with fail
          refine (D.out _).mono ?_; rintro e w' ⟨rfl, rfl⟩
          go_wp2_with fail
          refine (T.out _).mono ?_; rintro e wb ⟨rfl, hB⟩
          have HB1 := Lib.hid (HB0.out.below hB HB0.out.lt)
          have HBB := Lib.hid (below_trans HBL.out hB HBL.out.size)
          have c0 := HB1.out.c0
          have c1 := HB1.out.c1
          have c2 := HB1.out.c2
          have c3 := HB1.out.c3
          have fc := HB1.out.fz
          clear hB
          go_wp2_with fail
          exact FZ.out wb HBB.out HB1.out _ rfl rfl
      · -- a sign
        have HT2 : Hid (tk = if sgnN s.data.toList 4 = 0 then none else some (⟨5, 0, s.data.toList.take (sgnN s.data.toList 4), 0⟩, sgnN s.data.toList 4)) := by
          have := HTK.out; simp only [Bool.false_eq_true, Bool.or_false, if_false, if_neg hq] at this; exact this
        have n39 : ((s[0].toNat : Int) == 39) = false := by rw [beq_eq_false_iff_ne]; exact fun h => hq (.inl h)
        have n34 : ((s[0].toNat : Int) == 34) = false := by rw [beq_eq_false_iff_ne]; exact fun h => hq (.inr h)
        clear hq
        go_enter Try.func19, Try.ntmps19
        go_wp2_with fail
        rw [← HWA.out]
        refine (N.out _).mono ?_; rintro e w' ⟨rfl, rfl⟩
        go_wp2_with fail
        refine (D.out _).mono ?_; rintro e w' ⟨rfl, rfl⟩
        go_wp2_with fail
        go_loop [9] (fun nn => ∃ n : Nat, nn = .int .i64 (n : Int) ∧ n ≤ 4 ∧ Hid (sgnN s.data.toList 4 = sgnN s.data.toList n)) (fun nn => (intOf nn).toNat)
        case atStart => exact ⟨4, rfl, by omega, rfl⟩
        case round =>
          obtain ⟨n, rfl, hn4, HC⟩ := hrel
          rcases n with _ | m
          · have E : Hid (tk = none) := HT2.out.trans (if_pos (HC.out.trans rfl))
            go_wp2_with fail
            obtain ⟨g4, gb⟩ := FIN.out wa HB0.out HBL.out (.int .i64 0) (.int .i64 0) (.string ⟨#[]⟩) (.int .u64 0)
            exact bodyPost_ret (next_res g4 _ rfl rfl) rfl (np_none E.out rfl gb)
          · by_cases hlen : m + 1 ≤ s.size
            · have HTL := Lib.hid (take_list s (m + 1))
              have S := Lib.hid (fun w => rsign_any (s.extract 0 (m + 1)) w)
              rw [HTL.out] at S
              have hd1 : decide (m + 1 ≤ s.size) = true := by rw [decide_eq_true_eq]; exact hlen
              cases hsg : sgnB (s.data.toList.take (m + 1))
              · rw [hsg] at S
                have E := Lib.hid (HC.out.trans (sgnN_no hsg))
                clear hsg
                go_wp2_with fail
                refine (S.out _).mono ?_; rintro e w'' ⟨rfl, rfl⟩
                go_wp2_with fail
                go_round
                case rel => exact ⟨m, by go_num, by omega, E.out⟩
                case measure => simp [intOf]
              · rw [hsg] at S
                have E := Lib.hid (HC.out.trans (sgnN_yes (by rw [list_size']; exact hlen) hsg))
                have E2 : Hid (tk = some (⟨5, 0, s.data.toList.take (m + 1), 0⟩, m + 1)) := by
                  show _ = _; rw [HT2.out, E.out, if_neg (by omega)]
                have HTB := Lib.hid (take_bs s (m + 1))
                clear hsg
                go_wp2_with fail
                refine (S.out _).mono ?_; rintro e w'' ⟨rfl, rfl⟩
                go_wp2_with fail
                obtain ⟨g4, gb⟩ := FIN.out wa HB0.out HBL.out (.int .i64 5) (.int .i64 0) (.string (s.extract 0 (m + 1))) (.int .u64 0)
                exact bodyPost_ret (next_res g4 _ rfl rfl) rfl (np_some E2.out (by rw [HTB.out]; rfl) gb)
            · have hd1 : decide (m + 1 ≤ s.size) = false := by rw [decide_eq_false_iff_not]; exact hlen
              have hd2 : ¬ ((m : Int) + 1) ≤ (s.size : Int) := by omega
              have E := Lib.hid (HC.out.trans (sgnN_long (by rw [list_size']; omega)))
              go_wp2_with fail
              go_round
              case rel => exact ⟨m, by go_num, by omega, E.out⟩
              case measure => simp [intOf]
    · rw [hd] at D HTK
      have NU := Lib.hid (fun w => rnumber_any s (by omega) h0 hd w)
      have HT2 : Hid (tk = match numO (s.data.toList.take (nmL s.data.toList)) with | none => none | some n => some (⟨3, 0, [], ofI n⟩, nmL s.data.toList)) := HTK.out
      have TN := Lib.hid (@num_none s.data.toList)
      have TS := Lib.hid (fun v => @num_some s.data.toList v)
      generalize numN s.data.toList = zn at *
      generalize numB s.data.toList = zs at *
      generalize numO (s.data.toList.take (nmL s.data.toList)) = x at *
      clear hl hd
      go_enter Try.func19, Try.ntmps19
      go_wp2_with fail
      rw [← HWA.out]
      refine (N.out _).mono ?_; rintro e w' ⟨rfl, rfl⟩
      go_wp2_with fail
      refine (D.out _).mono ?_; rintro e w' ⟨rfl, rfl⟩
      go_wp2_with fail
      refine (NU.out _).mono ?_; rintro e w' ⟨rfl, rfl⟩
      go_wp2_with fail
      obtain ⟨g4, gb⟩ := FIN.out _ HB0.out HBL.out (.int .i64 3) (.int .i64 0) (.string ⟨#[]⟩) (.int .u64 zs)
      refine bodyPost_ret (next_res g4 _ rfl rfl) rfl ?_
      rcases x with _ | v
      · obtain ⟨rfl, rfl⟩ := TN.out rfl
        exact np_none HT2.out rfl gb
      · obtain ⟨e1, e2⟩ := TS.out v rfl
        subst e1 e2
        exact np_some HT2.out rfl gb
  · have hdg : digB (s[0].toNat : Int) = false := by
      unfold letB at hl; unfold digB; simp only [decide_eq_true_eq] at hl; rw [decide_eq_false_iff_not]; omega
    rw [hl] at HNN NPP
    rw [hdg] at HTK
    rw [NPP.out] at HTK
    have HN0 : Hid (nameN s.data.toList = nmL s.data.toList) := HNN.out
    rw [HN0.out] at N
    have hpos := nm_lt (s := s) (n := 0) (Nat.zero_le _) h0 NPP.out
    have htop := nm_top s
    have HT2 : Hid (tk = some (⟨if wordB (s.data.toList.take (nmL s.data.toList)) then 2 else 1, 0, s.data.toList.take (nmL s.data.toList), 0⟩, nmL s.data.toList)) := HTK.out
    have HTL := Lib.hid (take_list s (nmL s.data.toList))
    have HTB := Lib.hid (take_bs s (nmL s.data.toList))
    generalize nmL s.data.toList = n at *
    have W := Lib.hid (fun w => rword_any (s.extract 0 n) w)
    rw [HTL.out] at W
    clear hl hdg
    have hni : (0 : Int) < (n : Int) := by omega
    cases hw : wordB (s.data.toList.take n)
    · rw [hw] at W HT2
      clear hw
      go_enter Try.func19, Try.ntmps19
      go_wp2_with fail
      rw [← HWA.out]
      refine (N.out _).mono ?_; rintro e w' ⟨rfl, rfl⟩
      go_wp2_with fail
      refine (W.out _).mono ?_; rintro e w' ⟨rfl, rfl⟩
      go_wp2_with fail
      obtain ⟨g4, gb⟩ := FIN.out _ HB0.out HBL.out (.int .i64 1) (.int .i64 0) (.string (s.extract 0 n)) (.int .u64 0)
      exact bodyPost_ret (next_res g4 _ rfl rfl) rfl (np_some HT2.out (by rw [HTB.out]; rfl) gb)
    · rw [hw] at W HT2
      clear hw
      go_enter Try.func19, Try.ntmps19
      go_wp2_with fail
      rw [← HWA.out]
      refine (N.out _).mono ?_; rintro e w' ⟨rfl, rfl⟩
      go_wp2_with fail
      refine (W.out _).mono ?_; rintro e w' ⟨rfl, rfl⟩
      go_wp2_with fail
      obtain ⟨g4, gb⟩ := FIN.out _ HB0.out HBL.out (.int .i64 2) (.int .i64 0) (.string (s.extract 0 n)) (.int .u64 0)
      exact bodyPost_ret (next_res g4 _ rfl rfl) rfl (np_some HT2.out (by rw [HTB.out]; rfl) gb)
end Go.Proofs.Ytcpjggcpimghjaa
