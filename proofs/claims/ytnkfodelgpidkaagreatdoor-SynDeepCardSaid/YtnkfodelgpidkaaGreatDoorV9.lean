/- Part of a proof that the program keeps SynDeep: contracts of its functions and of the document's. -/
import Derived.Test.YtnkfodelgpidkaaGreatDoorV8
import Derived.Test.YtnkfodelgpidkaaGreatDoorV6
set_option maxRecDepth 100000
set_option maxHeartbeats 4000000
set_option linter.unusedVariables false
set_option linter.unusedSimpArgs false
namespace Go.Proofs.YtnkfodelgpidkaaGreatDoor
open Go.RowKit
def NextPost (w : World) (x : Option (Tk × Nat)) (e : Ending) (w' : World) : Prop := match x with
 | some (t, n) => e = .returned (.tuple #[tkV t 0, .int .i64 (n : Int)]) ∧ Below w.heap.size w w'
 | none => ∃ k t b, e = .returned (.tuple #[.agg #[.int .i64 k, .int .i64 0, .string t, .int .u64 b], .int .i64 0]) ∧ Below w.heap.size w w'
theorem np_some {w w' : World} {x : Option (Tk × Nat)} {t : Tk} {n : Nat} {e : Ending} (h : x = some (t, n)) (he : e = .returned (.tuple #[tkV t 0, .int .i64 (n : Int)])) (hb : Below w.heap.size w w') : NextPost w x e w' := by subst h; exact ⟨he, hb⟩
theorem np_none {w w' : World} {x : Option (Tk × Nat)} {k b : Int} {t : ByteArray} {e : Ending} (h : x = none) (he : e = .returned (.tuple #[.agg #[.int .i64 k, .int .i64 0, .string t, .int .u64 b], .int .i64 0])) (hb : Below w.heap.size w w') : NextPost w x e w' := by subst h; exact ⟨k, t, b, he, hb⟩
theorem next_res {wf : World} {g : Nat} {x0 x1 x2 x3 v : Value} (h : B4 wf g x0 x1 x2 x3) (tmps : Array Value) (ht : tmps[2]?.getD undef = .pointer (some ⟨g, 0, none⟩)) (hv : tmps[3]?.getD undef = v) :
  (results Tryz.f50 tmps).run Tryz.prog wf = .ok (.tuple #[.agg #[x0, x1, x2, x3], v]) wf := by
 have e0 := h.c0
 have e1 := h.c1
 have e2 := h.c2
 have e3 := h.c3
 simp [results, Tryz.results50, go_sem, ht, hv, e0, e1, e2, e3]
theorem B4.below {w w' : World} {g B : Nat} {x0 x1 x2 x3 : Value} (h : B4 w g x0 x1 x2 x3) (hb : Below B w w') (hg : g < B) : B4 w' g x0 x1 x2 x3 := (hb.block g hg).trans h
theorem take_list (s : ByteArray) (n : Nat) : (s.extract 0 n).data.toList = s.data.toList.take n := by rw [Lib.extract_data, List.drop_zero, Nat.sub_zero]
theorem take_bs (s : ByteArray) (n : Nat) : s.extract 0 n = bs (s.data.toList.take n) := bs_eq (take_list s n)
theorem rnext_tok (s : ByteArray) (hs : s.size ≤ 100000) (h0 : 0 < s.size) (w : World) :
    Calls Tryz.prog 50 #[.string s] w (NextPost w (tokO s.data.toList)) := by
  have N := Lib.hid (fun w => rname_any s (by omega) w)
  have hL := drop_cons s 0 h0
  rw [List.drop_zero] at hL
  have HNN : Hid (nameN s.data.toList = if letB (s[0].toNat : Int) then nmL s.data.toList else 0) := by
    show _ = _; unfold nameN; rw [hL]; rfl
  have NPP := Lib.hid (np_parts (s[0].toNat : Int))
  have HTK : Hid (tokO s.data.toList = if digB (s[0].toNat : Int) then (match numO (s.data.toList.take (nmL s.data.toList)) with | none => none | some n => some (⟨3, 0, [], ofI n⟩, nmL s.data.toList))
      else if npB (s[0].toNat : Int) then some (⟨if wordB (s.data.toList.take (nmL s.data.toList)) then 2 else 1, 0, s.data.toList.take (nmL s.data.toList), 0⟩, nmL s.data.toList)
      else if (s[0].toNat : Int) = 39 ∨ (s[0].toNat : Int) = 34 then (match txt s[0] (s.data.toList.drop 1) with | none => none | some (o, m) => some (⟨4, 0, o, 0⟩, m + 1))
      else if sgnN s.data.toList 4 = 0 then none else some (⟨5, 0, s.data.toList.take (sgnN s.data.toList 4), 0⟩, sgnN s.data.toList 4)) := by
    have e : tokO s.data.toList = tokO (s[0] :: s.data.toList.drop (0 + 1)) := by rw [← hL]
    show _ = _
    rw [e, tokO, ← hL]; rfl
  have HB0 := Lib.hid (B4.new w (.int .i64 0) (.int .i64 0) (.string ⟨#[]⟩) (.int .u64 0))
  have HBL := Lib.hid ((Below.refl w.heap.size w).alloc (Nat.le_refl _) (.cells #[.int .i64 0, .int .i64 0, .string ⟨#[]⟩, .int .u64 0] 42))
  obtain ⟨wa, hwa⟩ : ∃ wa, wa = w.alloc (.cells #[.int .i64 0, .int .i64 0, .string ⟨#[]⟩, .int .u64 0] 42) := ⟨_, rfl⟩
  rw [← hwa] at HB0 HBL
  have HWA := Lib.hid hwa
  clear hwa
  have b0 := HB0.out.c0
  have b1 := HB0.out.c1
  have b2 := HB0.out.c2
  have b3 := HB0.out.c3
  have fb := HB0.out.fz
  have FIN : Hid (∀ (wb : World), B4 wb w.heap.size (.int .i64 0) (.int .i64 0) (.string ⟨#[]⟩) (.int .u64 0) → Below w.heap.size w wb → ∀ u0 u1 u2 u3 : Value,
      B4 ((((wb.setCell ⟨w.heap.size, 0, none⟩ u0).setCell ⟨w.heap.size, 1, none⟩ u1).setCell ⟨w.heap.size, 2, none⟩ u2).setCell ⟨w.heap.size, 3, none⟩ u3) w.heap.size u0 u1 u2 u3 ∧
      Below w.heap.size w ((((wb.setCell ⟨w.heap.size, 0, none⟩ u0).setCell ⟨w.heap.size, 1, none⟩ u1).setCell ⟨w.heap.size, 2, none⟩ u2).setCell ⟨w.heap.size, 3, none⟩ u3)) := by
    intro wb h hb u0 u1 u2 u3
    exact ⟨(((h.s0 u0).s1 u1).s2 u2).s3 u3, (((hb.setCell (p := ⟨w.heap.size, 0, none⟩) (Nat.le_refl _) u0).setCell (p := ⟨w.heap.size, 1, none⟩) (Nat.le_refl _) u1).setCell (p := ⟨w.heap.size, 2, none⟩) (Nat.le_refl _) u2).setCell (p := ⟨w.heap.size, 3, none⟩) (Nat.le_refl _) u3⟩
  generalize tokO s.data.toList = tk at *
  cases hl : letB (s[0].toNat : Int)
  · rw [hl] at HNN NPP
    have HN0 : Hid (nameN s.data.toList = 0) := HNN.out
    rw [HN0.out] at N
    have D := Lib.hid (fun w => rDigit_any (s[0].toNat : Int) w)
    cases hd : digB (s[0].toNat : Int)
    · rw [hd] at D NPP HTK
      rw [NPP.out] at HTK
      clear hl hd
      by_cases hq : (s[0].toNat : Int) = 39 ∨ (s[0].toNat : Int) = 34
      · have T := Lib.hid (fun w => rlext_any s hs h0 w)
        have HT2 : Hid (tk = match txt s[0] (s.data.toList.drop 1) with | none => none | some (o, m) => some (⟨4, 0, o, 0⟩, m + 1)) := by
          have := HTK.out; simp only [Bool.false_eq_true, Bool.or_false, if_false, if_pos hq] at this; exact this
        have TN := Lib.hid (@tx_n s[0] (s.data.toList.drop 1))
        have TS := Lib.hid (fun o n => @tx_s s[0] (s.data.toList.drop 1) o n)
        have hq2 : ((s[0].toNat : Int) == 39) = true ∨ (((s[0].toNat : Int) == 39) = false ∧ ((s[0].toNat : Int) == 34) = true) := by
          rcases hq with h | h
          · exact .inl (by rw [h]; rfl)
          · exact .inr ⟨by rw [h]; rfl, by rw [h]; rfl⟩
        generalize txN s[0] (s.data.toList.drop 1) = zn at *
        generalize txS s[0] (s.data.toList.drop 1) = zs at *
        generalize txt s[0] (s.data.toList.drop 1) = x at *
        clear hq
        have FZ : Hid (∀ (wb : World) (hb : Below w.heap.size w wb) (h4 : B4 wb w.heap.size (.int .i64 0) (.int .i64 0) (.string ⟨#[]⟩) (.int .u64 0)) (tmps : Array Value), tmps[2]?.getD undef = .pointer (some ⟨w.heap.size, 0, none⟩) → tmps[3]?.getD undef = .int .i64 (zn : Int) →
            bodyPost Tryz.prog Tryz.f50 (NextPost w tk) .ret { tmps := tmps, defers := [] } ((((wb.setCell ⟨w.heap.size, 0, none⟩ (.int .i64 4)).setCell ⟨w.heap.size, 1, none⟩ (.int .i64 0)).setCell ⟨w.heap.size, 2, none⟩ (.string zs)).setCell ⟨w.heap.size, 3, none⟩ (.int .u64 0))) := by
          intro wb hb h4 tmps t2 t3
          obtain ⟨g4, gb⟩ := FIN.out wb h4 hb (.int .i64 4) (.int .i64 0) (.string zs) (.int .u64 0)
          refine bodyPost_ret (next_res g4 tmps t2 t3) rfl ?_
          rcases x with _ | ⟨o, m⟩
          · obtain ⟨rfl, rfl⟩ := TN.out rfl
            exact np_none HT2.out rfl gb
          · obtain ⟨rfl, rfl⟩ := TS.out o m rfl
            exact np_some HT2.out rfl gb
        rcases hq2 with h39 | ⟨h39, h34⟩
        all_goals
          go_enter Tryz.func50, Tryz.ntmps50
          go_wp2_with fail
          rw [← HWA.out]
          refine (N.out _).mono ?_; rintro e w' ⟨rfl, rfl⟩
          go_wp2_with fail
          refine (D.out _).mono ?_; rintro e w' ⟨rfl, rfl⟩
          go_wp2_with fail
          refine (T.out _).mono ?_; rintro e wb ⟨rfl, hB⟩
          have HB1 := Lib.hid (HB0.out.below hB HB0.out.lt)
          have HBB := Lib.hid (below_trans HBL.out hB HBL.out.size)
          have c0 := HB1.out.c0
          have c1 := HB1.out.c1
          have c2 := HB1.out.c2
          have c3 := HB1.out.c3
          have fc := HB1.out.fz
          clear hB
          go_wp2_with fail
          exact FZ.out wb HBB.out HB1.out _ rfl rfl
      · -- a sign
        have HT2 : Hid (tk = if sgnN s.data.toList 4 = 0 then none else some (⟨5, 0, s.data.toList.take (sgnN s.data.toList 4), 0⟩, sgnN s.data.toList 4)) := by
          have := HTK.out; simp only [Bool.false_eq_true, Bool.or_false, if_false, if_neg hq] at this; exact this
        have n39 : ((s[0].toNat : Int) == 39) = false := by rw [beq_eq_false_iff_ne]; exact fun h => hq (.inl h)
        have n34 : ((s[0].toNat : Int) == 34) = false := by rw [beq_eq_false_iff_ne]; exact fun h => hq (.inr h)
        clear hq
        go_enter Tryz.func50, Tryz.ntmps50
        go_wp2_with fail
        rw [← HWA.out]
        refine (N.out _).mono ?_; rintro e w' ⟨rfl, rfl⟩
        go_wp2_with fail
        refine (D.out _).mono ?_; rintro e w' ⟨rfl, rfl⟩
        go_wp2_with fail
        go_loop [9] (fun nn => ∃ n : Nat, nn = .int .i64 (n : Int) ∧ n ≤ 4 ∧ Hid (sgnN s.data.toList 4 = sgnN s.data.toList n)) (fun nn => (intOf nn).toNat)
        case atStart => exact ⟨4, rfl, by omega, rfl⟩
        case round =>
          obtain ⟨n, rfl, hn4, HC⟩ := hrel
          rcases n with _ | m
          · have E : Hid (tk = none) := HT2.out.trans (if_pos (HC.out.trans rfl))
            go_wp2_with fail
            obtain ⟨g4, gb⟩ := FIN.out wa HB0.out HBL.out (.int .i64 0) (.int .i64 0) (.string ⟨#[]⟩) (.int .u64 0)
            exact bodyPost_ret (next_res g4 _ rfl rfl) rfl (np_none E.out rfl gb)
          · by_cases hlen : m + 1 ≤ s.size
            · have HTL := Lib.hid (take_list s (m + 1))
              have S := Lib.hid (fun w => rsign_any (s.extract 0 (m + 1)) w)
              rw [HTL.out] at S
              have hd1 : decide (m + 1 ≤ s.size) = true := by rw [decide_eq_true_eq]; exact hlen
              cases hsg : sgnB (s.data.toList.take (m + 1))
              · rw [hsg] at S
                have E := Lib.hid (HC.out.trans (sgnN_no hsg))
                clear hsg
                go_wp2_with fail
                refine (S.out _).mono ?_; rintro e w'' ⟨rfl, rfl⟩
                go_wp2_with fail
                go_round
                case rel => exact ⟨m, by go_num, by omega, E.out⟩
                case measure => simp [intOf]
              · rw [hsg] at S
                have E := Lib.hid (HC.out.trans (sgnN_yes (by rw [list_size']; exact hlen) hsg))
                have E2 : Hid (tk = some (⟨5, 0, s.data.toList.take (m + 1), 0⟩, m + 1)) := by
                  show _ = _; rw [HT2.out, E.out, if_neg (by omega)]
                have HTB := Lib.hid (take_bs s (m + 1))
                clear hsg
                go_wp2_with fail
                refine (S.out _).mono ?_; rintro e w'' ⟨rfl, rfl⟩
                go_wp2_with fail
                obtain ⟨g4, gb⟩ := FIN.out wa HB0.out HBL.out (.int .i64 5) (.int .i64 0) (.string (s.extract 0 (m + 1))) (.int .u64 0)
                exact bodyPost_ret (next_res g4 _ rfl rfl) rfl (np_some E2.out (by rw [HTB.out]; rfl) gb)
            · have hd1 : decide (m + 1 ≤ s.size) = false := by rw [decide_eq_false_iff_not]; exact hlen
              have hd2 : ¬ ((m : Int) + 1) ≤ (s.size : Int) := by omega
              have E := Lib.hid (HC.out.trans (sgnN_long (by rw [list_size']; omega)))
              go_wp2_with fail
              go_round
              case rel => exact ⟨m, by go_num, by omega, E.out⟩
              case measure => simp [intOf]
    · rw [hd] at D HTK
      have NU := Lib.hid (fun w => rnumber_any s (by omega) h0 hd w)
      have HT2 : Hid (tk = match numO (s.data.toList.take (nmL s.data.toList)) with | none => none | some n => some (⟨3, 0, [], ofI n⟩, nmL s.data.toList)) := HTK.out
      have TN := Lib.hid (@num_none s.data.toList)
      have TS := Lib.hid (fun v => @num_some s.data.toList v)
      generalize numN s.data.toList = zn at *
      generalize numB s.data.toList = zs at *
      generalize numO (s.data.toList.take (nmL s.data.toList)) = x at *
      clear hl hd
      go_enter Tryz.func50, Tryz.ntmps50
      go_wp2_with fail
      rw [← HWA.out]
      refine (N.out _).mono ?_; rintro e w' ⟨rfl, rfl⟩
      go_wp2_with fail
      refine (D.out _).mono ?_; rintro e w' ⟨rfl, rfl⟩
      go_wp2_with fail
      refine (NU.out _).mono ?_; rintro e w' ⟨rfl, rfl⟩
      go_wp2_with fail
      obtain ⟨g4, gb⟩ := FIN.out _ HB0.out HBL.out (.int .i64 3) (.int .i64 0) (.string ⟨#[]⟩) (.int .u64 zs)
      refine bodyPost_ret (next_res g4 _ rfl rfl) rfl ?_
      rcases x with _ | v
      · obtain ⟨rfl, rfl⟩ := TN.out rfl
        exact np_none HT2.out rfl gb
      · obtain ⟨e1, e2⟩ := TS.out v rfl
        subst e1 e2
        exact np_some HT2.out rfl gb
  · have hdg : digB (s[0].toNat : Int) = false := by
      unfold letB at hl; unfold digB; simp only [decide_eq_true_eq] at hl; rw [decide_eq_false_iff_not]; omega
    rw [hl] at HNN NPP
    rw [hdg] at HTK
    rw [NPP.out] at HTK
    have HN0 : Hid (nameN s.data.toList = nmL s.data.toList) := HNN.out
    rw [HN0.out] at N
    have hpos := nm_lt (s := s) (n := 0) (Nat.zero_le _) h0 NPP.out
    have htop := nm_top s
    have HT2 : Hid (tk = some (⟨if wordB (s.data.toList.take (nmL s.data.toList)) then 2 else 1, 0, s.data.toList.take (nmL s.data.toList), 0⟩, nmL s.data.toList)) := HTK.out
    have HTL := Lib.hid (take_list s (nmL s.data.toList))
    have HTB := Lib.hid (take_bs s (nmL s.data.toList))
    generalize nmL s.data.toList = n at *
    have W := Lib.hid (fun w => rword_any (s.extract 0 n) w)
    rw [HTL.out] at W
    clear hl hdg
    have hni : (0 : Int) < (n : Int) := by omega
    cases hw : wordB (s.data.toList.take n)
    · rw [hw] at W HT2
      clear hw
      go_enter Tryz.func50, Tryz.ntmps50
      go_wp2_with fail
      rw [← HWA.out]
      refine (N.out _).mono ?_; rintro e w' ⟨rfl, rfl⟩
      go_wp2_with fail
      refine (W.out _).mono ?_; rintro e w' ⟨rfl, rfl⟩
      go_wp2_with fail
      obtain ⟨g4, gb⟩ := FIN.out _ HB0.out HBL.out (.int .i64 1) (.int .i64 0) (.string (s.extract 0 n)) (.int .u64 0)
      exact bodyPost_ret (next_res g4 _ rfl rfl) rfl (np_some HT2.out (by rw [HTB.out]; rfl) gb)
    · rw [hw] at W HT2
      clear hw
      go_enter Tryz.func50, Tryz.ntmps50
      go_wp2_with fail
      rw [← HWA.out]
      refine (N.out _).mono ?_; rintro e w' ⟨rfl, rfl⟩
      go_wp2_with fail
      refine (W.out _).mono ?_; rintro e w' ⟨rfl, rfl⟩
      go_wp2_with fail
      obtain ⟨g4, gb⟩ := FIN.out _ HB0.out HBL.out (.int .i64 2) (.int .i64 0) (.string (s.extract 0 n)) (.int .u64 0)
      exact bodyPost_ret (next_res g4 _ rfl rfl) rfl (np_some HT2.out (by rw [HTB.out]; rfl) gb)
end Go.Proofs.YtnkfodelgpidkaaGreatDoor
namespace Go.Proofs.YtnkfodelgpidkaaGreatDoor
open Go.RowKit
theorem rtok_new (w : World) (k q b : Int) (x : ByteArray) : ∀ (j : Nat) (u : Value), ([.int .i64 k, .int .i64 q, .string x, .int .u64 b] : List Value)[j]? = some u → (w.alloc (.cells #[.int .i64 k, .int .i64 q, .string x, .int .u64 b] 42)).cell? ((⟨w.heap.size, 0, none⟩ : Addr).add j) = some u := by
 intro j u hj
 match j, hj with
 | 0, hj => simp at hj; subst hj; simp [Addr.add]
 | 1, hj => simp at hj; subst hj; simp [Addr.add]
 | 2, hj => simp at hj; subst hj; simp [Addr.add]
 | 3, hj => simp at hj; subst hj; simp [Addr.add]
theorem tok_new1 (w : World) (o : Obj) (k q b : Int) (x : ByteArray) : ∀ (j : Nat) (u : Value), ([.int .i64 k, .int .i64 q, .string x, .int .u64 b] : List Value)[j]? = some u → ((w.alloc o).alloc (.cells #[.int .i64 k, .int .i64 q, .string x, .int .u64 b] 42)).cell? ((⟨w.heap.size + 1, 0, none⟩ : Addr).add j) = some u := by
 have e : w.heap.size + 1 = (w.alloc o).heap.size := by simp
 rw [e]; exact rtok_new _ k q b x
theorem tok_ones (k q b : Int) (x : ByteArray) : ∀ u ∈ ([.int .i64 k, .int .i64 q, .string x, .int .u64 b] : List Value), u.oneCell' = true := by
 intro u hu; simp at hu; rcases hu with rfl | rfl | rfl | rfl <;> rfl
theorem ret_at6 {a c : Int} (h : a = c) : (Ending.returned (.tuple #[.slice none 0 0, .int .i64 a, .int .i64 6])) = .returned (.tuple #[.slice none 0 0, .int .i64 c, .int .i64 6]) := by rw [h]
theorem ret_at {a c : Int} (h : a = c) : (Ending.returned (.tuple #[.slice none 0 0, .int .i64 a, .int .i64 5])) = .returned (.tuple #[.slice none 0 0, .int .i64 c, .int .i64 5]) := by rw [h]
theorem rTokens_any (s : ByteArray) (hs : s.size ≤ 100000) (w : World) :
  Calls Tryz.prog 28 #[.string s] w (FacePost w (lexL s.data.toList)) := by
 obtain ⟨i0, hi, hz0, hz1, hz2⟩ := info_parts tinfo
 have HII := Lib.hid hi
 have HZ0 := Lib.hid hz0
 have HZ1 := Lib.hid hz1
 have HZ2 := Lib.hid hz2
 clear hi hz0 hz1 hz2
 have HL : Hid (lexL s.data.toList = if 4096 < s.size then .error (0, 3) else match chk s.data.toList 0 with | some k => .error ((k : Int), 4) | none => lexA s.data.toList 0 0) := by
  show _ = _; unfold lexL; rw [list_size']; rfl
 have CK := Lib.hid (fun w => rcheck_any s (by omega) w)
 have HCA : Hid (chkA s.data.toList = match chk s.data.toList 0 with | some k => (k : Int) | none => 0) := rfl
 have HCE : Hid (chkE s.data.toList = match chk s.data.toList 0 with | some _ => 4 | none => 0) := rfl
 generalize lexL s.data.toList = G at *
 generalize chkA s.data.toList = ca at *
 generalize chkE s.data.toList = ce at *
 by_cases hl : 4096 < s.size
 ·have E := Lib.hid (HL.out.trans (if_pos hl))
  have hli : (4096 : Int) < (s.size : Int) := by omega
  go_enter Tryz.func28, Tryz.ntmps28
  go_wp2_with fail
  go_ret3
  exact fp_err E.out rfl (Below.refl _ _)
 ·have hli : ¬ (4096 : Int) < (s.size : Int) := by omega
  have HL2 := Lib.hid (HL.out.trans (if_neg hl))
  generalize hck : chk s.data.toList 0 = ck at *
  clear hck
  rcases ck with _ | k
  ·have hce : ce = 0 := HCE.out
   subst hce
   have E0 : Hid (G = lexA (s.data.toList.drop 0) ((0 : Nat) : Int) 0) := HL2.out
   go_enter Tryz.func28, Tryz.ntmps28
   go_wp2_with fail
   refine (CK.out _).mono ?_; rintro e w1 ⟨rfl, hB⟩
   go_wp2_with fail
   go_loopg [7, 8, 9] s.size (fun g vv aa oo wr => ∃ (p : Nat) (op : Int) (acc : List Tk), g = s.size - p ∧ aa = .int .i64 (p : Int) ∧ oo = .int .i64 op ∧ p ≤ s.size ∧ 0 ≤ op ∧ op ≤ 240 ∧ acc.length ≤ p ∧ Hid (wr.ownsRow w.heap.size 42 4 vv acc.length (cellsOf acc)) ∧ Hid (Below w.heap.size w wr) ∧ Hid (G = pre acc (lexA (s.data.toList.drop p) (p : Int) op)))
   case atStart => exact ⟨0, 0, [], rfl, rfl, rfl, by omega, by omega, by omega, Nat.zero_le _, World.ownsRow_nil _ _ _ _, hB, by show _ = _; rw [pre_nil]; exact E0.out⟩
   case round =>
    obtain ⟨p, op, acc, rfl, rfl, rfl, hp, ho0, ho1, hacc, HW, HB, HG⟩ := hrel
    have RB := Lib.hid (fun w => rbetween_any (s.extract p s.size) (by rw [ByteArray.size_extract]; omega) w)
    rw [rest_list] at RB
    have GO := Lib.hid (fun k => @gi_ok (s.data.toList.drop p) k)
    have GB := Lib.hid (fun k => @gi_bad (s.data.toList.drop p) k)
    have GL := Lib.hid (gap_le _ (s.data.toList.drop p) (Nat.le_refl _))
    have LB := Lib.hid (fun m => @lexA_bad s p m op)
    have LO := Lib.hid (fun m => @lexA_ok s p m op)
    generalize gapI (s.data.toList.drop p) = gi at *
    generalize lexA (s.data.toList.drop p) (p : Int) op = X at *
    generalize hgg : gap (s.data.toList.drop p) = gg at *
    clear hgg
    obtain ⟨k, f⟩ := gg
    have hk := GL.out
    rw [List.length_drop, list_size'] at hk
    have hpk : p + k ≤ s.size := by simp at hk; omega
    clear hk
    have hps : (p : Int) ≤ (s.size : Int) := by omega
    cases f
    ·have hgi := GB.out k rfl
     have hX := LB.out k rfl
     subst hgi hX
     have E : Hid (G = .error (((p + k : Nat) : Int), 5)) := HG.out
     have hneg : (-1 - (k : Int)) < 0 := by omega
     go_wp2_with fail
     refine (RB.out _).mono ?_; rintro e w' ⟨rfl, rfl⟩
     go_wp2_with fail
     go_ret3
     exact fp_err E.out (ret_at (by omega)) HB.out
    ·have hgi := GO.out k rfl
     have hX := LO.out k rfl
     subst hgi hX
     have hnn : ¬ ((k : Int) < 0) := by omega
     by_cases hend : p + k = s.size
     ·have hqe : (((p : Int) + (k : Int)) == (s.size : Int)) = true := by rw [beq_iff_eq]; omega
      have E : Hid (G = .ok acc) := by
       show _ = _; rw [HG.out, lexB_out (by omega)]; simp [pre]
      clear hend
      go_wp2_with fail
      refine (RB.out _).mono ?_; rintro e w' ⟨rfl, rfl⟩
      go_wp2_with fail
      go_ret3
      exact fp_ok E.out rfl HW.out HB.out
     ·have hqe : (((p : Int) + (k : Int)) == (s.size : Int)) = false := by rw [beq_eq_false_iff_ne]; omega
      have hlt : p + k < s.size := by omega
      have LA := Lib.hid (@lexB_at s (p + k) op hlt)
      have hpki : (p : Int) + (k : Int) ≤ (s.size : Int) := by omega
      have hqs : (s.extract (p + k) s.size).size = s.size - (p + k) := by rw [ByteArray.size_extract]; omega
      have NX := Lib.hid (fun w => rnext_tok (s.extract (p + k) s.size) (by omega) (by omega) w)
      rw [rest_list] at NX
      have TS := Lib.hid (fun t n => @tokO_size (s.data.toList.drop (p + k)) t n)
      generalize lexB (s.data.toList.drop (p + k)) ((p + k : Nat) : Int) op = LX at *
      generalize tokO (s.data.toList.drop (p + k)) = tk at *
      clear hqs hend
      go_wp2_with fail
      refine (RB.out _).mono ?_; rintro e w' ⟨rfl, rfl⟩
      go_wp2_with fail
      refine (NX.out _).mono ?_; rintro e w2 HNP
      rcases tk with _ | ⟨t, n⟩
      ·obtain ⟨tk1, tt, tb, rfl, hB2⟩ := HNP
       have hX : LX = .error (((p + k : Nat) : Int), 5) := LA.out
       subst hX
       have E : Hid (G = .error (((p + k : Nat) : Int), 5)) := HG.out
       have HB2 := Lib.hid (below_trans HB.out hB2 HB.out.size)
       clear hB2
       go_wp2_with fail
       go_ret3
       exact fp_err E.out (ret_at (by omega)) (HB2.out.alloc HB2.out.size _)
      ·obtain ⟨rfl, hB2⟩ := HNP
       have HB2 := Lib.hid (below_trans HB.out hB2 HB.out.size)
       have HW2 := Lib.hid (own_below HW.out hB2)
       have hts := TS.out t n rfl
       rw [List.length_drop, list_size'] at hts
       obtain ⟨hn1, hn2⟩ := hts
       have hsz2 := HB2.out.size
       have hn0 : ((n : Int) == 0) = false := by rw [beq_eq_false_iff_ne]; omega
       clear hB2
       replace LA : Hid (LX = if tooDeep t op then .error (((p + k : Nat) : Int), 6) else consT t ((p + k : Nat) : Int) (lexA (s.data.toList.drop (p + k + n)) ((p + k + n : Nat) : Int) (opA t op))) := LA.out
       clear LB LO
       unfold tkV
       by_cases k5 : t.kind = 5
       ·have q5 : (t.kind == 5) = true := by rw [k5]; rfl
        clear k5
        by_cases e123 : t.text = [123]
        ·have q123 : ((bs t.text).toList == [123]) = true := tex_true e123
         have q40 : ((bs t.text).toList == [40]) = false := tex_false (by rw [e123]; decide)
         have q91 : ((bs t.text).toList == [91]) = false := tex_false (by rw [e123]; decide)
         have q125 : ((bs t.text).toList == [125]) = false := tex_false (by rw [e123]; decide)
         have q41 : ((bs t.text).toList == [41]) = false := tex_false (by rw [e123]; decide)
         have q93 : ((bs t.text).toList == [93]) = false := tex_false (by rw [e123]; decide)
         have DQ : Hid (t.text = [123]) := e123
         clear e123
         by_cases hop : op = 240
         ·have hq : (op == 240) = true := by rw [hop]; rfl
          have HOP := Lib.hid hop
          clear hop
          have E : Hid (G = .error (((p + k : Nat) : Int), 6)) := by
           show _ = _; rw [HG.out, LA.out, if_pos (by unfold tooDeep opens; rw [q5, DQ.out, HOP.out]; decide)]; rfl
          clear LA HG
          go_wp2_with fail
          go_ret3
          exact fp_err E.out (ret_at6 (by omega)) (HB2.out.alloc HB2.out.size _)
         ·have hq : (op == 240) = false := by rw [beq_eq_false_iff_ne]; exact hop
          have HOP := Lib.hid hop
          clear hop
          have HG2 : Hid (G = pre (acc ++ [{ t with pos := ((p + k : Nat) : Int) }]) (lexA (s.data.toList.drop (p + k + n)) ((p + k + n : Nat) : Int) (op + 1))) := by
           show _ = _; rw [HG.out, LA.out, if_neg (by unfold tooDeep opens; rw [q5, DQ.out, hq]; decide), show opA t op = op + 1 from by unfold opA opens shuts; rw [q5, DQ.out]; rfl, pre_cons]
          clear LA HG
          have HCN : Hid (cellsOf (acc ++ [{ t with pos := ((p + k : Nat) : Int) }]) = cellsOf acc ++ [.int .i64 t.kind, .int .i64 ((p + k : Nat) : Int), .string (bs t.text), .int .u64 t.bits]) := cellsOf_snoc _ _
          have HLN : Hid ((acc ++ [{ t with pos := ((p + k : Nat) : Int) }]).length = acc.length + 1) := by show _ = _; simp
          generalize acc ++ [{ t with pos := ((p + k : Nat) : Int) }] = acc2 at *
          generalize hcl : cellsOf acc = xs at *
          generalize hal : acc.length = len at *
          have hi := HII.out
          have hz0 := HZ0.out
          have hz1 := HZ1.out
          have hz2 := HZ2.out
          have HPC : Hid ((p : Int) + (k : Int) = ((p + k : Nat) : Int)) := by show _ = _; omega
          go_wp2_with (at_builtin; refine wpList_append_own _ rfl _ _ 37 rfl w.heap.size 42 i0 _ 4 40 Tryz.underlying37 hi hz0 hz1 hz2 rfl (by decide) _ _ _ rfl ((HW2.out.alloc _).alloc _) ⟨w2.heap.size + 1, 0, none⟩ 1 1 [.int .i64 t.kind, .int .i64 ((p : Int) + (k : Int)), .string (bs t.text), .int .u64 t.bits] rfl rfl ?c1 ?c2 ?c3 ?c4 ?c5 ?_)
          case c1 =>
           exact tok_new1 _ _ _ _ _ _
          case c2 => exact tok_ones _ _ _ _
          case c3 => unfold maxLen; omega
          case c4 => omega
          case c5 => simp; omega
          intro v' w3 hown' hgrow _
          have hbel : Below w.heap.size w2 w3 := (((Below.refl _ w2).alloc hsz2 _).alloc (by simp; omega) _).grown hgrow (by simp; omega) (fun k hk => (HW2.out.lt k hk).1)
          rw [HPC.out, ← HLN.out, ← HCN.out] at hown'
          have HW3 := Lib.hid hown'
          have HB3 := Lib.hid (HB2.out.trans hbel)
          clear hown' hgrow hbel hi hz0 hz1 hz2
          go_wp2_with fail
          go_roundg (s.size - (p + k + n))
          case measure => omega
          case rel =>
           have hl2 := HLN.out
           exact ⟨p + k + n, op + 1, acc2, rfl, by go_num, by go_num, by omega, by have := HOP.out; omega, by have := HOP.out; omega, by omega, HW3.out, HB3.out, HG2.out⟩
        by_cases e40 : t.text = [40]
        ·have q123 : ((bs t.text).toList == [123]) = false := tex_false (by rw [e40]; decide)
         have q40 : ((bs t.text).toList == [40]) = true := tex_true e40
         have q91 : ((bs t.text).toList == [91]) = false := tex_false (by rw [e40]; decide)
         have q125 : ((bs t.text).toList == [125]) = false := tex_false (by rw [e40]; decide)
         have q41 : ((bs t.text).toList == [41]) = false := tex_false (by rw [e40]; decide)
         have q93 : ((bs t.text).toList == [93]) = false := tex_false (by rw [e40]; decide)
         have DQ : Hid (t.text = [40]) := e40
         clear e123 e40
         by_cases hop : op = 240
         ·have hq : (op == 240) = true := by rw [hop]; rfl
          have HOP := Lib.hid hop
          clear hop
          have E : Hid (G = .error (((p + k : Nat) : Int), 6)) := by
           show _ = _; rw [HG.out, LA.out, if_pos (by unfold tooDeep opens; rw [q5, DQ.out, HOP.out]; decide)]; rfl
          clear LA HG
          go_wp2_with fail
          go_ret3
          exact fp_err E.out (ret_at6 (by omega)) (HB2.out.alloc HB2.out.size _)
         ·have hq : (op == 240) = false := by rw [beq_eq_false_iff_ne]; exact hop
          have HOP := Lib.hid hop
          clear hop
          have HG2 : Hid (G = pre (acc ++ [{ t with pos := ((p + k : Nat) : Int) }]) (lexA (s.data.toList.drop (p + k + n)) ((p + k + n : Nat) : Int) (op + 1))) := by
           show _ = _; rw [HG.out, LA.out, if_neg (by unfold tooDeep opens; rw [q5, DQ.out, hq]; decide), show opA t op = op + 1 from by unfold opA opens shuts; rw [q5, DQ.out]; rfl, pre_cons]
          clear LA HG
          have HCN : Hid (cellsOf (acc ++ [{ t with pos := ((p + k : Nat) : Int) }]) = cellsOf acc ++ [.int .i64 t.kind, .int .i64 ((p + k : Nat) : Int), .string (bs t.text), .int .u64 t.bits]) := cellsOf_snoc _ _
          have HLN : Hid ((acc ++ [{ t with pos := ((p + k : Nat) : Int) }]).length = acc.length + 1) := by show _ = _; simp
          generalize acc ++ [{ t with pos := ((p + k : Nat) : Int) }] = acc2 at *
          generalize hcl : cellsOf acc = xs at *
          generalize hal : acc.length = len at *
          have hi := HII.out
          have hz0 := HZ0.out
          have hz1 := HZ1.out
          have hz2 := HZ2.out
          have HPC : Hid ((p : Int) + (k : Int) = ((p + k : Nat) : Int)) := by show _ = _; omega
          go_wp2_with (at_builtin; refine wpList_append_own _ rfl _ _ 37 rfl w.heap.size 42 i0 _ 4 40 Tryz.underlying37 hi hz0 hz1 hz2 rfl (by decide) _ _ _ rfl ((HW2.out.alloc _).alloc _) ⟨w2.heap.size + 1, 0, none⟩ 1 1 [.int .i64 t.kind, .int .i64 ((p : Int) + (k : Int)), .string (bs t.text), .int .u64 t.bits] rfl rfl ?c1 ?c2 ?c3 ?c4 ?c5 ?_)
          case c1 =>
           exact tok_new1 _ _ _ _ _ _
          case c2 => exact tok_ones _ _ _ _
          case c3 => unfold maxLen; omega
          case c4 => omega
          case c5 => simp; omega
          intro v' w3 hown' hgrow _
          have hbel : Below w.heap.size w2 w3 := (((Below.refl _ w2).alloc hsz2 _).alloc (by simp; omega) _).grown hgrow (by simp; omega) (fun k hk => (HW2.out.lt k hk).1)
          rw [HPC.out, ← HLN.out, ← HCN.out] at hown'
          have HW3 := Lib.hid hown'
          have HB3 := Lib.hid (HB2.out.trans hbel)
          clear hown' hgrow hbel hi hz0 hz1 hz2
          go_wp2_with fail
          go_roundg (s.size - (p + k + n))
          case measure => omega
          case rel =>
           have hl2 := HLN.out
           exact ⟨p + k + n, op + 1, acc2, rfl, by go_num, by go_num, by omega, by have := HOP.out; omega, by have := HOP.out; omega, by omega, HW3.out, HB3.out, HG2.out⟩
        by_cases e91 : t.text = [91]
        ·have q123 : ((bs t.text).toList == [123]) = false := tex_false (by rw [e91]; decide)
         have q40 : ((bs t.text).toList == [40]) = false := tex_false (by rw [e91]; decide)
         have q91 : ((bs t.text).toList == [91]) = true := tex_true e91
         have q125 : ((bs t.text).toList == [125]) = false := tex_false (by rw [e91]; decide)
         have q41 : ((bs t.text).toList == [41]) = false := tex_false (by rw [e91]; decide)
         have q93 : ((bs t.text).toList == [93]) = false := tex_false (by rw [e91]; decide)
         have DQ : Hid (t.text = [91]) := e91
         clear e123 e40 e91
         by_cases hop : op = 240
         ·have hq : (op == 240) = true := by rw [hop]; rfl
          have HOP := Lib.hid hop
          clear hop
          have E : Hid (G = .error (((p + k : Nat) : Int), 6)) := by
           show _ = _; rw [HG.out, LA.out, if_pos (by unfold tooDeep opens; rw [q5, DQ.out, HOP.out]; decide)]; rfl
          clear LA HG
          go_wp2_with fail
          go_ret3
          exact fp_err E.out (ret_at6 (by omega)) (HB2.out.alloc HB2.out.size _)
         ·have hq : (op == 240) = false := by rw [beq_eq_false_iff_ne]; exact hop
          have HOP := Lib.hid hop
          clear hop
          have HG2 : Hid (G = pre (acc ++ [{ t with pos := ((p + k : Nat) : Int) }]) (lexA (s.data.toList.drop (p + k + n)) ((p + k + n : Nat) : Int) (op + 1))) := by
           show _ = _; rw [HG.out, LA.out, if_neg (by unfold tooDeep opens; rw [q5, DQ.out, hq]; decide), show opA t op = op + 1 from by unfold opA opens shuts; rw [q5, DQ.out]; rfl, pre_cons]
          clear LA HG
          have HCN : Hid (cellsOf (acc ++ [{ t with pos := ((p + k : Nat) : Int) }]) = cellsOf acc ++ [.int .i64 t.kind, .int .i64 ((p + k : Nat) : Int), .string (bs t.text), .int .u64 t.bits]) := cellsOf_snoc _ _
          have HLN : Hid ((acc ++ [{ t with pos := ((p + k : Nat) : Int) }]).length = acc.length + 1) := by show _ = _; simp
          generalize acc ++ [{ t with pos := ((p + k : Nat) : Int) }] = acc2 at *
          generalize hcl : cellsOf acc = xs at *
          generalize hal : acc.length = len at *
          have hi := HII.out
          have hz0 := HZ0.out
          have hz1 := HZ1.out
          have hz2 := HZ2.out
          have HPC : Hid ((p : Int) + (k : Int) = ((p + k : Nat) : Int)) := by show _ = _; omega
          go_wp2_with (at_builtin; refine wpList_append_own _ rfl _ _ 37 rfl w.heap.size 42 i0 _ 4 40 Tryz.underlying37 hi hz0 hz1 hz2 rfl (by decide) _ _ _ rfl ((HW2.out.alloc _).alloc _) ⟨w2.heap.size + 1, 0, none⟩ 1 1 [.int .i64 t.kind, .int .i64 ((p : Int) + (k : Int)), .string (bs t.text), .int .u64 t.bits] rfl rfl ?c1 ?c2 ?c3 ?c4 ?c5 ?_)
          case c1 =>
           exact tok_new1 _ _ _ _ _ _
          case c2 => exact tok_ones _ _ _ _
          case c3 => unfold maxLen; omega
          case c4 => omega
          case c5 => simp; omega
          intro v' w3 hown' hgrow _
          have hbel : Below w.heap.size w2 w3 := (((Below.refl _ w2).alloc hsz2 _).alloc (by simp; omega) _).grown hgrow (by simp; omega) (fun k hk => (HW2.out.lt k hk).1)
          rw [HPC.out, ← HLN.out, ← HCN.out] at hown'
          have HW3 := Lib.hid hown'
          have HB3 := Lib.hid (HB2.out.trans hbel)
          clear hown' hgrow hbel hi hz0 hz1 hz2
          go_wp2_with fail
          go_roundg (s.size - (p + k + n))
          case measure => omega
          case rel =>
           have hl2 := HLN.out
           exact ⟨p + k + n, op + 1, acc2, rfl, by go_num, by go_num, by omega, by have := HOP.out; omega, by have := HOP.out; omega, by omega, HW3.out, HB3.out, HG2.out⟩
        by_cases e125 : t.text = [125]
        ·have q123 : ((bs t.text).toList == [123]) = false := tex_false (by rw [e125]; decide)
         have q40 : ((bs t.text).toList == [40]) = false := tex_false (by rw [e125]; decide)
         have q91 : ((bs t.text).toList == [91]) = false := tex_false (by rw [e125]; decide)
         have q125 : ((bs t.text).toList == [125]) = true := tex_true e125
         have q41 : ((bs t.text).toList == [41]) = false := tex_false (by rw [e125]; decide)
         have q93 : ((bs t.text).toList == [93]) = false := tex_false (by rw [e125]; decide)
         have DQ : Hid (t.text = [125]) := e125
         clear e123 e40 e91 e125
         by_cases hop : 0 < op
         ·have HG2 : Hid (G = pre (acc ++ [{ t with pos := ((p + k : Nat) : Int) }]) (lexA (s.data.toList.drop (p + k + n)) ((p + k + n : Nat) : Int) (op - 1))) := by
           show _ = _; rw [HG.out, LA.out, if_neg (by unfold tooDeep opens; rw [q5, DQ.out]; simp), show opA t op = op - 1 from by unfold opA opens shuts; rw [q5, DQ.out]; show max (op - 1) 0 = _; omega, pre_cons]
          clear LA HG
          have HCN : Hid (cellsOf (acc ++ [{ t with pos := ((p + k : Nat) : Int) }]) = cellsOf acc ++ [.int .i64 t.kind, .int .i64 ((p + k : Nat) : Int), .string (bs t.text), .int .u64 t.bits]) := cellsOf_snoc _ _
          have HLN : Hid ((acc ++ [{ t with pos := ((p + k : Nat) : Int) }]).length = acc.length + 1) := by show _ = _; simp
          generalize acc ++ [{ t with pos := ((p + k : Nat) : Int) }] = acc2 at *
          generalize hcl : cellsOf acc = xs at *
          generalize hal : acc.length = len at *
          have hi := HII.out
          have hz0 := HZ0.out
          have hz1 := HZ1.out
          have hz2 := HZ2.out
          have HPC : Hid ((p : Int) + (k : Int) = ((p + k : Nat) : Int)) := by show _ = _; omega
          go_wp2_with (at_builtin; refine wpList_append_own _ rfl _ _ 37 rfl w.heap.size 42 i0 _ 4 40 Tryz.underlying37 hi hz0 hz1 hz2 rfl (by decide) _ _ _ rfl ((HW2.out.alloc _).alloc _) ⟨w2.heap.size + 1, 0, none⟩ 1 1 [.int .i64 t.kind, .int .i64 ((p : Int) + (k : Int)), .string (bs t.text), .int .u64 t.bits] rfl rfl ?c1 ?c2 ?c3 ?c4 ?c5 ?_)
          case c1 =>
           exact tok_new1 _ _ _ _ _ _
          case c2 => exact tok_ones _ _ _ _
          case c3 => unfold maxLen; omega
          case c4 => omega
          case c5 => simp; omega
          intro v' w3 hown' hgrow _
          have hbel : Below w.heap.size w2 w3 := (((Below.refl _ w2).alloc hsz2 _).alloc (by simp; omega) _).grown hgrow (by simp; omega) (fun k hk => (HW2.out.lt k hk).1)
          rw [HPC.out, ← HLN.out, ← HCN.out] at hown'
          have HW3 := Lib.hid hown'
          have HB3 := Lib.hid (HB2.out.trans hbel)
          clear hown' hgrow hbel hi hz0 hz1 hz2
          go_wp2_with fail
          go_roundg (s.size - (p + k + n))
          case measure => omega
          case rel =>
           have hl2 := HLN.out
           exact ⟨p + k + n, op - 1, acc2, rfl, by go_num, by go_num, by omega, by omega, by omega, by omega, HW3.out, HB3.out, HG2.out⟩
         ·have HG2 : Hid (G = pre (acc ++ [{ t with pos := ((p + k : Nat) : Int) }]) (lexA (s.data.toList.drop (p + k + n)) ((p + k + n : Nat) : Int) (op))) := by
           show _ = _; rw [HG.out, LA.out, if_neg (by unfold tooDeep opens; rw [q5, DQ.out]; simp), show opA t op = op from by unfold opA opens shuts; rw [q5, DQ.out]; show max (op - 1) 0 = _; omega, pre_cons]
          clear LA HG
          have HCN : Hid (cellsOf (acc ++ [{ t with pos := ((p + k : Nat) : Int) }]) = cellsOf acc ++ [.int .i64 t.kind, .int .i64 ((p + k : Nat) : Int), .string (bs t.text), .int .u64 t.bits]) := cellsOf_snoc _ _
          have HLN : Hid ((acc ++ [{ t with pos := ((p + k : Nat) : Int) }]).length = acc.length + 1) := by show _ = _; simp
          generalize acc ++ [{ t with pos := ((p + k : Nat) : Int) }] = acc2 at *
          generalize hcl : cellsOf acc = xs at *
          generalize hal : acc.length = len at *
          have hi := HII.out
          have hz0 := HZ0.out
          have hz1 := HZ1.out
          have hz2 := HZ2.out
          have HPC : Hid ((p : Int) + (k : Int) = ((p + k : Nat) : Int)) := by show _ = _; omega
          go_wp2_with (at_builtin; refine wpList_append_own _ rfl _ _ 37 rfl w.heap.size 42 i0 _ 4 40 Tryz.underlying37 hi hz0 hz1 hz2 rfl (by decide) _ _ _ rfl ((HW2.out.alloc _).alloc _) ⟨w2.heap.size + 1, 0, none⟩ 1 1 [.int .i64 t.kind, .int .i64 ((p : Int) + (k : Int)), .string (bs t.text), .int .u64 t.bits] rfl rfl ?c1 ?c2 ?c3 ?c4 ?c5 ?_)
          case c1 =>
           exact tok_new1 _ _ _ _ _ _
          case c2 => exact tok_ones _ _ _ _
          case c3 => unfold maxLen; omega
          case c4 => omega
          case c5 => simp; omega
          intro v' w3 hown' hgrow _
          have hbel : Below w.heap.size w2 w3 := (((Below.refl _ w2).alloc hsz2 _).alloc (by simp; omega) _).grown hgrow (by simp; omega) (fun k hk => (HW2.out.lt k hk).1)
          rw [HPC.out, ← HLN.out, ← HCN.out] at hown'
          have HW3 := Lib.hid hown'
          have HB3 := Lib.hid (HB2.out.trans hbel)
          clear hown' hgrow hbel hi hz0 hz1 hz2
          go_wp2_with fail
          go_roundg (s.size - (p + k + n))
          case measure => omega
          case rel =>
           have hl2 := HLN.out
           exact ⟨p + k + n, op, acc2, rfl, by go_num, by go_num, by omega, by omega, by omega, by omega, HW3.out, HB3.out, HG2.out⟩
        by_cases e41 : t.text = [41]
        ·have q123 : ((bs t.text).toList == [123]) = false := tex_false (by rw [e41]; decide)
         have q40 : ((bs t.text).toList == [40]) = false := tex_false (by rw [e41]; decide)
         have q91 : ((bs t.text).toList == [91]) = false := tex_false (by rw [e41]; decide)
         have q125 : ((bs t.text).toList == [125]) = false := tex_false (by rw [e41]; decide)
         have q41 : ((bs t.text).toList == [41]) = true := tex_true e41
         have q93 : ((bs t.text).toList == [93]) = false := tex_false (by rw [e41]; decide)
         have DQ : Hid (t.text = [41]) := e41
         clear e123 e40 e91 e125 e41
         by_cases hop : 0 < op
         ·have HG2 : Hid (G = pre (acc ++ [{ t with pos := ((p + k : Nat) : Int) }]) (lexA (s.data.toList.drop (p + k + n)) ((p + k + n : Nat) : Int) (op - 1))) := by
           show _ = _; rw [HG.out, LA.out, if_neg (by unfold tooDeep opens; rw [q5, DQ.out]; simp), show opA t op = op - 1 from by unfold opA opens shuts; rw [q5, DQ.out]; show max (op - 1) 0 = _; omega, pre_cons]
          clear LA HG
          have HCN : Hid (cellsOf (acc ++ [{ t with pos := ((p + k : Nat) : Int) }]) = cellsOf acc ++ [.int .i64 t.kind, .int .i64 ((p + k : Nat) : Int), .string (bs t.text), .int .u64 t.bits]) := cellsOf_snoc _ _
          have HLN : Hid ((acc ++ [{ t with pos := ((p + k : Nat) : Int) }]).length = acc.length + 1) := by show _ = _; simp
          generalize acc ++ [{ t with pos := ((p + k : Nat) : Int) }] = acc2 at *
          generalize hcl : cellsOf acc = xs at *
          generalize hal : acc.length = len at *
          have hi := HII.out
          have hz0 := HZ0.out
          have hz1 := HZ1.out
          have hz2 := HZ2.out
          have HPC : Hid ((p : Int) + (k : Int) = ((p + k : Nat) : Int)) := by show _ = _; omega
          go_wp2_with (at_builtin; refine wpList_append_own _ rfl _ _ 37 rfl w.heap.size 42 i0 _ 4 40 Tryz.underlying37 hi hz0 hz1 hz2 rfl (by decide) _ _ _ rfl ((HW2.out.alloc _).alloc _) ⟨w2.heap.size + 1, 0, none⟩ 1 1 [.int .i64 t.kind, .int .i64 ((p : Int) + (k : Int)), .string (bs t.text), .int .u64 t.bits] rfl rfl ?c1 ?c2 ?c3 ?c4 ?c5 ?_)
          case c1 =>
           exact tok_new1 _ _ _ _ _ _
          case c2 => exact tok_ones _ _ _ _
          case c3 => unfold maxLen; omega
          case c4 => omega
          case c5 => simp; omega
          intro v' w3 hown' hgrow _
          have hbel : Below w.heap.size w2 w3 := (((Below.refl _ w2).alloc hsz2 _).alloc (by simp; omega) _).grown hgrow (by simp; omega) (fun k hk => (HW2.out.lt k hk).1)
          rw [HPC.out, ← HLN.out, ← HCN.out] at hown'
          have HW3 := Lib.hid hown'
          have HB3 := Lib.hid (HB2.out.trans hbel)
          clear hown' hgrow hbel hi hz0 hz1 hz2
          go_wp2_with fail
          go_roundg (s.size - (p + k + n))
          case measure => omega
          case rel =>
           have hl2 := HLN.out
           exact ⟨p + k + n, op - 1, acc2, rfl, by go_num, by go_num, by omega, by omega, by omega, by omega, HW3.out, HB3.out, HG2.out⟩
         ·have HG2 : Hid (G = pre (acc ++ [{ t with pos := ((p + k : Nat) : Int) }]) (lexA (s.data.toList.drop (p + k + n)) ((p + k + n : Nat) : Int) (op))) := by
           show _ = _; rw [HG.out, LA.out, if_neg (by unfold tooDeep opens; rw [q5, DQ.out]; simp), show opA t op = op from by unfold opA opens shuts; rw [q5, DQ.out]; show max (op - 1) 0 = _; omega, pre_cons]
          clear LA HG
          have HCN : Hid (cellsOf (acc ++ [{ t with pos := ((p + k : Nat) : Int) }]) = cellsOf acc ++ [.int .i64 t.kind, .int .i64 ((p + k : Nat) : Int), .string (bs t.text), .int .u64 t.bits]) := cellsOf_snoc _ _
          have HLN : Hid ((acc ++ [{ t with pos := ((p + k : Nat) : Int) }]).length = acc.length + 1) := by show _ = _; simp
          generalize acc ++ [{ t with pos := ((p + k : Nat) : Int) }] = acc2 at *
          generalize hcl : cellsOf acc = xs at *
          generalize hal : acc.length = len at *
          have hi := HII.out
          have hz0 := HZ0.out
          have hz1 := HZ1.out
          have hz2 := HZ2.out
          have HPC : Hid ((p : Int) + (k : Int) = ((p + k : Nat) : Int)) := by show _ = _; omega
          go_wp2_with (at_builtin; refine wpList_append_own _ rfl _ _ 37 rfl w.heap.size 42 i0 _ 4 40 Tryz.underlying37 hi hz0 hz1 hz2 rfl (by decide) _ _ _ rfl ((HW2.out.alloc _).alloc _) ⟨w2.heap.size + 1, 0, none⟩ 1 1 [.int .i64 t.kind, .int .i64 ((p : Int) + (k : Int)), .string (bs t.text), .int .u64 t.bits] rfl rfl ?c1 ?c2 ?c3 ?c4 ?c5 ?_)
          case c1 =>
           exact tok_new1 _ _ _ _ _ _
          case c2 => exact tok_ones _ _ _ _
          case c3 => unfold maxLen; omega
          case c4 => omega
          case c5 => simp; omega
          intro v' w3 hown' hgrow _
          have hbel : Below w.heap.size w2 w3 := (((Below.refl _ w2).alloc hsz2 _).alloc (by simp; omega) _).grown hgrow (by simp; omega) (fun k hk => (HW2.out.lt k hk).1)
          rw [HPC.out, ← HLN.out, ← HCN.out] at hown'
          have HW3 := Lib.hid hown'
          have HB3 := Lib.hid (HB2.out.trans hbel)
          clear hown' hgrow hbel hi hz0 hz1 hz2
          go_wp2_with fail
          go_roundg (s.size - (p + k + n))
          case measure => omega
          case rel =>
           have hl2 := HLN.out
           exact ⟨p + k + n, op, acc2, rfl, by go_num, by go_num, by omega, by omega, by omega, by omega, HW3.out, HB3.out, HG2.out⟩
        by_cases e93 : t.text = [93]
        ·have q123 : ((bs t.text).toList == [123]) = false := tex_false (by rw [e93]; decide)
         have q40 : ((bs t.text).toList == [40]) = false := tex_false (by rw [e93]; decide)
         have q91 : ((bs t.text).toList == [91]) = false := tex_false (by rw [e93]; decide)
         have q125 : ((bs t.text).toList == [125]) = false := tex_false (by rw [e93]; decide)
         have q41 : ((bs t.text).toList == [41]) = false := tex_false (by rw [e93]; decide)
         have q93 : ((bs t.text).toList == [93]) = true := tex_true e93
         have DQ : Hid (t.text = [93]) := e93
         clear e123 e40 e91 e125 e41 e93
         by_cases hop : 0 < op
         ·have HG2 : Hid (G = pre (acc ++ [{ t with pos := ((p + k : Nat) : Int) }]) (lexA (s.data.toList.drop (p + k + n)) ((p + k + n : Nat) : Int) (op - 1))) := by
           show _ = _; rw [HG.out, LA.out, if_neg (by unfold tooDeep opens; rw [q5, DQ.out]; simp), show opA t op = op - 1 from by unfold opA opens shuts; rw [q5, DQ.out]; show max (op - 1) 0 = _; omega, pre_cons]
          clear LA HG
          have HCN : Hid (cellsOf (acc ++ [{ t with pos := ((p + k : Nat) : Int) }]) = cellsOf acc ++ [.int .i64 t.kind, .int .i64 ((p + k : Nat) : Int), .string (bs t.text), .int .u64 t.bits]) := cellsOf_snoc _ _
          have HLN : Hid ((acc ++ [{ t with pos := ((p + k : Nat) : Int) }]).length = acc.length + 1) := by show _ = _; simp
          generalize acc ++ [{ t with pos := ((p + k : Nat) : Int) }] = acc2 at *
          generalize hcl : cellsOf acc = xs at *
          generalize hal : acc.length = len at *
          have hi := HII.out
          have hz0 := HZ0.out
          have hz1 := HZ1.out
          have hz2 := HZ2.out
          have HPC : Hid ((p : Int) + (k : Int) = ((p + k : Nat) : Int)) := by show _ = _; omega
          go_wp2_with (at_builtin; refine wpList_append_own _ rfl _ _ 37 rfl w.heap.size 42 i0 _ 4 40 Tryz.underlying37 hi hz0 hz1 hz2 rfl (by decide) _ _ _ rfl ((HW2.out.alloc _).alloc _) ⟨w2.heap.size + 1, 0, none⟩ 1 1 [.int .i64 t.kind, .int .i64 ((p : Int) + (k : Int)), .string (bs t.text), .int .u64 t.bits] rfl rfl ?c1 ?c2 ?c3 ?c4 ?c5 ?_)
          case c1 =>
           exact tok_new1 _ _ _ _ _ _
          case c2 => exact tok_ones _ _ _ _
          case c3 => unfold maxLen; omega
          case c4 => omega
          case c5 => simp; omega
          intro v' w3 hown' hgrow _
          have hbel : Below w.heap.size w2 w3 := (((Below.refl _ w2).alloc hsz2 _).alloc (by simp; omega) _).grown hgrow (by simp; omega) (fun k hk => (HW2.out.lt k hk).1)
          rw [HPC.out, ← HLN.out, ← HCN.out] at hown'
          have HW3 := Lib.hid hown'
          have HB3 := Lib.hid (HB2.out.trans hbel)
          clear hown' hgrow hbel hi hz0 hz1 hz2
          go_wp2_with fail
          go_roundg (s.size - (p + k + n))
          case measure => omega
          case rel =>
           have hl2 := HLN.out
           exact ⟨p + k + n, op - 1, acc2, rfl, by go_num, by go_num, by omega, by omega, by omega, by omega, HW3.out, HB3.out, HG2.out⟩
         ·have HG2 : Hid (G = pre (acc ++ [{ t with pos := ((p + k : Nat) : Int) }]) (lexA (s.data.toList.drop (p + k + n)) ((p + k + n : Nat) : Int) (op))) := by
           show _ = _; rw [HG.out, LA.out, if_neg (by unfold tooDeep opens; rw [q5, DQ.out]; simp), show opA t op = op from by unfold opA opens shuts; rw [q5, DQ.out]; show max (op - 1) 0 = _; omega, pre_cons]
          clear LA HG
          have HCN : Hid (cellsOf (acc ++ [{ t with pos := ((p + k : Nat) : Int) }]) = cellsOf acc ++ [.int .i64 t.kind, .int .i64 ((p + k : Nat) : Int), .string (bs t.text), .int .u64 t.bits]) := cellsOf_snoc _ _
          have HLN : Hid ((acc ++ [{ t with pos := ((p + k : Nat) : Int) }]).length = acc.length + 1) := by show _ = _; simp
          generalize acc ++ [{ t with pos := ((p + k : Nat) : Int) }] = acc2 at *
          generalize hcl : cellsOf acc = xs at *
          generalize hal : acc.length = len at *
          have hi := HII.out
          have hz0 := HZ0.out
          have hz1 := HZ1.out
          have hz2 := HZ2.out
          have HPC : Hid ((p : Int) + (k : Int) = ((p + k : Nat) : Int)) := by show _ = _; omega
          go_wp2_with (at_builtin; refine wpList_append_own _ rfl _ _ 37 rfl w.heap.size 42 i0 _ 4 40 Tryz.underlying37 hi hz0 hz1 hz2 rfl (by decide) _ _ _ rfl ((HW2.out.alloc _).alloc _) ⟨w2.heap.size + 1, 0, none⟩ 1 1 [.int .i64 t.kind, .int .i64 ((p : Int) + (k : Int)), .string (bs t.text), .int .u64 t.bits] rfl rfl ?c1 ?c2 ?c3 ?c4 ?c5 ?_)
          case c1 =>
           exact tok_new1 _ _ _ _ _ _
          case c2 => exact tok_ones _ _ _ _
          case c3 => unfold maxLen; omega
          case c4 => omega
          case c5 => simp; omega
          intro v' w3 hown' hgrow _
          have hbel : Below w.heap.size w2 w3 := (((Below.refl _ w2).alloc hsz2 _).alloc (by simp; omega) _).grown hgrow (by simp; omega) (fun k hk => (HW2.out.lt k hk).1)
          rw [HPC.out, ← HLN.out, ← HCN.out] at hown'
          have HW3 := Lib.hid hown'
          have HB3 := Lib.hid (HB2.out.trans hbel)
          clear hown' hgrow hbel hi hz0 hz1 hz2
          go_wp2_with fail
          go_roundg (s.size - (p + k + n))
          case measure => omega
          case rel =>
           have hl2 := HLN.out
           exact ⟨p + k + n, op, acc2, rfl, by go_num, by go_num, by omega, by omega, by omega, by omega, HW3.out, HB3.out, HG2.out⟩
        have q123 : ((bs t.text).toList == [123]) = false := tex_false e123
        have q40 : ((bs t.text).toList == [40]) = false := tex_false e40
        have q91 : ((bs t.text).toList == [91]) = false := tex_false e91
        have q125 : ((bs t.text).toList == [125]) = false := tex_false e125
        have q41 : ((bs t.text).toList == [41]) = false := tex_false e41
        have q93 : ((bs t.text).toList == [93]) = false := tex_false e93
        have p123 : (t.text == [123]) = false := by rw [beq_eq_false_iff_ne]; exact e123
        have p40 : (t.text == [40]) = false := by rw [beq_eq_false_iff_ne]; exact e40
        have p91 : (t.text == [91]) = false := by rw [beq_eq_false_iff_ne]; exact e91
        have p125 : (t.text == [125]) = false := by rw [beq_eq_false_iff_ne]; exact e125
        have p41 : (t.text == [41]) = false := by rw [beq_eq_false_iff_ne]; exact e41
        have p93 : (t.text == [93]) = false := by rw [beq_eq_false_iff_ne]; exact e93
        clear e123 e40 e91 e125 e41 e93
        have HG2 : Hid (G = pre (acc ++ [{ t with pos := ((p + k : Nat) : Int) }]) (lexA (s.data.toList.drop (p + k + n)) ((p + k + n : Nat) : Int) (op))) := by
         show _ = _; rw [HG.out, LA.out, if_neg (by unfold tooDeep opens; rw [p123, p40, p91]; simp), show opA t op = op from by unfold opA opens shuts; rw [p123, p40, p91, p125, p41, p93]; simp, pre_cons]
        clear LA HG
        have HCN : Hid (cellsOf (acc ++ [{ t with pos := ((p + k : Nat) : Int) }]) = cellsOf acc ++ [.int .i64 t.kind, .int .i64 ((p + k : Nat) : Int), .string (bs t.text), .int .u64 t.bits]) := cellsOf_snoc _ _
        have HLN : Hid ((acc ++ [{ t with pos := ((p + k : Nat) : Int) }]).length = acc.length + 1) := by show _ = _; simp
        generalize acc ++ [{ t with pos := ((p + k : Nat) : Int) }] = acc2 at *
        generalize hcl : cellsOf acc = xs at *
        generalize hal : acc.length = len at *
        have hi := HII.out
        have hz0 := HZ0.out
        have hz1 := HZ1.out
        have hz2 := HZ2.out
        have HPC : Hid ((p : Int) + (k : Int) = ((p + k : Nat) : Int)) := by show _ = _; omega
        go_wp2_with (at_builtin; refine wpList_append_own _ rfl _ _ 37 rfl w.heap.size 42 i0 _ 4 40 Tryz.underlying37 hi hz0 hz1 hz2 rfl (by decide) _ _ _ rfl ((HW2.out.alloc _).alloc _) ⟨w2.heap.size + 1, 0, none⟩ 1 1 [.int .i64 t.kind, .int .i64 ((p : Int) + (k : Int)), .string (bs t.text), .int .u64 t.bits] rfl rfl ?c1 ?c2 ?c3 ?c4 ?c5 ?_)
        case c1 =>
         exact tok_new1 _ _ _ _ _ _
        case c2 => exact tok_ones _ _ _ _
        case c3 => unfold maxLen; omega
        case c4 => omega
        case c5 => simp; omega
        intro v' w3 hown' hgrow _
        have hbel : Below w.heap.size w2 w3 := (((Below.refl _ w2).alloc hsz2 _).alloc (by simp; omega) _).grown hgrow (by simp; omega) (fun k hk => (HW2.out.lt k hk).1)
        rw [HPC.out, ← HLN.out, ← HCN.out] at hown'
        have HW3 := Lib.hid hown'
        have HB3 := Lib.hid (HB2.out.trans hbel)
        clear hown' hgrow hbel hi hz0 hz1 hz2
        go_wp2_with fail
        go_roundg (s.size - (p + k + n))
        case measure => omega
        case rel =>
         have hl2 := HLN.out
         exact ⟨p + k + n, op, acc2, rfl, by go_num, by go_num, by omega, by omega, by omega, by omega, HW3.out, HB3.out, HG2.out⟩
       ·have q5 : (t.kind == 5) = false := by rw [beq_eq_false_iff_ne]; exact k5
        clear k5
        have HG2 : Hid (G = pre (acc ++ [{ t with pos := ((p + k : Nat) : Int) }]) (lexA (s.data.toList.drop (p + k + n)) ((p + k + n : Nat) : Int) (op))) := by
         show _ = _; rw [HG.out, LA.out, if_neg (by unfold tooDeep opens; rw [q5]; simp), show opA t op = op from by unfold opA opens shuts; rw [q5]; rfl, pre_cons]
        clear LA HG
        have HCN : Hid (cellsOf (acc ++ [{ t with pos := ((p + k : Nat) : Int) }]) = cellsOf acc ++ [.int .i64 t.kind, .int .i64 ((p + k : Nat) : Int), .string (bs t.text), .int .u64 t.bits]) := cellsOf_snoc _ _
        have HLN : Hid ((acc ++ [{ t with pos := ((p + k : Nat) : Int) }]).length = acc.length + 1) := by show _ = _; simp
        generalize acc ++ [{ t with pos := ((p + k : Nat) : Int) }] = acc2 at *
        generalize hcl : cellsOf acc = xs at *
        generalize hal : acc.length = len at *
        have hi := HII.out
        have hz0 := HZ0.out
        have hz1 := HZ1.out
        have hz2 := HZ2.out
        have HPC : Hid ((p : Int) + (k : Int) = ((p + k : Nat) : Int)) := by show _ = _; omega
        go_wp2_with (at_builtin; refine wpList_append_own _ rfl _ _ 37 rfl w.heap.size 42 i0 _ 4 40 Tryz.underlying37 hi hz0 hz1 hz2 rfl (by decide) _ _ _ rfl ((HW2.out.alloc _).alloc _) ⟨w2.heap.size + 1, 0, none⟩ 1 1 [.int .i64 t.kind, .int .i64 ((p : Int) + (k : Int)), .string (bs t.text), .int .u64 t.bits] rfl rfl ?c1 ?c2 ?c3 ?c4 ?c5 ?_)
        case c1 =>
         exact tok_new1 _ _ _ _ _ _
        case c2 => exact tok_ones _ _ _ _
        case c3 => unfold maxLen; omega
        case c4 => omega
        case c5 => simp; omega
        intro v' w3 hown' hgrow _
        have hbel : Below w.heap.size w2 w3 := (((Below.refl _ w2).alloc hsz2 _).alloc (by simp; omega) _).grown hgrow (by simp; omega) (fun k hk => (HW2.out.lt k hk).1)
        rw [HPC.out, ← HLN.out, ← HCN.out] at hown'
        have HW3 := Lib.hid hown'
        have HB3 := Lib.hid (HB2.out.trans hbel)
        clear hown' hgrow hbel hi hz0 hz1 hz2
        go_wp2_with fail
        go_roundg (s.size - (p + k + n))
        case measure => omega
        case rel =>
         have hl2 := HLN.out
         exact ⟨p + k + n, op, acc2, rfl, by go_num, by go_num, by omega, by omega, by omega, by omega, HW3.out, HB3.out, HG2.out⟩
  ·have hce : ce = 4 := HCE.out
   have hca : ca = (k : Int) := HCA.out
   subst hce hca
   have E : Hid (G = .error ((k : Int), 4)) := HL2.out
   go_enter Tryz.func28, Tryz.ntmps28
   go_wp2_with fail
   refine (CK.out _).mono ?_; rintro e w1 ⟨rfl, hB⟩
   go_wp2_with fail
   go_ret3
   exact fp_err E.out rfl hB
end Go.Proofs.YtnkfodelgpidkaaGreatDoor
