/- LexPlaces: where tokens stand, and what stands between them. -/
import Derived.Test.YtcpjggcpimghjaaPl2
namespace Go.Proofs.Ytcpjggcpimghjaa
open Go.RowKit
set_option linter.unusedVariables false

theorem pieces (L : List UInt8) (hc : chk L 0 = none) (hl : L.length ≤ 4096) : ∀ (l : List Tk) (p : Nat) (op : Int), p ≤ L.length → gap (L.drop p) = (0, true) → lexB (L.drop p) (p : Int) op = .ok l →
    ∀ i (h : i < l.length), ∃ a q : Nat, l[i].pos = (a : Int) ∧ (if h2 : i + 1 < l.length then l[i + 1].pos else (L.length : Int)) = (q : Int) ∧ a < q ∧ q ≤ L.length ∧ lexL ((L.drop a).take (q - a)) = .ok [{ l[i] with pos := 0 }]
  | [], p, op, hp, hg, hx => by intro i h; simp at h
  | t :: l, p, op, hp, hg, hx => by
    intro i h
    rcases places L _ p op _ (Nat.le_refl _) hp hg hx with ⟨e, _⟩ | ⟨t', l', q, e, hpos, hpq, hq, hb, hone, hg2, op2, hx2⟩
    · cases e
    · injection e with e1 e2
      subst e1 e2
      rcases i with _ | i
      · have hbq : by8 L q < 128 ∧ (if h2 : 0 + 1 < (t :: l).length then (t :: l)[0 + 1].pos else (L.length : Int)) = (q : Int) := by
          rcases places L _ q op2 _ (Nat.le_refl _) hq hg2 hx2 with ⟨e, he⟩ | ⟨t2, l2, q2, e, hpos2, _, _, hb2, _⟩
          · subst e
            refine ⟨by rw [by8_over (by omega)]; decide, ?_⟩
            simp [he]
          · subst e
            exact ⟨hb2, by simpa using hpos2⟩
        refine ⟨p, q, hpos, hbq.2, hpq, hq, ?_⟩
        rw [← List.drop_take]
        have h1 := chk_take L q hq hbq.1 _ 0 (Nat.le_refl _) (Nat.zero_le _) hc
        have h2 := chk_drop (L := L.take q) (a := p) (by rw [List.length_take]; omega) (by rw [by8_take hpq]; exact hb) h1
        unfold lexL
        rw [if_neg (by rw [List.length_drop, List.length_take]; omega), h2]
        exact hone
      · obtain ⟨a, q', h1, h2, h3, h4, h5⟩ := pieces L hc hl l q op2 hq hg2 hx2 i (by simpa using h)
        refine ⟨a, q', by simpa using h1, ?_, h3, h4, by simpa using h5⟩
        rw [← h2]
        simp
theorem lex_pieces {L : List UInt8} {l : List Tk} (h : lexL L = .ok l) : ∀ i (h : i < l.length), ∃ a q : Nat, l[i].pos = (a : Int) ∧ (if h2 : i + 1 < l.length then l[i + 1].pos else (L.length : Int)) = (q : Int) ∧ a < q ∧ q ≤ L.length ∧ lexL ((L.drop a).take (q - a)) = .ok [{ l[i] with pos := 0 }] := by
  obtain ⟨h1, h2, h3⟩ := lex_parts h
  cases hg : gap L with
  | mk k f =>
    cases f
    · rw [lexA_stop hg] at h3; cases h3
    · rw [lexA_go hg] at h3
      have hk := gap_le _ L (Nat.le_refl _)
      rw [hg] at hk
      simp only at hk
      exact pieces L h2 h1 l k 0 hk (gap_still _ _ _ (Nat.le_refl _) hg) (by rw [← h3]; congr 1; omega)

set_option maxRecDepth 100000 in
set_option maxHeartbeats 4000000 in
theorem law_LexPlaces (s0 : ByteArray) (hs0 : s0.size ≤ 9223372036854775807) (w : World) (hm : MLw w) :
    Calls Try.prog 5 #[.string s0] w fun e w' => e = .returned (.bool true) ∧ Below w.heap.size w w' := by
  have hz0 := cut_size s0 2000
  go_enter Try.func5, Try.ntmps5
  go_wp2_with fail
  generalize s0.extract 0 (min (s0.size : Int) 2000).toNat = s at *
  have hz : s.size ≤ 2000 := hz0
  clear hz0
  have T := Lib.hid (Tokens_any s (by omega) w hm)
  have TP := Lib.hid (fun a q w hm => Tokens_any (s.extract a q) (by rw [ByteArray.size_extract]; omega) w hm)
  have AE := Lib.hid (fun p c => lex_err (L := s.data.toList) (p := p) (c := c))
  have PC := Lib.hid (fun l h => lex_pieces (L := s.data.toList) (l := l) h)
  have K := Lib.hid (fun w hm => works_any w hm)
  have HBS : Hid (∀ wr : World, Below w.heap.size w wr → MLw wr) := fun wr h => hm.below h
  obtain ⟨x, hx⟩ : ∃ x, x = lexL s.data.toList := ⟨_, rfl⟩
  rw [← hx] at T AE
  have HX := Lib.hid hx
  clear hx
  refine T.out.mono ?_; rintro e w1 F1
  have HB1 := Lib.hid (fp_below F1)
  rcases x with ⟨a, c⟩ | l
  · obtain ⟨rfl, _⟩ := F1
    have hc := AE.out _ _ rfl
    have q1 : (c == 0) = false := by rw [beq_eq_false_iff_ne]; omega
    go_wp2_with fail
    refine (K.out _ (HBS.out _ HB1.out)).mono ?_; rintro e w4 ⟨rfl, hB⟩
    have HB4 := Lib.hid (below_trans HB1.out hB HB1.out.size)
    clear hB
    go_wp2_with fail
    go_ret
    exact ⟨rfl, HB4.out⟩
  · obtain ⟨v, rfl, own, _⟩ := F1
    have OW := Lib.hid own
    have PC2 := Lib.hid (PC.out l HX.out.symm)
    have hlm := own_len own
    unfold maxLen at hlm
    clear own
    obtain ⟨ao, cap, hv⟩ := own_slice OW.out
    subst hv
    go_wp2_with fail
    go_loopw [32] (fun ii wr => ∃ k : Nat, ii = .int .i64 (k : Int) ∧ k ≤ l.length ∧ Hid (wr.ownsRow w.heap.size 35 4 (.slice ao l.length cap) l.length (cellsOf l)) ∧ Hid (Below w.heap.size w wr)) (fun ii _ => l.length - (intOf ii).toNat)
    case atStart => exact ⟨0, rfl, Nat.zero_le _, OW.out, HB1.out⟩
    case round =>
      rename_i wr hrel
      obtain ⟨k, rfl, hk, O, HB⟩ := hrel
      by_cases hlt : k < l.length
      · have hki : (k : Int) < (l.length : Int) := by omega
        obtain ⟨g, cap', hv, hg1, hg2⟩ := OW.out.form (by omega)
        injection hv with hv _ hv2
        subst hv hv2
        obtain ⟨c0, c1, c2, c3⟩ := tok_at O.out k hlt
        obtain ⟨a, q, ha, hq, haq, hqs, hone⟩ := PC2.out k hlt
        rw [ha] at c1
        rw [list_size'] at hq hqs
        have HONE : Hid (lexL (s.extract a q).data.toList = .ok [{ l[k] with pos := 0 }]) := by show _ = _; rw [Lib.extract_data]; exact hone
        clear hone ha
        have TP2 := Lib.hid (fun w hm => TP.out a q w hm)
        rw [HONE.out] at TP2
        have hai : ¬ (a : Int) < 0 := by omega
        have haq2 : (a : Int) < (q : Int) := by omega
        have hqs2 : (q : Int) ≤ (s.size : Int) := by omega
        by_cases hlt2 : k + 1 < l.length
        · rw [dif_pos hlt2] at hq
          obtain ⟨d0, d1, d2, d3⟩ := tok_at O.out (k + 1) hlt2
          rw [hq] at d1
          have hki2 : (k : Int) + 1 < (l.length : Int) := by omega
          clear hq d0 d2 d3
          have HLT2 := Lib.hid hlt2
          clear hlt2
          obtain ⟨⟨tk, tp, tt, tb⟩, htk⟩ : ∃ t, t = l[k] := ⟨_, rfl⟩
          rw [← htk] at c0 c2 c3 TP2
          dsimp only at c0 c2 c3 TP2
          clear htk HONE
          have HCS := Lib.hid (And.intro c0 (And.intro c1 (And.intro c2 c3)))
          go_wp2_with fail
          refine (TP2.out _ (HBS.out _ HB.out)).mono ?_; rintro e w2 ⟨v2, rfl, o2, hB⟩
          have HB2 := Lib.hid (below_trans HB.out hB HB.out.size)
          have O2 := Lib.hid (own_below O.out hB)
          have hgr := (O.out.lt g rfl).2
          obtain ⟨y0, y1, y2, y3⟩ := HCS.out
          clear c0 c1 c2 c3
          have z0 := (hB.cell (p := ⟨g, k * 4, none⟩) hgr).trans y0
          have z2 := (hB.cell (p := ⟨g, k * 4 + 2, none⟩) hgr).trans y2
          have z3 := (hB.cell (p := ⟨g, k * 4 + 3, none⟩) hgr).trans y3
          obtain ⟨g2, cap2, rfl, hg3, hg4⟩ := o2.form (by simp)
          have x0 : w2.cell? ⟨g2, 0, none⟩ = some (.int .i64 tk) := o2.cellAt 0 (by simp)
          have x1 : w2.cell? ⟨g2, 1, none⟩ = some (.int .i64 0) := o2.cellAt 1 (by simp)
          have x2 : w2.cell? ⟨g2, 2, none⟩ = some (.string (bs tt)) := o2.cellAt 2 (by simp)
          have x3 : w2.cell? ⟨g2, 3, none⟩ = some (.int .u64 tb) := o2.cellAt 3 (by simp)
          rw [show ([(⟨tk, 0, tt, tb⟩ : Tk)]).length = 1 from rfl]
          have q0 : (tk == tk) = true := by simp
          have q2 : ((bs tt).toList == (bs tt).toList) = true := by simp
          have q3 : (tb == tb) = true := by simp
          clear y0 y1 y2 y3 o2 hB
          go_wp2_with fail
          go_quiet (fail)
          go_wp2_with fail
          have HB3 := Lib.hid (below_drewN HB2.out nq)
          exact ⟨⟨k + 1, by go_num, by omega, own_below O2.out (below_drewN (Below.refl _ _) _), HB3.out⟩, by simp [intOf]; omega⟩
        · rw [dif_neg hlt2] at hq
          have hki2 : ¬ (k : Int) + 1 < (l.length : Int) := by omega
          obtain rfl : q = s.size := by omega
          have HLT2 := Lib.hid hlt2
          clear hlt2 hq hqs hqs2
          obtain ⟨⟨tk, tp, tt, tb⟩, htk⟩ : ∃ t, t = l[k] := ⟨_, rfl⟩
          rw [← htk] at c0 c2 c3 TP2
          dsimp only at c0 c2 c3 TP2
          clear htk HONE
          have HCS := Lib.hid (And.intro c0 (And.intro c1 (And.intro c2 c3)))
          go_wp2_with fail
          refine (TP2.out _ (HBS.out _ HB.out)).mono ?_; rintro e w2 ⟨v2, rfl, o2, hB⟩
          have HB2 := Lib.hid (below_trans HB.out hB HB.out.size)
          have O2 := Lib.hid (own_below O.out hB)
          have hgr := (O.out.lt g rfl).2
          obtain ⟨y0, y1, y2, y3⟩ := HCS.out
          clear c0 c1 c2 c3
          have z0 := (hB.cell (p := ⟨g, k * 4, none⟩) hgr).trans y0
          have z2 := (hB.cell (p := ⟨g, k * 4 + 2, none⟩) hgr).trans y2
          have z3 := (hB.cell (p := ⟨g, k * 4 + 3, none⟩) hgr).trans y3
          obtain ⟨g2, cap2, rfl, hg3, hg4⟩ := o2.form (by simp)
          have x0 : w2.cell? ⟨g2, 0, none⟩ = some (.int .i64 tk) := o2.cellAt 0 (by simp)
          have x1 : w2.cell? ⟨g2, 1, none⟩ = some (.int .i64 0) := o2.cellAt 1 (by simp)
          have x2 : w2.cell? ⟨g2, 2, none⟩ = some (.string (bs tt)) := o2.cellAt 2 (by simp)
          have x3 : w2.cell? ⟨g2, 3, none⟩ = some (.int .u64 tb) := o2.cellAt 3 (by simp)
          rw [show ([(⟨tk, 0, tt, tb⟩ : Tk)]).length = 1 from rfl]
          have q0 : (tk == tk) = true := by simp
          have q2 : ((bs tt).toList == (bs tt).toList) = true := by simp
          have q3 : (tb == tb) = true := by simp
          clear y0 y1 y2 y3 o2 hB
          go_wp2_with fail
          go_quiet (fail)
          go_wp2_with fail
          have HB3 := Lib.hid (below_drewN HB2.out nq)
          exact ⟨⟨k + 1, by go_num, by omega, own_below O2.out (below_drewN (Below.refl _ _) _), HB3.out⟩, by simp [intOf]; omega⟩
      · have hki : ¬ (k : Int) < (l.length : Int) := by omega
        go_wp2_with fail
        refine (K.out _ (HBS.out _ HB.out)).mono ?_; rintro e w4 ⟨rfl, hB⟩
        have HB4 := Lib.hid (below_trans HB.out hB HB.out.size)
        clear hB
        go_wp2_with fail
        go_ret
        exact ⟨rfl, HB4.out⟩
end Go.Proofs.Ytcpjggcpimghjaa
