/- LexAlone: a name, and a word, alone. -/
import Derived.Test.YtcpjggcpimghjaaAln
namespace Go.Proofs.Ytcpjggcpimghjaa
open Go.RowKit
set_option linter.unusedVariables false

set_option maxRecDepth 100000 in
set_option maxHeartbeats 4000000 in
theorem law_LexAlone (s : ByteArray) (hs : s.size ≤ 9223372036854775807) (w : World) (hm : MLw w) :
    Calls Try.prog 7 #[.string s] w fun e w' => e = .returned (.bool true) ∧ Below w.heap.size w w' := by
  have hz := cut_size s 1000
  have T := Lib.hid (Tokens_any (s.extract 0 (min (s.size : Int) 1000).toNat) (by omega) w hm)
  have N := Lib.hid (fun w => lname_any (s.extract 0 (min (s.size : Int) 1000).toNat) (by omega) w)
  have W := Lib.hid (fun w => word_any (s.extract 0 (min (s.size : Int) 1000).toNat) w)
  have hz2 : (s.extract 0 (min (s.size : Int) 1000).toNat).data.toList.length ≤ 4096 := by rw [list_size']; omega
  have A1 := Lib.hid (fun h => lex_name (L := (s.extract 0 (min (s.size : Int) 1000).toNat).data.toList) h hz2)
  have A2 := Lib.hid (fun h => lex_word (L := (s.extract 0 (min (s.size : Int) 1000).toNat).data.toList) h hz2)
  have A3 := Lib.hid (fun b => alone_name (L := (s.extract 0 (min (s.size : Int) 1000).toNat).data.toList) (b := b))
  have A4 := Lib.hid (fun b => alone_word (L := (s.extract 0 (min (s.size : Int) 1000).toNat).data.toList) (b := b))
  have AE := Lib.hid (fun p c => lex_err (L := (s.extract 0 (min (s.size : Int) 1000).toNat).data.toList) (p := p) (c := c))
  clear hz hz2
  go_enter Try.func7, Try.ntmps7
  go_wp2_with fail
  generalize s.extract 0 (min (s.size : Int) 1000).toNat = t at *
  refine T.out.mono ?_; rintro e w1 F1
  have HB1 := Lib.hid (fp_below F1)
  have HM1 := Lib.hid (hm.below HB1.out)
  have K := Lib.hid (fun w hm => works_any w hm)
  -- neither a name nor a word
  have NO : (∀ k b, lexL t.data.toList ≠ .ok [⟨k, 0, t.data.toList, b⟩]) → nameB t.data.toList = false ∧ wordB t.data.toList = false := by
    intro h
    constructor
    · cases hn : nameB t.data.toList
      · rfl
      · exact absurd (A1.out hn) (h _ _)
    · cases hn : wordB t.data.toList
      · rfl
      · exact absurd (A2.out hn) (h _ _)
  have HNO := Lib.hid NO
  clear NO
  obtain ⟨nb, hnb⟩ : ∃ nb, nb = nameB t.data.toList := ⟨_, rfl⟩
  obtain ⟨wb, hwb⟩ : ∃ wb, wb = wordB t.data.toList := ⟨_, rfl⟩
  rw [← hnb] at N HNO A1 A3 A4
  rw [← hwb] at W HNO A2 A3 A4
  clear hnb hwb
  generalize hx : lexL t.data.toList = x at *
  have HX := Lib.hid hx
  clear hx
  rcases x with ⟨a, c⟩ | l
  · obtain ⟨rfl, _⟩ := F1
    obtain ⟨rfl, rfl⟩ := HNO.out (fun k b h => by cases h)
    have hc := AE.out a c rfl
    have hc0 : (c == 0) = false := by rw [beq_eq_false_iff_ne]; omega
    go_wp2_with fail
    refine (N.out _).mono ?_; rintro e w' ⟨rfl, rfl⟩
    go_wp2_with fail
    refine (W.out _).mono ?_; rintro e w' ⟨rfl, rfl⟩
    go_wp2_with fail
    refine (K.out _ HM1.out).mono ?_; rintro e w4 ⟨rfl, hB⟩
    have HB4 := Lib.hid hB
    clear hB
    go_wp2_with fail
    go_ret
    exact ⟨rfl, below_trans HB1.out HB4.out HB1.out.size⟩
  · obtain ⟨v, rfl, hown, _⟩ := F1
    by_cases hl : l.length = 1
    · obtain ⟨⟨kk, pp, tt, bb⟩, rfl⟩ := List.length_eq_one_iff.1 hl
      obtain ⟨g, cap, rfl, _, _⟩ := hown.form (by simp)
      have c0 : w1.cell? ⟨g, 0, none⟩ = some (.int .i64 kk) := hown.cellAt 0 (by simp)
      have c1 : w1.cell? ⟨g, 1, none⟩ = some (.int .i64 pp) := hown.cellAt 1 (by simp)
      have c2 : w1.cell? ⟨g, 2, none⟩ = some (.string (bs tt)) := hown.cellAt 2 (by simp)
      clear hl hown
      rw [show ([(⟨kk, pp, tt, bb⟩ : Tk)]).length = 1 from rfl]
      by_cases hp : pp = 0
      · subst hp
        by_cases htt : tt = t.data.toList
        · have q2 : ((bs tt).toList == t.toList) = true := by rw [Lib.toList_data t, htt]; exact tex_true rfl
          rw [htt] at A1 A2 A3 A4
          generalize bs tt = tx at *
          clear htt HX
          by_cases h1 : kk = 1
          · subst h1
            obtain ⟨rfl, rfl⟩ := A3.out bb rfl
            go_wp2_with fail
            refine (N.out _).mono ?_; rintro e w' ⟨rfl, rfl⟩
            go_wp2_with fail
            refine (W.out _).mono ?_; rintro e w' ⟨rfl, rfl⟩
            go_wp2_with fail
            refine (K.out _ HM1.out).mono ?_; rintro e w4 ⟨rfl, hB⟩
            have HB4 := Lib.hid hB
            clear hB
            go_wp2_with fail
            go_ret
            exact ⟨rfl, below_trans HB1.out HB4.out HB1.out.size⟩
          · have q3 : (kk == 1) = false := by rw [beq_eq_false_iff_ne]; exact h1
            by_cases h2 : kk = 2
            · subst h2
              obtain ⟨rfl, rfl⟩ := A4.out bb rfl
              go_wp2_with fail
              refine (N.out _).mono ?_; rintro e w' ⟨rfl, rfl⟩
              go_wp2_with fail
              refine (W.out _).mono ?_; rintro e w' ⟨rfl, rfl⟩
              go_wp2_with fail
              refine (K.out _ HM1.out).mono ?_; rintro e w4 ⟨rfl, hB⟩
              have HB4 := Lib.hid hB
              clear hB
              go_wp2_with fail
              go_ret
              exact ⟨rfl, below_trans HB1.out HB4.out HB1.out.size⟩
            · have q4 : (kk == 2) = false := by rw [beq_eq_false_iff_ne]; exact h2
              have e1 : nb = false := by
                cases nb
                · rfl
                · have h := A1.out rfl; injection h with h; injection h with h _; injection h with h; exact absurd h h1
              have e2 : wb = false := by
                cases wb
                · rfl
                · have h := A2.out rfl; injection h with h; injection h with h _; injection h with h; exact absurd h h2
              subst e1 e2
              go_wp2_with fail
              refine (N.out _).mono ?_; rintro e w' ⟨rfl, rfl⟩
              go_wp2_with fail
              refine (W.out _).mono ?_; rintro e w' ⟨rfl, rfl⟩
              go_wp2_with fail
              refine (K.out _ HM1.out).mono ?_; rintro e w4 ⟨rfl, hB⟩
              have HB4 := Lib.hid hB
              clear hB
              go_wp2_with fail
              go_ret
              exact ⟨rfl, below_trans HB1.out HB4.out HB1.out.size⟩
        · have q2 : ((bs tt).toList == t.toList) = false := by rw [Lib.toList_data t]; exact tex_false htt
          obtain ⟨rfl, rfl⟩ := HNO.out (fun k b h => htt (by injection h with h; injection h with h _; injection h))
          generalize bs tt = tx at *
          clear htt HX
          go_wp2_with fail
          refine (N.out _).mono ?_; rintro e w' ⟨rfl, rfl⟩
          go_wp2_with fail
          refine (W.out _).mono ?_; rintro e w' ⟨rfl, rfl⟩
          go_wp2_with fail
          refine (K.out _ HM1.out).mono ?_; rintro e w4 ⟨rfl, hB⟩
          have HB4 := Lib.hid hB
          clear hB
          go_wp2_with fail
          go_ret
          exact ⟨rfl, below_trans HB1.out HB4.out HB1.out.size⟩
      · have q1 : (pp == 0) = false := by rw [beq_eq_false_iff_ne]; exact hp
        obtain ⟨rfl, rfl⟩ := HNO.out (fun k b h => hp (by injection h with h; injection h with h _; injection h))
        clear hp HX
        go_wp2_with fail
        refine (N.out _).mono ?_; rintro e w' ⟨rfl, rfl⟩
        go_wp2_with fail
        refine (W.out _).mono ?_; rintro e w' ⟨rfl, rfl⟩
        go_wp2_with fail
        refine (K.out _ HM1.out).mono ?_; rintro e w4 ⟨rfl, hB⟩
        have HB4 := Lib.hid hB
        clear hB
        go_wp2_with fail
        go_ret
        exact ⟨rfl, below_trans HB1.out HB4.out HB1.out.size⟩
    · have hl1 : ((l.length : Int) == 1) = false := by rw [beq_eq_false_iff_ne]; omega
      obtain ⟨ao, cap, rfl⟩ := own_slice hown
      obtain ⟨rfl, rfl⟩ := HNO.out (fun k b h => hl (by injection h with h; rw [h]; rfl))
      clear hl hown HX
      go_wp2_with fail
      refine (N.out _).mono ?_; rintro e w' ⟨rfl, rfl⟩
      go_wp2_with fail
      refine (W.out _).mono ?_; rintro e w' ⟨rfl, rfl⟩
      go_wp2_with fail
      refine (K.out _ HM1.out).mono ?_; rintro e w4 ⟨rfl, hB⟩
      have HB4 := Lib.hid hB
      clear hB
      go_wp2_with fail
      go_ret
      exact ⟨rfl, below_trans HB1.out HB4.out HB1.out.size⟩
end Go.Proofs.Ytcpjggcpimghjaa
