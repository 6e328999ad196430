/- LexJoins: two sources, a line feed between. -/
import Derived.Test.YtcpjggcpimghjaaJo
namespace Go.Proofs.Ytcpjggcpimghjaa
open Go.RowKit
set_option linter.unusedVariables false

theorem lexB_pos : ∀ (j : Nat) (R : List UInt8) (a op : Int) (m : List Tk), R.length ≤ j → lexB R a op = .ok m → ∀ t ∈ m, a ≤ t.pos ∧ t.pos ≤ a + R.length
  | j, [], a, op, m, _, h => by rw [lexB] at h; injection h with h; subst h; intro t ht; simp at ht
  | 0, c :: r, a, op, m, hj, h => by simp at hj
  | j + 1, c :: r, a, op, m, hj, h => by
    rw [lexB_cons] at h
    cases ht : tokO (c :: r) with
    | none => rw [ht] at h; cases h
    | some x =>
      obtain ⟨t, n⟩ := x
      rw [ht] at h
      have hts := tokO_size ht
      simp only [List.length_cons] at hts
      simp only at h
      split at h
      · cases h
      · cases hg : gap (r.drop (n - 1)) with
        | mk k f =>
          cases f
          · rw [lexA_stop hg] at h; cases h
          · rw [lexA_go hg] at h
            have hk := gap_le _ (r.drop (n - 1)) (Nat.le_refl _)
            rw [hg, List.length_drop] at hk
            simp only at hk
            cases hx : lexB ((r.drop (n - 1)).drop k) (a + n + k) (opA t op) with
            | error e => rw [hx] at h; cases h
            | ok l =>
              rw [hx] at h
              simp only [consT, Except.ok.injEq] at h
              subst h
              have ih := lexB_pos j _ _ _ l (by rw [List.length_drop, List.length_drop]; simp at hj; omega) hx
              rw [List.length_drop, List.length_drop] at ih
              intro u hu
              rcases List.mem_cons.1 hu with rfl | hu
              · simp; omega
              · have := ih u hu; simp; omega
theorem lex_pos {L : List UInt8} {m : List Tk} (h : lexL L = .ok m) : ∀ t ∈ m, 0 ≤ t.pos ∧ t.pos ≤ L.length := by
  obtain ⟨_, _, h⟩ := lex_parts h
  cases hg : gap L with
  | mk k f =>
    cases f
    · rw [lexA_stop hg] at h; cases h
    · rw [lexA_go hg] at h
      have hk := gap_le _ L (Nat.le_refl _)
      rw [hg] at hk
      simp only at hk
      have := lexB_pos _ _ _ _ m (Nat.le_refl _) h
      rw [List.length_drop] at this
      intro t ht
      have := this t ht; omega
theorem lexB_len : ∀ (j : Nat) (R : List UInt8) (a op : Int) (m : List Tk), R.length ≤ j → lexB R a op = .ok m → m.length ≤ R.length
  | j, [], a, op, m, _, h => by rw [lexB] at h; injection h with h; subst h; simp
  | 0, c :: r, a, op, m, hj, h => by simp at hj
  | j + 1, c :: r, a, op, m, hj, h => by
    rw [lexB_cons] at h
    cases ht : tokO (c :: r) with
    | none => rw [ht] at h; cases h
    | some x =>
      obtain ⟨t, n⟩ := x
      rw [ht] at h
      simp only at h
      split at h
      · cases h
      · cases hg : gap (r.drop (n - 1)) with
        | mk k f =>
          cases f
          · rw [lexA_stop hg] at h; cases h
          · rw [lexA_go hg] at h
            cases hx : lexB ((r.drop (n - 1)).drop k) (a + n + k) (opA t op) with
            | error e => rw [hx] at h; cases h
            | ok l =>
              rw [hx] at h
              simp only [consT, Except.ok.injEq] at h
              subst h
              have ih := lexB_len j _ _ _ l (by rw [List.length_drop, List.length_drop]; simp at hj; omega) hx
              rw [List.length_drop, List.length_drop] at ih
              simp; omega
theorem lex_len {L : List UInt8} {m : List Tk} (h : lexL L = .ok m) : m.length ≤ L.length := by
  obtain ⟨_, _, h⟩ := lex_parts h
  cases hg : gap L with
  | mk k f =>
    cases f
    · rw [lexA_stop hg] at h; cases h
    · rw [lexA_go hg] at h
      have := lexB_len _ _ _ _ m (Nat.le_refl _) h
      rw [List.length_drop] at this; omega
theorem cellsOf_set (l : List Tk) : ∀ (k : Nat) (h : k < l.length) (p : Int), (cellsOf l).set (k * 4 + 1) (.int .i64 p) = cellsOf (l.set k { l[k] with pos := p }) := by
  induction l with
  | nil => intro k h; simp at h
  | cons t r ih =>
    intro k h p
    have e : cellsOf (t :: r) = .int .i64 t.kind :: .int .i64 t.pos :: .string (bs t.text) :: .int .u64 t.bits :: cellsOf r := rfl
    rcases k with _ | k
    · rw [e]; rfl
    · rw [e, show (k + 1) * 4 + 1 = k * 4 + 1 + 1 + 1 + 1 + 1 by omega]
      simp only [List.set_cons_succ, List.getElem_cons_succ]
      rw [ih k (by simpa using h)]; rfl
theorem cellsOf_append (l m : List Tk) : cellsOf (l ++ m) = cellsOf l ++ cellsOf m := by simp [cellsOf]
section
variable {P : Program} {ops : Array Oper} {rest : List Oper} {o : Oper} {a : Act} {w : World} {Q : Exit → Act → World → Prop}
theorem wpList_do (hw : Region.wanted o (yielded ops a.tmps) = true) (h : ∀ K : Act → World → Prop, (∀ a w, wpList P ops Q rest a w → K a w) → o.wp P a w K Q) : wpList P ops Q (o :: rest) a w :=
  wpList_step fun K hK => by rw [if_pos hw]; exact h K hK
theorem wpList_append_own_g (w : World) (hw : Region.wanted o (yielded ops a.tmps) = true) (s x : Operand) (t : TypeId)
    (ho : o.op = .call { callee := .builtin .append, args := #[s, x], argTypes := #[t, t] })
    (base : Nat) (e : TypeId) (i : TypeInfo) (z : Value) (size bytes : Nat) (ht : P.underlying t = some (.slice e)) (hi : P.info? e = some i) (hz : i.zero = some z)
    (hsize : i.size = size) (hby : i.bytes = bytes) (hzs : z.cells.size = size) (hsz : 0 < size)
    (v : Value) (n : Nat) (xs : List Value) (hs : a.eval s = v) (hown : w.ownsRow base e size v n xs)
    (ad : Addr) (m c : Nat) (news : List Value) (hx : a.eval x = .slice (some ad) m c) (hl : news.length = m * size) (hnews : ∀ j u, news[j]? = some u → w.cell? (ad.add j) = some u) (h1 : ∀ u ∈ news, u.oneCell' = true)
    (h63 : n + m ≤ maxLen) (hbytes : (n + m) * bytes ≤ 140737488355328) (hbase : base ≤ w.heap.size)
    (h : ∀ v' w', w'.ownsRow base e size v' (n + m) (xs ++ news) → w.grownBy w' v.ownBlock → (v' = .slice none 0 0 ↔ v = .slice none 0 0 ∧ m = 0) → wpList P ops Q rest (a.put o.dst v') w') : wpList P ops Q (o :: rest) a w :=
  wpList_do hw fun K hK => wp_append_own w s x t ho base e i z size bytes ht hi hz hsize hby hzs hsz v n xs hs hown ad m c news hx hl hnews h1 h63 hbytes hbase fun v' w' h2 h3 h4 => hK _ _ (h v' w' h2 h3 h4)
theorem wpList_append_none_g (w : World) (hw : Region.wanted o (yielded ops a.tmps) = true) (s x : Operand) (t : TypeId)
    (ho : o.op = .call { callee := .builtin .append, args := #[s, x], argTypes := #[t, t] })
    (base : Nat) (e : TypeId) (i : TypeInfo) (size : Nat) (ht : P.underlying t = some (.slice e)) (hi : P.info? e = some i)
    (v : Value) (n : Nat) (xs : List Value) (hs : a.eval s = v) (hown : w.ownsRow base e size v n xs) (hx : a.eval x = .slice none 0 0)
    (h : wpList P ops Q rest (a.put o.dst v) w) : wpList P ops Q (o :: rest) a w :=
  wpList_do hw fun K hK => by
    have hrun := run_append_owned_none (P := P) (w := w) base t o.type e i size ht hi v n xs hown
    unfold Oper.wp
    simp [execOp, ho, resolve, invoke, builtin, hs, hx, hrun, Result.andThen]
    exact hK _ _ h
end

theorem cells_ones (l : List Tk) : ∀ u ∈ cellsOf l, u.oneCell' = true := by
  intro u hu
  obtain ⟨t, _, h⟩ := List.mem_flatMap.1 hu
  simp [tkC] at h
  rcases h with rfl | rfl | rfl | rfl <;> rfl
def half (d : Int) (m : List Tk) (k : Nat) : List Tk := (m.take k).map (shift d) ++ m.drop k
theorem half_len (d : Int) (m : List Tk) (k : Nat) : (half d m k).length = m.length := by unfold half; simp; omega
theorem half_zero (d : Int) (m : List Tk) : half d m 0 = m := by simp [half]
theorem half_all (d : Int) (m : List Tk) : half d m m.length = m.map (shift d) := by simp [half]
theorem half_at (d : Int) (m : List Tk) (k : Nat) (h : k < m.length) : (half d m k)[k]'(by rw [half_len]; exact h) = m[k] := by
  unfold half
  rw [List.getElem_append_right (by simp; omega)]
  simp [Nat.min_eq_left (Nat.le_of_lt h)]
theorem half_succ (d : Int) (m : List Tk) (k : Nat) (h : k < m.length) : half d m (k + 1) = (half d m k).set k { (half d m k)[k]'(by rw [half_len]; exact h) with pos := m[k].pos + d } := by
  rw [half_at d m k h]
  unfold half
  rw [List.take_succ_eq_append_getElem h, List.map_append, List.append_assoc, List.set_append_right _ _ (by simp; omega), List.drop_eq_getElem_cons h]
  have : k - ((m.take k).map (shift d)).length = 0 := by simp; omega
  rw [this, List.set_cons_zero]
  rfl

set_option maxRecDepth 100000 in
set_option maxHeartbeats 4000000 in
theorem law_LexJoins (a : ByteArray) (ha : a.size ≤ 9223372036854775807) (b : ByteArray) (hb : b.size ≤ 9223372036854775807) (w : World) (hm : MLw w) :
    Calls Try.prog 6 #[.string a, .string b] w fun e w' => e = .returned (.bool true) ∧ Below w.heap.size w w' := by
  obtain ⟨i0, hi, hz0, hz1, hz2⟩ := info_parts tinfo
  have HII := Lib.hid hi
  have HZ0 := Lib.hid hz0
  have HZ1 := Lib.hid hz1
  have HZ2 := Lib.hid hz2
  clear hi hz0 hz1 hz2
  have hza := cut_size a 1500
  have hzb := cut_size b 1500
  go_enter Try.func6, Try.ntmps6
  go_wp2_with fail
  go_quiet (fail)
  go_wp2_with fail
  generalize a.extract 0 (min (a.size : Int) 1500).toNat = s at *
  generalize b.extract 0 (min (b.size : Int) 1500).toNat = t at *
  have hza' : s.size ≤ 1500 := hza
  have hzb' : t.size ≤ 1500 := hzb
  clear hza hzb
  have T1 := Lib.hid (fun w hm => Tokens_any s (by omega) w hm)
  have T2 := Lib.hid (fun w hm => Tokens_any t (by omega) w hm)
  have AE := Lib.hid (fun p c => lex_err (L := s.data.toList) (p := p) (c := c))
  have BE := Lib.hid (fun p c => lex_err (L := t.data.toList) (p := p) (c := c))
  have K := Lib.hid (fun w hm => works_any w hm)
  have LN1 := Lib.hid (fun l h => lex_len (L := s.data.toList) (m := l) h)
  have LN2 := Lib.hid (fun l h => lex_len (L := t.data.toList) (m := l) h)
  have PS := Lib.hid (fun m h => lex_pos (L := t.data.toList) (m := m) h)
  have JN := Lib.hid (fun l m h1 h2 => lex_join (A := s.data.toList) (B := t.data.toList) (l := l) (m := m) h1 h2 (by rw [list_size', list_size']; omega))
  have T3 := Lib.hid (fun w hm => Tokens_any (s ++ ⟨#[10]⟩ ++ t) (by simp only [ByteArray.size_append]; show _ + 1 + _ ≤ _; omega) w hm)
  have hcat : (s ++ ⟨#[10]⟩ ++ t : ByteArray).data.toList = s.data.toList ++ 10 :: t.data.toList := by simp
  rw [hcat] at T3
  rw [list_size'] at JN
  clear hcat
  generalize lexL s.data.toList = x at *
  generalize lexL t.data.toList = y at *
  generalize lexL (s.data.toList ++ 10 :: t.data.toList) = z at *
  have HB0 := Lib.hid (below_drewN (Below.refl w.heap.size w) nq)
  have HM0 := Lib.hid (hm.below HB0.out)
  generalize w.drewN nq = w0 at *
  refine (T1.out _ HM0.out).mono ?_; rintro e w1 F1
  have HB1 := Lib.hid (below_trans HB0.out (fp_below F1) HB0.out.size)
  have HB01 := Lib.hid (fp_below F1)
  have HM1 := Lib.hid (HM0.out.below (fp_below F1))
  obtain ⟨v1, a1, c1, rfl⟩ := fp_form F1
  have HF1 := Lib.hid F1
  clear F1
  go_wp2_with fail
  refine (T2.out _ HM1.out).mono ?_; rintro e w2 F2
  have HB12 := Lib.hid (fp_below F2)
  have HB2 := Lib.hid (below_trans HB1.out (fp_below F2) HB1.out.size)
  have HM2 := Lib.hid (HM1.out.below (fp_below F2))
  rcases x with ⟨p1, c1'⟩ | l
  · obtain ⟨h, _⟩ := HF1.out
    simp only [Ending.returned.injEq, Value.tuple.injEq, Array.mk.injEq, List.cons.injEq, Value.int.injEq, and_true, true_and] at h
    obtain ⟨rfl, rfl, rfl⟩ := h
    obtain ⟨v2, a2, c2, rfl⟩ := fp_form F2
    have hc := AE.out _ _ rfl
    have q1 : (c1 == 0) = false := by rw [beq_eq_false_iff_ne]; omega
    clear F2
    go_wp2_with fail
    refine (K.out _ (HM2.out)).mono ?_; rintro e w9 ⟨rfl, hB⟩
    have HB9 := Lib.hid hB
    clear hB
    go_wp2_with fail
    go_ret
    exact ⟨rfl, below_trans (HB2.out) HB9.out (HB2.out).size⟩
  · obtain ⟨v1', h, own1, _⟩ := HF1.out
    simp only [Ending.returned.injEq, Value.tuple.injEq, Array.mk.injEq, List.cons.injEq, Value.int.injEq, and_true, true_and] at h
    obtain ⟨rfl, rfl, rfl⟩ := h
    rcases y with ⟨p2, c2⟩ | m
    · obtain ⟨rfl, _⟩ := F2
      have hc := BE.out _ _ rfl
      have q1 : (c2 == 0) = false := by rw [beq_eq_false_iff_ne]; omega
      go_wp2_with fail
      refine (K.out _ (HM2.out)).mono ?_; rintro e w9 ⟨rfl, hB⟩
      have HB9 := Lib.hid hB
      clear hB
      go_wp2_with fail
      go_ret
      exact ⟨rfl, below_trans (HB2.out) HB9.out (HB2.out).size⟩
    · obtain ⟨v2, rfl, own2, _⟩ := F2
      have OW1 := Lib.hid (own_below own1 HB12.out)
      have OW2 := Lib.hid own2
      have HL1 : Hid (∀ g, v1.ownBlock = some g → g < w1.heap.size) := fun g hg => (own1.lt g hg).2
      clear own1 own2
      go_wp2_with fail
      refine (T3.out _ HM2.out).mono ?_; rintro e w3 F3
      have HB23 := Lib.hid (fp_below F3)
      have HB3 := Lib.hid (below_trans HB2.out (fp_below F3) HB2.out.size)
      have HM3 := Lib.hid (HM2.out.below (fp_below F3))
      rcases JN.out l m rfl rfl with hz | ⟨p, hz⟩
      · subst hz
        obtain ⟨v3, rfl, own3, _⟩ := F3
        have OW3 := Lib.hid own3
        have OW1' := Lib.hid (own_below OW1.out HB23.out)
        have OW2' := Lib.hid (own_below OW2.out HB23.out)
        clear own3
        obtain ⟨ao2, cap2, hv2⟩ := own_slice OW2.out
        subst hv2
        go_wp2_with fail
        have HBS : Hid (∀ wr : World, Below w.heap.size w wr → MLw wr) := fun wr h => hm.below h
        have PB := Lib.hid (PS.out m rfl)
        have hlm := own_len OW2.out
        unfold maxLen at hlm
        rw [← half_zero (s.size + 1) m] at OW2'
        rw [half_len] at OW2'
        go_loopw [58] (fun ii wr => ∃ k : Nat, ii = .int .i64 (k : Int) ∧ k ≤ m.length ∧ Hid (wr.ownsRow w1.heap.size 35 4 (.slice ao2 m.length cap2) m.length (cellsOf (half (s.size + 1) m k))) ∧ Hid (wr.ownsRow w0.heap.size 35 4 v1 l.length (cellsOf l)) ∧ Hid (wr.ownsRow w2.heap.size 35 4 v3 (l ++ m.map (shift (s.size + 1))).length (cellsOf (l ++ m.map (shift (s.size + 1))))) ∧ Hid (Below w.heap.size w wr)) (fun ii _ => m.length - (intOf ii).toNat)
        case atStart => exact ⟨0, rfl, Nat.zero_le _, OW2'.out, OW1'.out, OW3.out, HB3.out⟩
        case round =>
          clear HB3 HB23 OW1' OW2' OW3 HM3
          rename_i wr hrel
          obtain ⟨k, rfl, hk, O2, O1, O3, HB⟩ := hrel
          by_cases hlt : k < m.length
          · have hki : (k : Int) < (m.length : Int) := by omega
            obtain ⟨g, cap', hv, hg1, hg2⟩ := OW2.out.form (by omega)
            injection hv with hv _ hv2
            subst hv hv2
            have hgr := (O2.out.lt g rfl).2
            have tk := O2.out
            have hpos : Hid ((half (s.size + 1) m k)[k]'(by rw [half_len]; exact hlt) = m[k]) := half_at _ m k hlt
            have TA := cellsOf_at (half (s.size + 1) m k) k (by rw [half_len]; exact hlt)
            rw [hpos.out] at TA
            have c1 : wr.cell? ⟨g, k * 4 + 1, none⟩ = some (.int .i64 m[k].pos) := (tk.cellAt _ (by omega)).trans TA.2.1
            have f1 : wr.frozen? ⟨g, k * 4 + 1, none⟩ = false := tk.frozenAt _
            obtain ⟨hp0, hp1⟩ := PB.out m[k] (List.getElem_mem hlt)
            rw [list_size'] at hp1
            have hp2 : m[k].pos ≤ 1500 := by omega
            clear hp1
            have HST := Lib.hid (tk.stored (k * 4 + 1) (.int .i64 (m[k].pos + (s.size + 1))))
            have HSE := Lib.hid (cellsOf_set (half (s.size + 1) m k) k (by rw [half_len]; exact hlt) (m[k].pos + (s.size + 1)))
            have HSU := Lib.hid (half_succ (s.size + 1) m k hlt)
            rw [← HSU.out] at HSE
            rw [HSE.out] at HST
            clear tk TA hpos HSE HSU
            have hne : v1.ownBlock ≠ some g := fun e => by have := HL1.out g e; omega
            generalize m[k].pos = mp at *
            go_wp2_with fail
            have hw2 := HB2.out.size
            have hw12 := HB12.out.size
            have hw1 := HB1.out.size
            exact ⟨⟨k + 1, by go_num, by omega, HST.out.1, O1.out.kept HST.out.2 (.inr hne), own_far O3.out (p := ⟨g, k * 4 + 1, none⟩) hg2 _, HB.out.setCell (p := ⟨g, k * 4 + 1, none⟩) (by show _ ≤ g; omega) _⟩, by simp [intOf]; omega⟩
          · have hki : ¬ (k : Int) < (m.length : Int) := by omega
            have hke : k = m.length := by omega
            subst hke
            rw [half_all] at O2
            have hi := HII.out
            have hz0 := HZ0.out
            have hz1 := HZ1.out
            have hz2 := HZ2.out
            have hl1 := own_len O1.out
            have hl2 := own_len O3.out
            rw [List.length_append, List.length_map] at hl2
            have hwr := HB.out.size
            have hw0 := HB0.out.size
            rcases O2.out.2 with ⟨hv, h0⟩ | ⟨g, cap', cur, hv, hg1, hg2, _⟩
            · have hme : m = [] := List.eq_nil_of_length_eq_zero h0
              subst hme
              injection hv with hv1 hv2 hv3
              subst hv1 hv3
              go_wp2_with (at_builtin; refine wpList_append_none_g _ rfl _ _ 22 rfl w0.heap.size 35 i0 4 Try.underlying22 hi _ _ _ rfl O1.out rfl ?_)
              have O4 := Lib.hid O3.out
              have O5 : Hid (wr.ownsRow w0.heap.size 35 4 v1 (l ++ ([] : List Tk).map (shift (s.size + 1))).length (cellsOf (l ++ ([] : List Tk).map (shift (s.size + 1))))) := by show World.ownsRow _ _ _ _ _ _ _; simpa using O1.out
              have HB4 := Lib.hid HB.out
              have HM4 : Hid True := trivial
              have hml := HM4.out
              go_wp2_with fail
              refine (same_eq (l ++ ([] : List Tk).map (shift (s.size + 1))) true _ _ _ _ _ O4.out O5.out).mono ?_; rintro e w7 ⟨rfl, hB⟩
              have HB7 := Lib.hid (below_trans HB4.out hB HB4.out.size)
              clear hB
              go_wp2_with fail
              refine (K.out _ (HBS.out _ HB7.out)).mono ?_; rintro e w9 ⟨rfl, hB⟩
              have HB9 := Lib.hid (below_trans HB7.out hB HB7.out.size)
              clear hB
              go_wp2_with fail
              go_ret
              exact ⟨rfl, HB9.out⟩
            · injection hv with hv1 hv2 hv3
              subst hv1 hv3
              go_wp2_with (at_builtin; refine wpList_append_own_g _ rfl _ _ 22 rfl w0.heap.size 35 i0 _ 4 40 Try.underlying22 hi hz0 hz1 hz2 rfl (by decide) _ _ _ rfl O1.out ⟨g, 0, none⟩ m.length _ (cellsOf (m.map (shift (s.size + 1)))) rfl ?c1 ?c2 ?c3 ?c4 ?c5 ?c6 ?_)
              case c1 => rw [cellsOf_len, List.length_map]
              case c2 =>
                intro j u hj
                have := O2.out.cells rfl j u hj
                rcases j with _ | j <;> simpa [Addr.add] using this
              case c3 => exact cells_ones _
              case c5 =>
                have z1 := LN1.out l rfl
                have z2 := LN2.out m rfl
                rw [list_size'] at z1 z2
                omega
              case c6 =>
                have z1 := HB01.out.size
                have z2 := O2.out.lt g rfl
                omega
              intro v' w4 hown' hgrow _
              have O5 : Hid (w4.ownsRow w0.heap.size 35 4 v' (l ++ m.map (shift (s.size + 1))).length (cellsOf (l ++ m.map (shift (s.size + 1))))) := by show World.ownsRow _ _ _ _ _ _ _; rw [cellsOf_append, List.length_append, List.length_map]; exact hown'
              have O4 : Hid (w4.ownsRow w2.heap.size 35 4 v3 (l ++ m.map (shift (s.size + 1))).length (cellsOf (l ++ m.map (shift (s.size + 1))))) := by
                show World.ownsRow _ _ _ _ _ _ _
                refine O3.out.kept hgrow ?_
                cases hv3 : v3.ownBlock with
                | none => exact .inl rfl
                | some g3 =>
                  refine .inr ?_
                  intro e
                  have h3 := (O3.out.lt g3 hv3).1
                  have h1 := HL1.out g3 e.symm
                  have := HB12.out.size
                  omega
              have HB4 := Lib.hid (HB.out.grown hgrow hwr (fun k hk => by have := (O1.out.lt k hk).1; omega))
              have HM4 : Hid True := trivial
              clear hown' hgrow
              have hml := HM4.out
              go_wp2_with fail
              refine (same_eq (l ++ m.map (shift (s.size + 1))) true _ _ _ _ _ O4.out O5.out).mono ?_; rintro e w7 ⟨rfl, hB⟩
              have HB7 := Lib.hid (below_trans HB4.out hB HB4.out.size)
              clear hB
              go_wp2_with fail
              refine (K.out _ (HBS.out _ HB7.out)).mono ?_; rintro e w9 ⟨rfl, hB⟩
              have HB9 := Lib.hid (below_trans HB7.out hB HB7.out.size)
              clear hB
              go_wp2_with fail
              go_ret
              exact ⟨rfl, HB9.out⟩
      · subst hz
        obtain ⟨rfl, _⟩ := F3
        go_wp2_with fail
        refine (K.out _ (HM3.out)).mono ?_; rintro e w9 ⟨rfl, hB⟩
        have HB9 := Lib.hid hB
        clear hB
        go_wp2_with fail
        go_ret
        exact ⟨rfl, below_trans (HB3.out) HB9.out (HB3.out).size⟩
end Go.Proofs.Ytcpjggcpimghjaa
