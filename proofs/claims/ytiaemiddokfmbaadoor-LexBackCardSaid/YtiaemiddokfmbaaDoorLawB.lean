/- LexBack: tokens that are written, with gaps between, are read as they were, but for their places. -/
import Derived.Test.YtiaemiddokfmbaaDoorLawT
namespace Go.Proofs.YtiaemiddokfmbaaDoor
open Go.RowKit
set_option linter.unusedVariables false

/- How long. -/
theorem txt_len : ∀ (j : Nat) {q : UInt8} {R o : List UInt8} {m : Nat}, R.length ≤ j → txt q R = some (o, m) → o.length ≤ 4 * R.length
  | j, q, [], o, m, _, h => by rw [txt] at h; cases h
  | 0, q, c :: r, o, m, hj, h => by simp at hj
  | j + 1, q, c :: r, o, m, hj, h => by
    rw [txt] at h
    split at h
    · injection h with h; injection h with h1 h2; subst h1; simp
    · cases ho : oneT (c :: r) with
      | none => rw [ho] at h; cases h
      | some x =>
        obtain ⟨o1, n⟩ := x
        rw [ho] at h
        simp only at h
        have hn : 1 ≤ n ∧ o1.length ≤ 4 := by
          unfold oneT at ho
          simp only at ho
          split at ho
          · cases he : escT r with
            | none => rw [he] at ho; cases ho
            | some y =>
              obtain ⟨o2, n2⟩ := y
              rw [he] at ho
              injection ho with ho; injection ho with ho1 ho2
              subst ho1
              have := escT_size he; omega
          · split at ho
            · cases ho
            · injection ho with ho; injection ho with ho1 ho2; subst ho1; subst ho2; simp
        cases ht : txt q (r.drop (n - 1)) with
        | none => rw [ht] at h; cases h
        | some y =>
          obtain ⟨o2, m2⟩ := y
          rw [ht] at h
          injection h with h; injection h with h1 _
          subst h1
          have := txt_len j (by rw [List.length_drop]; simp at hj; omega) ht
          rw [List.length_drop] at this
          simp; omega
theorem tok_len {R : List UInt8} {t : Tk} {n : Nat} (h : tokO R = some (t, n)) : t.text.length ≤ 4 * R.length := by
  match R with
  | [] => cases h
  | c :: r =>
    unfold tokO at h
    simp only at h
    split at h
    · split at h
      · cases h
      · injection h with h; injection h with h _; subst h; simp
    · split at h
      · injection h with h; injection h with h _; subst h
        show (List.take _ _).length ≤ _
        rw [List.length_take]; simp; omega
      · split at h
        · split at h
          · cases h
          · rename_i hx
            injection h with h; injection h with h _; subst h
            have := txt_len _ (Nat.le_refl _) hx
            simp; omega
        · split at h
          · cases h
          · injection h with h; injection h with h _; subst h
            show (List.take _ _).length ≤ _
            rw [List.length_take]; simp; omega
theorem lexB_lens : ∀ (j : Nat) (R : List UInt8) (a op : Int) (m : List Tk), R.length ≤ j → lexB R a op = .ok m → m.length ≤ R.length ∧ ∀ t ∈ m, t.text.length ≤ 4 * R.length
  | j, [], a, op, m, _, h => by rw [lexB] at h; injection h with h; subst h; simp
  | 0, c :: r, a, op, m, hj, h => by simp at hj
  | j + 1, c :: r, a, op, m, hj, h => by
    rw [lexB_cons] at h
    cases ht : tokO (c :: r) with
    | none => rw [ht] at h; cases h
    | some x =>
      obtain ⟨t, n⟩ := x
      rw [ht] at h
      simp only at h
      have h1 := tok_len ht
      have h2 := tokO_size ht
      split at h
      · cases h
      · unfold lexA at h
        cases hg : gap (r.drop (n - 1)) with
        | mk k f =>
          rw [hg] at h
          cases f
          · cases h
          · simp only at h
            cases hx : lexB ((r.drop (n - 1)).drop k) (a + n + k) (opA t op) with
            | error e => rw [hx] at h; cases h
            | ok l =>
              rw [hx] at h
              injection h with h
              subst h
              obtain ⟨i1, i2⟩ := lexB_lens j _ _ _ l (by rw [List.length_drop, List.length_drop]; simp at hj; omega) hx
              rw [List.length_drop, List.length_drop] at i1 i2
              refine ⟨by simp; omega, fun u hu => ?_⟩
              rcases List.mem_cons.1 hu with rfl | hu
              · exact h1
              · have := i2 u hu; simp; omega
theorem lex_lens {L : List UInt8} {m : List Tk} (h : lexL L = .ok m) : m.length ≤ L.length ∧ ∀ t ∈ m, t.text.length ≤ 4 * L.length := by
  unfold lexL at h
  split at h
  · cases h
  · cases hk : chk L 0 with
    | some k => rw [hk] at h; cases h
    | none =>
      rw [hk] at h
      simp only at h
      unfold lexA at h
      cases hg : gap L with
      | mk k f =>
        rw [hg] at h
        cases f with
        | false => cases h
        | true =>
          obtain ⟨i1, i2⟩ := lexB_lens _ _ _ _ m (Nat.le_refl _) h
          rw [List.length_drop] at i1 i2
          exact ⟨by omega, fun t ht => by have := i2 t ht; omega⟩
theorem text_len (b : Int) : (Bt.textI b).size ≤ 30 := by
  unfold Bt.textI
  split
  · decide
  · split
    · split <;> decide
    · split
      · have hv := Bt.wholeV_lo (b := b)
        have := Lib.itoa_length_le (Bt.wholeV b) (by omega) (by omega)
        have e : (Bt.wholeS (Bt.wholeV b)).size = (Lib.itoa (Bt.wholeV b)).length := by rw [Lib.size_eq]; rfl
        omega
      · have e : (Bt.tildeS b).size = 17 := by
          rw [Lib.size_eq, Bt.tilde_list, List.length_cons, ← Lib.size_eq, Bt.hexS_size]
        omega
theorem print_len {t : Tk} {n : Nat} (h : t.text.length ≤ n) : (printL t).length ≤ 6 * n + 30 := by
  unfold printL
  split
  · omega
  · split
    · have := text_len t.bits; rw [Lib.size_eq] at this; omega
    · split
      · have := quote_size t.text; omega
      · simp
theorem writ_len (n g : Nat) : ∀ (z : List (Tk × List UInt8)), (∀ x ∈ z, x.1.text.length ≤ n ∧ x.2.length ≤ g) → (writL z).length ≤ z.length * (6 * n + 30 + g)
  | [], _ => by simp [writL]
  | x :: r, h => by
    obtain ⟨h1, h2⟩ := h x (by simp)
    have ih := writ_len n g r (fun y hy => h y (by simp [hy]))
    have h3 := print_len h1
    rw [writL_cons, List.length_append, List.length_append, List.length_cons, Nat.succ_mul]
    omega
theorem writL_append (a b : List (Tk × List UInt8)) : writL (a ++ b) = writL a ++ writL b := by simp [writL]
theorem writL_take {z : List (Tk × List UInt8)} {k : Nat} (h : k < z.length) : writL (z.take (k + 1)) = writL (z.take k) ++ (printL z[k].1 ++ z[k].2) := by
  rw [List.take_succ_eq_append_getElem h, writL_append]
  congr 1
  simp [writL]

set_option maxRecDepth 100000 in
set_option maxHeartbeats 4000000 in
theorem tokens_huge (s : ByteArray) (hs : s.size ≤ 9223372036854775807) (hl : 4096 < s.size) (w : World) :
    Calls Tryd.prog 13 #[.string s] w (FacePost w (lexL s.data.toList)) := by
  have E : Hid (lexL s.data.toList = .error (0, 3)) := by show _ = _; unfold lexL; rw [list_size', if_pos hl]
  generalize lexL s.data.toList = G at *
  go_enter_defers Tryd.func13, Tryd.ntmps13
  go_wp2_with fail
  obtain ⟨t0, t1, t2, tb⟩ := three w (.slice none 0 0) (.int .i64 0) (.int .i64 3)
  exact ⟨_, face_res t0 t1 t2 _ rfl rfl rfl, fp_err E.out rfl tb⟩
theorem Tokens_all (s : ByteArray) (hs : s.size ≤ 9223372036854775807) (w : World) (hm : MLw w) : Calls Tryd.prog 13 #[.string s] w (FacePost w (lexL s.data.toList)) := by
  by_cases hl : 4096 < s.size
  · exact tokens_huge s hs hl w
  · exact Tokens_any s (by omega) w hm

/-- All tokens written, each with a gap behind. -/
def gapped (l : List Tk) (g : List UInt8) : List (Tk × List UInt8) := l.map fun t => (t, g)

set_option maxRecDepth 100000 in
set_option maxHeartbeats 1000000 in
theorem written_any (l : List Tk) (g : ByteArray) (hg : g.size ≤ 10) (hl : l.length ≤ 1000) (ht : ∀ t ∈ l, t.text.length ≤ 4000 ∧ 0 ≤ t.bits ∧ t.bits < 18446744073709551616) (v : Value) (B : Nat) (w : World)
    (ho : w.ownsRow B 24 4 v l.length (cellsOf l)) (htab : Bt.tab w) :
    Calls Tryd.prog 14 #[v, .string g] w fun e w' => e = .returned (.string (bs (writL (gapped l g.data.toList)))) ∧ Below w.heap.size w w' := by
  by_cases h0 : l.length = 0
  · have hl0 : l = [] := List.eq_nil_of_length_eq_zero h0
    subst hl0
    obtain ⟨ao, cp, rfl⟩ := own_slice ho
    clear ho ht htab
    go_enter Tryd.func14, Tryd.ntmps14
    go_wp2_with fail
    go_loop [5, 9] (fun o i => i = .int .i64 0 ∧ o = .string ⟨#[]⟩) (fun _ _ => 0)
    case atStart => exact ⟨rfl, rfl⟩
    case round =>
      obtain ⟨rfl, rfl⟩ := hrel
      go_wp2_with fail
      go_ret
      exact ⟨rfl, Below.refl _ _⟩
  · obtain ⟨gb, cp, rfl, hg1, hg2⟩ := ho.form (by omega)
    have TA := Lib.hid (fun k hk => tok_at ho k hk)
    have PA : Hid (∀ (k : Nat) (hk : k < l.length) w1, Bt.tab w1 → Calls Tryd.prog 10 #[.agg #[.int .i64 l[k].kind, .int .i64 l[k].pos, .string (bs l[k].text), .int .u64 l[k].bits]] w1 fun e w2 => e = .returned (.string (bs (printL l[k]))) ∧ Below w1.heap.size w1 w2) := fun k hk w1 h1 => by
      have h2 := ht l[k] (List.getElem_mem hk)
      have := print_any l[k].kind l[k].pos l[k].bits (bs l[k].text) (by rw [bs_size]; omega) h2.2.1 h2.2.2 w1 h1
      rw [pr_list] at this
      exact this
    have SZ : Hid (∀ k, k ≤ l.length → (writL ((gapped l g.data.toList).take k)).length ≤ k * 24040) := fun k hk => by
      have := writ_len 4000 10 ((gapped l g.data.toList).take k) (fun x hx => by
        have hx2 := List.mem_of_mem_take hx
        obtain ⟨u, hu, rfl⟩ := List.mem_map.1 hx2
        exact ⟨(ht u hu).1, by rw [list_size']; exact hg⟩)
      rw [List.length_take, show (gapped l g.data.toList).length = l.length by simp [gapped], Nat.min_eq_left hk] at this
      exact this
    have ST : Hid (∀ (k : Nat) (hk : k < l.length), writL ((gapped l g.data.toList).take (k + 1)) = writL ((gapped l g.data.toList).take k) ++ (printL l[k] ++ g.data.toList)) := fun k hk => by
      have := writL_take (z := gapped l g.data.toList) (k := k) (by simpa [gapped] using hk)
      rw [this]; simp [gapped]
    have SP : Hid (∀ (k : Nat) (hk : k < l.length), (printL l[k]).length ≤ 24030) := fun k hk => print_len (ht l[k] (List.getElem_mem hk)).1
    have EN : Hid (writL ((gapped l g.data.toList).take l.length) = writL (gapped l g.data.toList)) := by
      show _ = _; rw [List.take_of_length_le (by simp [gapped])]
    have HTB := Lib.hid htab
    clear ho ht htab
    go_enter Tryd.func14, Tryd.ntmps14
    go_wp2_with fail
    go_loopw [5, 9] (fun oo ii wr => ∃ (k : Nat) (a : ByteArray), ii = .int .i64 (k : Int) ∧ oo = .string a ∧ k ≤ l.length ∧ a.size ≤ k * 24040 ∧ Hid (a.data.toList = writL ((gapped l g.data.toList).take k)) ∧ Hid (Below w.heap.size w wr)) (fun _ ii _ => l.length - (intOf ii).toNat)
    case atStart => exact ⟨0, ⟨#[]⟩, rfl, rfl, by omega, by decide, rfl, Below.refl _ _⟩
    case round =>
      rename_i wr hrel
      obtain ⟨k, a, rfl, rfl, hk, has, HA, HB⟩ := hrel
      by_cases hlt : k < l.length
      · have hki : (k : Int) < (l.length : Int) := by omega
        obtain ⟨a0, a1, a2, a3⟩ := TA.out k hlt
        have c0 := (HB.out.cell (p := ⟨gb, k * 4, none⟩) hg2).trans a0
        have c1 := (HB.out.cell (p := ⟨gb, k * 4 + 1, none⟩) hg2).trans a1
        have c2 := (HB.out.cell (p := ⟨gb, k * 4 + 2, none⟩) hg2).trans a2
        have c3 := (HB.out.cell (p := ⟨gb, k * 4 + 3, none⟩) hg2).trans a3
        have PK := Lib.hid (PA.out k hlt)
        have SK := Lib.hid (ST.out k hlt)
        have hps : (bs (printL l[k])).size ≤ 24030 := by rw [bs_size]; exact SP.out k hlt
        have HQL : Hid ((bs (printL l[k])).data.toList = printL l[k]) := rfl
        generalize bs (printL l[k]) = q at *
        generalize printL l[k] = ql at *
        have hqg : (q ++ g).size = q.size + g.size := ByteArray.size_append
        have HAQ := Lib.hid (show (a ++ (q ++ g)).size = a.size + (q.size + g.size) by rw [ByteArray.size_append, hqg])
        clear a0 a1 a2 a3
        go_wp2_with fail
        refine (PK.out _ (Bt.tab_below HTB.out HB.out)).mono ?_; rintro e w2 ⟨rfl, hB2⟩
        have HB2 := Lib.hid (below_trans HB.out hB2 HB.out.size)
        clear hB2
        go_wp2_with fail
        go_roundw
        case rel => exact ⟨k + 1, a ++ (q ++ g), by go_num, rfl, hlt, by rw [HAQ.out]; omega, by show _ = _; rw [SK.out, ba_list, ba_list, HA.out, HQL.out], HB2.out⟩
        case measure => simp [intOf]; omega
      · have hki : ¬ (k : Int) < (l.length : Int) := by omega
        have hkl : k = l.length := by omega
        have HE : Hid (a = bs (writL (gapped l g.data.toList))) := bs_eq (by rw [HA.out, hkl, EN.out])
        clear hkl
        go_wp2_with fail
        go_ret
        exact ⟨congrArg (fun s => Ending.returned (.string s)) HE.out, HB.out⟩

theorem gd_bits {t : Tk} (h : Gd t) : 0 ≤ t.bits ∧ t.bits < 18446744073709551616 := by
  rcases h with ⟨_, _, h⟩ | ⟨_, _, h⟩ | ⟨_, _, u, _, h⟩ | ⟨_, _, h⟩ | ⟨_, _, h⟩
  · omega
  · omega
  · rw [h]; exact ⟨ofI_nonneg _, ofI_lt _⟩
  · omega
  · omega
theorem lex_fit {x : ByteArray} (hz : x.size ≤ 1000) {l : List Tk} (h : lexL x.data.toList = .ok l) : l.length ≤ 1000 ∧ ∀ t ∈ l, t.text.length ≤ 4000 ∧ 0 ≤ t.bits ∧ t.bits < 18446744073709551616 := by
  obtain ⟨h1, h2⟩ := lex_lens h
  rw [list_size'] at h1 h2
  refine ⟨by omega, fun t ht => ⟨by have := h2 t ht; omega, gd_bits ((lexL_parts h).2.1 t ht)⟩⟩
theorem like_posed (l : List Tk) (g : List UInt8) : Like (posed (gapped l g) 0) l := by
  refine ⟨by rw [posed_length]; simp [gapped], fun k h h2 => ?_⟩
  obtain ⟨b, hb⟩ := posed_at (gapped l g) 0 k (by simpa [gapped] using h2)
  rw [hb]
  have e : ((gapped l g)[k]'(by simpa [gapped] using h2)).1 = l[k] := by simp [gapped]
  rw [e]; exact ⟨rfl, rfl, rfl⟩
theorem gapped_writ {L : List UInt8} {l : List Tk} (h : lexL L = .ok l) {g : List UInt8} (hg : Gp g) (hlen : ¬ 4096 < (writL (gapped l g)).length) : lexL (writL (gapped l g)) = .ok (posed (gapped l g) 0) :=
  lex_writ h (gapped l g) (by unfold gapped; simp [List.map_map, Function.comp_def]) (fun x hx => by obtain ⟨u, hu, rfl⟩ := List.mem_map.1 hx; exact hg) (by omega)
theorem gapped_size {l : List Tk} {g : List UInt8} (hl : l.length ≤ 1000) (ht : ∀ t ∈ l, t.text.length ≤ 4000) (hg : g.length ≤ 10) : (writL (gapped l g)).length ≤ 24040000 := by
  have := writ_len 4000 10 (gapped l g) (fun x hx => by obtain ⟨u, hu, rfl⟩ := List.mem_map.1 hx; exact ⟨ht u hu, hg⟩)
  have e : (gapped l g).length = l.length := by simp [gapped]
  rw [e] at this
  have := Nat.mul_le_mul_right (6 * 4000 + 30 + 10) hl
  omega
theorem tmod4 (n : Int) : n.tmod 4 = -3 ∨ n.tmod 4 = -2 ∨ n.tmod 4 = -1 ∨ n.tmod 4 = 0 ∨ n.tmod 4 = 1 ∨ n.tmod 4 = 2 ∨ n.tmod 4 = 3 := by
  have h := Int.tmod_lt_of_pos n (show (0 : Int) < 4 by decide)
  have h2 := Int.tmod_lt_of_pos (-n) (show (0 : Int) < 4 by decide)
  rw [Int.neg_tmod] at h2
  omega

set_option maxRecDepth 100000 in
set_option maxHeartbeats 4000000 in
theorem law_LexBack (s : ByteArray) (hs : s.size ≤ 9223372036854775807) (n : Int) (n0 : -9223372036854775808 ≤ n) (n1 : n ≤ 9223372036854775807) (w : World) (hm : MLw w) (ht : Bt.tab w) :
    Calls Tryd.prog 4 #[.string s, .int .i64 n] w fun e w' => e = .returned (.bool true) ∧ Below w.heap.size w w' := by
  have hz := cut_size s 1000
  generalize hx : s.extract 0 (min (s.size : Int) 1000).toNat = x at *
  have T1 := Lib.hid (fun w hm => Tokens_all x (by omega) w hm)
  have HX := Lib.hid hx
  have HM := Lib.hid hm
  have HT := Lib.hid ht
  clear hx hm ht
  go_enter Tryd.func4, Tryd.ntmps4
  go_wp2_with fail
  rw [HX.out]
  refine (T1.out _ HM.out).mono ?_; rintro e w1 F1
  have HB1 := Lib.hid (fp_below F1)
  have HM1 := Lib.hid (HM.out.below HB1.out)
  generalize hr : lexL x.data.toList = r at *
  have HR := Lib.hid hr
  clear hr
  rcases r with ⟨a, c⟩ | l
  · obtain ⟨rfl, _⟩ := F1
    have hc := lex_err HR.out
    have hc0 : (c == 0) = false := by rw [beq_eq_false_iff_ne]; omega
    clear hc
    go_wp2_with fail
    refine (works_any _ HM1.out).mono ?_; rintro e w3 ⟨rfl, hB3⟩
    have HB3 := Lib.hid hB3
    clear hB3
    go_wp2_with fail
    go_ret
    exact ⟨rfl, below_trans HB1.out HB3.out HB1.out.size⟩
  · obtain ⟨v, rfl, hown, _⟩ := F1
    obtain ⟨hl, hfit⟩ := lex_fit hz HR.out
    have hlm : v.ownBlock = none ∨ v.ownBlock ≠ none := Classical.em _
    have WR : Hid (∀ g : ByteArray, g.size ≤ 10 → ∀ w2, Below w1.heap.size w1 w2 → Bt.tab w2 → Calls Tryd.prog 14 #[v, .string g] w2 fun e w' => e = .returned (.string (bs (writL (gapped l g.data.toList)))) ∧ Below w2.heap.size w2 w') :=
      fun g hg w2 hb2 ht2 => written_any l g hg hl hfit v w.heap.size w2 (own_below hown hb2) ht2
    have GW : Hid (∀ g : ByteArray, Gp g.data.toList → g.size ≤ 10 → (bs (writL (gapped l g.data.toList))).size ≤ 24040000 ∧ (¬ 4096 < (bs (writL (gapped l g.data.toList))).size → lexL (bs (writL (gapped l g.data.toList))).data.toList = .ok (posed (gapped l g.data.toList) 0))) := fun g hg hgs => by
      rw [bs_size, bs_list]
      exact ⟨gapped_size hl (fun t ht => (hfit t ht).1) (by rw [list_size']; exact hgs), fun hlen => gapped_writ HR.out hg hlen⟩
    have SM : Hid (∀ (g : List UInt8) (va : Value) (ba : Nat) (w2 : World), Below w1.heap.size w1 w2 → w2.ownsRow ba 24 4 va (posed (gapped l g) 0).length (cellsOf (posed (gapped l g) 0)) → Calls Tryd.prog 15 #[va, v, .bool false] w2 fun e w' => e = .returned (.bool true) ∧ Below w2.heap.size w2 w') :=
      fun g va ba w2 hb2 ha => same_but _ l (like_posed l g) va v ba w.heap.size w2 ha (own_below hown hb2)
    have HTB := Lib.hid (Bt.tab_below HT.out HB1.out)
    clear hown hfit hlm
    rcases tmod4 n with h4 | h4 | h4 | h4 | h4 | h4 | h4
    · go_wp2_with fail
      have hb0 := (Below.refl w1.heap.size w1).alloc (Nat.le_refl _) (.cells #[.string ⟨#[32]⟩, .string ⟨#[10]⟩, .string ⟨#[32, 47, 42, 42, 47, 32]⟩, .string ⟨#[32, 47, 47, 120, 10]⟩] 9)
      refine (WR.out ⟨#[10]⟩ (by decide) _ hb0 (Bt.tab_below HTB.out hb0)).mono ?_; rintro e w2 ⟨rfl, hB2⟩
      have HB2 := Lib.hid (below_trans hb0 hB2 hb0.size)
      obtain ⟨gs, gw⟩ := GW.out ⟨#[10]⟩ gp_feed (by decide)
      have GL := Lib.hid gw
      have S2 := Lib.hid (SM.out (⟨#[]⟩ ++ ⟨#[10]⟩ : ByteArray).data.toList)
      rw [show (⟨#[]⟩ ++ ⟨#[10]⟩ : ByteArray).data.toList = (⟨#[10]⟩ : ByteArray).data.toList from rfl] at S2
      generalize posed (gapped l (⟨#[10]⟩ : ByteArray).data.toList) 0 = m at *
      generalize bs (writL (gapped l (⟨#[10]⟩ : ByteArray).data.toList)) = t at *
      have T2 := Lib.hid (fun w hm => Tokens_all t (by omega) w hm)
      have LL := Lib.hid (@lex_long t.data.toList)
      rw [list_size'] at LL
      generalize lexL t.data.toList = r2 at *
      clear hb0 hB2 gw WR GW SM h4
      go_wp2_with fail
      refine (T2.out _ (HM1.out.below HB2.out)).mono ?_; rintro e w3 F2
      have HB3 := Lib.hid (below_trans HB2.out (fp_below F2) HB2.out.size)
      have HM3 := Lib.hid (HM1.out.below HB3.out)
      by_cases hbig : 4096 < t.size
      · have hr2 := LL.out hbig
        subst hr2
        obtain ⟨rfl, _⟩ := F2
        have hbi : (4096 : Int) < (t.size : Int) := by omega
        go_wp2_with fail
        refine (works_any _ HM3.out).mono ?_; rintro e w4 ⟨rfl, hB4⟩
        have HB4 := Lib.hid hB4
        clear hB4
        go_wp2_with fail
        go_ret
        exact ⟨rfl, below_trans (below_trans HB1.out HB3.out HB1.out.size) HB4.out (Nat.le_trans HB1.out.size HB3.out.size)⟩
      · have hr2 := GL.out hbig
        subst hr2
        obtain ⟨v2, rfl, hown2, _⟩ := F2
        have HS := Lib.hid (S2.out v2 _ w3 HB3.out hown2)
        have hbi : ¬ (4096 : Int) < (t.size : Int) := by omega
        clear hown2 S2
        go_wp2_with fail
        refine HS.out.mono ?_; rintro e w4 ⟨rfl, hB4⟩
        have HB4 := Lib.hid (below_trans HB3.out hB4 HB3.out.size)
        have HM4 := Lib.hid (HM1.out.below HB4.out)
        clear hB4
        go_wp2_with fail
        refine (works_any _ HM4.out).mono ?_; rintro e w5 ⟨rfl, hB5⟩
        have HB5 := Lib.hid hB5
        clear hB5
        go_wp2_with fail
        go_ret
        exact ⟨rfl, below_trans (below_trans HB1.out HB4.out HB1.out.size) HB5.out (Nat.le_trans HB1.out.size HB4.out.size)⟩
    · go_wp2_with fail
      have hb0 := (Below.refl w1.heap.size w1).alloc (Nat.le_refl _) (.cells #[.string ⟨#[32]⟩, .string ⟨#[10]⟩, .string ⟨#[32, 47, 42, 42, 47, 32]⟩, .string ⟨#[32, 47, 47, 120, 10]⟩] 9)
      refine (WR.out ⟨#[32, 47, 42, 42, 47, 32]⟩ (by decide) _ hb0 (Bt.tab_below HTB.out hb0)).mono ?_; rintro e w2 ⟨rfl, hB2⟩
      have HB2 := Lib.hid (below_trans hb0 hB2 hb0.size)
      obtain ⟨gs, gw⟩ := GW.out ⟨#[32, 47, 42, 42, 47, 32]⟩ gp_rem (by decide)
      have GL := Lib.hid gw
      have S2 := Lib.hid (SM.out (⟨#[]⟩ ++ ⟨#[32, 47, 42, 42, 47, 32]⟩ : ByteArray).data.toList)
      rw [show (⟨#[]⟩ ++ ⟨#[32, 47, 42, 42, 47, 32]⟩ : ByteArray).data.toList = (⟨#[32, 47, 42, 42, 47, 32]⟩ : ByteArray).data.toList from rfl] at S2
      generalize posed (gapped l (⟨#[32, 47, 42, 42, 47, 32]⟩ : ByteArray).data.toList) 0 = m at *
      generalize bs (writL (gapped l (⟨#[32, 47, 42, 42, 47, 32]⟩ : ByteArray).data.toList)) = t at *
      have T2 := Lib.hid (fun w hm => Tokens_all t (by omega) w hm)
      have LL := Lib.hid (@lex_long t.data.toList)
      rw [list_size'] at LL
      generalize lexL t.data.toList = r2 at *
      clear hb0 hB2 gw WR GW SM h4
      go_wp2_with fail
      refine (T2.out _ (HM1.out.below HB2.out)).mono ?_; rintro e w3 F2
      have HB3 := Lib.hid (below_trans HB2.out (fp_below F2) HB2.out.size)
      have HM3 := Lib.hid (HM1.out.below HB3.out)
      by_cases hbig : 4096 < t.size
      · have hr2 := LL.out hbig
        subst hr2
        obtain ⟨rfl, _⟩ := F2
        have hbi : (4096 : Int) < (t.size : Int) := by omega
        go_wp2_with fail
        refine (works_any _ HM3.out).mono ?_; rintro e w4 ⟨rfl, hB4⟩
        have HB4 := Lib.hid hB4
        clear hB4
        go_wp2_with fail
        go_ret
        exact ⟨rfl, below_trans (below_trans HB1.out HB3.out HB1.out.size) HB4.out (Nat.le_trans HB1.out.size HB3.out.size)⟩
      · have hr2 := GL.out hbig
        subst hr2
        obtain ⟨v2, rfl, hown2, _⟩ := F2
        have HS := Lib.hid (S2.out v2 _ w3 HB3.out hown2)
        have hbi : ¬ (4096 : Int) < (t.size : Int) := by omega
        clear hown2 S2
        go_wp2_with fail
        refine HS.out.mono ?_; rintro e w4 ⟨rfl, hB4⟩
        have HB4 := Lib.hid (below_trans HB3.out hB4 HB3.out.size)
        have HM4 := Lib.hid (HM1.out.below HB4.out)
        clear hB4
        go_wp2_with fail
        refine (works_any _ HM4.out).mono ?_; rintro e w5 ⟨rfl, hB5⟩
        have HB5 := Lib.hid hB5
        clear hB5
        go_wp2_with fail
        go_ret
        exact ⟨rfl, below_trans (below_trans HB1.out HB4.out HB1.out.size) HB5.out (Nat.le_trans HB1.out.size HB4.out.size)⟩
    · go_wp2_with fail
      have hb0 := (Below.refl w1.heap.size w1).alloc (Nat.le_refl _) (.cells #[.string ⟨#[32]⟩, .string ⟨#[10]⟩, .string ⟨#[32, 47, 42, 42, 47, 32]⟩, .string ⟨#[32, 47, 47, 120, 10]⟩] 9)
      refine (WR.out ⟨#[32, 47, 47, 120, 10]⟩ (by decide) _ hb0 (Bt.tab_below HTB.out hb0)).mono ?_; rintro e w2 ⟨rfl, hB2⟩
      have HB2 := Lib.hid (below_trans hb0 hB2 hb0.size)
      obtain ⟨gs, gw⟩ := GW.out ⟨#[32, 47, 47, 120, 10]⟩ gp_line (by decide)
      have GL := Lib.hid gw
      have S2 := Lib.hid (SM.out (⟨#[]⟩ ++ ⟨#[32, 47, 47, 120, 10]⟩ : ByteArray).data.toList)
      rw [show (⟨#[]⟩ ++ ⟨#[32, 47, 47, 120, 10]⟩ : ByteArray).data.toList = (⟨#[32, 47, 47, 120, 10]⟩ : ByteArray).data.toList from rfl] at S2
      generalize posed (gapped l (⟨#[32, 47, 47, 120, 10]⟩ : ByteArray).data.toList) 0 = m at *
      generalize bs (writL (gapped l (⟨#[32, 47, 47, 120, 10]⟩ : ByteArray).data.toList)) = t at *
      have T2 := Lib.hid (fun w hm => Tokens_all t (by omega) w hm)
      have LL := Lib.hid (@lex_long t.data.toList)
      rw [list_size'] at LL
      generalize lexL t.data.toList = r2 at *
      clear hb0 hB2 gw WR GW SM h4
      go_wp2_with fail
      refine (T2.out _ (HM1.out.below HB2.out)).mono ?_; rintro e w3 F2
      have HB3 := Lib.hid (below_trans HB2.out (fp_below F2) HB2.out.size)
      have HM3 := Lib.hid (HM1.out.below HB3.out)
      by_cases hbig : 4096 < t.size
      · have hr2 := LL.out hbig
        subst hr2
        obtain ⟨rfl, _⟩ := F2
        have hbi : (4096 : Int) < (t.size : Int) := by omega
        go_wp2_with fail
        refine (works_any _ HM3.out).mono ?_; rintro e w4 ⟨rfl, hB4⟩
        have HB4 := Lib.hid hB4
        clear hB4
        go_wp2_with fail
        go_ret
        exact ⟨rfl, below_trans (below_trans HB1.out HB3.out HB1.out.size) HB4.out (Nat.le_trans HB1.out.size HB3.out.size)⟩
      · have hr2 := GL.out hbig
        subst hr2
        obtain ⟨v2, rfl, hown2, _⟩ := F2
        have HS := Lib.hid (S2.out v2 _ w3 HB3.out hown2)
        have hbi : ¬ (4096 : Int) < (t.size : Int) := by omega
        clear hown2 S2
        go_wp2_with fail
        refine HS.out.mono ?_; rintro e w4 ⟨rfl, hB4⟩
        have HB4 := Lib.hid (below_trans HB3.out hB4 HB3.out.size)
        have HM4 := Lib.hid (HM1.out.below HB4.out)
        clear hB4
        go_wp2_with fail
        refine (works_any _ HM4.out).mono ?_; rintro e w5 ⟨rfl, hB5⟩
        have HB5 := Lib.hid hB5
        clear hB5
        go_wp2_with fail
        go_ret
        exact ⟨rfl, below_trans (below_trans HB1.out HB4.out HB1.out.size) HB5.out (Nat.le_trans HB1.out.size HB4.out.size)⟩
    · go_wp2_with fail
      have hb0 := (Below.refl w1.heap.size w1).alloc (Nat.le_refl _) (.cells #[.string ⟨#[32]⟩, .string ⟨#[10]⟩, .string ⟨#[32, 47, 42, 42, 47, 32]⟩, .string ⟨#[32, 47, 47, 120, 10]⟩] 9)
      refine (WR.out ⟨#[32]⟩ (by decide) _ hb0 (Bt.tab_below HTB.out hb0)).mono ?_; rintro e w2 ⟨rfl, hB2⟩
      have HB2 := Lib.hid (below_trans hb0 hB2 hb0.size)
      obtain ⟨gs, gw⟩ := GW.out ⟨#[32]⟩ gp_one (by decide)
      have GL := Lib.hid gw
      have S2 := Lib.hid (SM.out (⟨#[]⟩ ++ ⟨#[32]⟩ : ByteArray).data.toList)
      rw [show (⟨#[]⟩ ++ ⟨#[32]⟩ : ByteArray).data.toList = (⟨#[32]⟩ : ByteArray).data.toList from rfl] at S2
      generalize posed (gapped l (⟨#[32]⟩ : ByteArray).data.toList) 0 = m at *
      generalize bs (writL (gapped l (⟨#[32]⟩ : ByteArray).data.toList)) = t at *
      have T2 := Lib.hid (fun w hm => Tokens_all t (by omega) w hm)
      have LL := Lib.hid (@lex_long t.data.toList)
      rw [list_size'] at LL
      generalize lexL t.data.toList = r2 at *
      clear hb0 hB2 gw WR GW SM h4
      go_wp2_with fail
      refine (T2.out _ (HM1.out.below HB2.out)).mono ?_; rintro e w3 F2
      have HB3 := Lib.hid (below_trans HB2.out (fp_below F2) HB2.out.size)
      have HM3 := Lib.hid (HM1.out.below HB3.out)
      by_cases hbig : 4096 < t.size
      · have hr2 := LL.out hbig
        subst hr2
        obtain ⟨rfl, _⟩ := F2
        have hbi : (4096 : Int) < (t.size : Int) := by omega
        go_wp2_with fail
        refine (works_any _ HM3.out).mono ?_; rintro e w4 ⟨rfl, hB4⟩
        have HB4 := Lib.hid hB4
        clear hB4
        go_wp2_with fail
        go_ret
        exact ⟨rfl, below_trans (below_trans HB1.out HB3.out HB1.out.size) HB4.out (Nat.le_trans HB1.out.size HB3.out.size)⟩
      · have hr2 := GL.out hbig
        subst hr2
        obtain ⟨v2, rfl, hown2, _⟩ := F2
        have HS := Lib.hid (S2.out v2 _ w3 HB3.out hown2)
        have hbi : ¬ (4096 : Int) < (t.size : Int) := by omega
        clear hown2 S2
        go_wp2_with fail
        refine HS.out.mono ?_; rintro e w4 ⟨rfl, hB4⟩
        have HB4 := Lib.hid (below_trans HB3.out hB4 HB3.out.size)
        have HM4 := Lib.hid (HM1.out.below HB4.out)
        clear hB4
        go_wp2_with fail
        refine (works_any _ HM4.out).mono ?_; rintro e w5 ⟨rfl, hB5⟩
        have HB5 := Lib.hid hB5
        clear hB5
        go_wp2_with fail
        go_ret
        exact ⟨rfl, below_trans (below_trans HB1.out HB4.out HB1.out.size) HB5.out (Nat.le_trans HB1.out.size HB4.out.size)⟩
    · go_wp2_with fail
      have hb0 := (Below.refl w1.heap.size w1).alloc (Nat.le_refl _) (.cells #[.string ⟨#[32]⟩, .string ⟨#[10]⟩, .string ⟨#[32, 47, 42, 42, 47, 32]⟩, .string ⟨#[32, 47, 47, 120, 10]⟩] 9)
      refine (WR.out ⟨#[10]⟩ (by decide) _ hb0 (Bt.tab_below HTB.out hb0)).mono ?_; rintro e w2 ⟨rfl, hB2⟩
      have HB2 := Lib.hid (below_trans hb0 hB2 hb0.size)
      obtain ⟨gs, gw⟩ := GW.out ⟨#[10]⟩ gp_feed (by decide)
      have GL := Lib.hid gw
      have S2 := Lib.hid (SM.out (⟨#[]⟩ ++ ⟨#[10]⟩ : ByteArray).data.toList)
      rw [show (⟨#[]⟩ ++ ⟨#[10]⟩ : ByteArray).data.toList = (⟨#[10]⟩ : ByteArray).data.toList from rfl] at S2
      generalize posed (gapped l (⟨#[10]⟩ : ByteArray).data.toList) 0 = m at *
      generalize bs (writL (gapped l (⟨#[10]⟩ : ByteArray).data.toList)) = t at *
      have T2 := Lib.hid (fun w hm => Tokens_all t (by omega) w hm)
      have LL := Lib.hid (@lex_long t.data.toList)
      rw [list_size'] at LL
      generalize lexL t.data.toList = r2 at *
      clear hb0 hB2 gw WR GW SM h4
      go_wp2_with fail
      refine (T2.out _ (HM1.out.below HB2.out)).mono ?_; rintro e w3 F2
      have HB3 := Lib.hid (below_trans HB2.out (fp_below F2) HB2.out.size)
      have HM3 := Lib.hid (HM1.out.below HB3.out)
      by_cases hbig : 4096 < t.size
      · have hr2 := LL.out hbig
        subst hr2
        obtain ⟨rfl, _⟩ := F2
        have hbi : (4096 : Int) < (t.size : Int) := by omega
        go_wp2_with fail
        refine (works_any _ HM3.out).mono ?_; rintro e w4 ⟨rfl, hB4⟩
        have HB4 := Lib.hid hB4
        clear hB4
        go_wp2_with fail
        go_ret
        exact ⟨rfl, below_trans (below_trans HB1.out HB3.out HB1.out.size) HB4.out (Nat.le_trans HB1.out.size HB3.out.size)⟩
      · have hr2 := GL.out hbig
        subst hr2
        obtain ⟨v2, rfl, hown2, _⟩ := F2
        have HS := Lib.hid (S2.out v2 _ w3 HB3.out hown2)
        have hbi : ¬ (4096 : Int) < (t.size : Int) := by omega
        clear hown2 S2
        go_wp2_with fail
        refine HS.out.mono ?_; rintro e w4 ⟨rfl, hB4⟩
        have HB4 := Lib.hid (below_trans HB3.out hB4 HB3.out.size)
        have HM4 := Lib.hid (HM1.out.below HB4.out)
        clear hB4
        go_wp2_with fail
        refine (works_any _ HM4.out).mono ?_; rintro e w5 ⟨rfl, hB5⟩
        have HB5 := Lib.hid hB5
        clear hB5
        go_wp2_with fail
        go_ret
        exact ⟨rfl, below_trans (below_trans HB1.out HB4.out HB1.out.size) HB5.out (Nat.le_trans HB1.out.size HB4.out.size)⟩
    · go_wp2_with fail
      have hb0 := (Below.refl w1.heap.size w1).alloc (Nat.le_refl _) (.cells #[.string ⟨#[32]⟩, .string ⟨#[10]⟩, .string ⟨#[32, 47, 42, 42, 47, 32]⟩, .string ⟨#[32, 47, 47, 120, 10]⟩] 9)
      refine (WR.out ⟨#[32, 47, 42, 42, 47, 32]⟩ (by decide) _ hb0 (Bt.tab_below HTB.out hb0)).mono ?_; rintro e w2 ⟨rfl, hB2⟩
      have HB2 := Lib.hid (below_trans hb0 hB2 hb0.size)
      obtain ⟨gs, gw⟩ := GW.out ⟨#[32, 47, 42, 42, 47, 32]⟩ gp_rem (by decide)
      have GL := Lib.hid gw
      have S2 := Lib.hid (SM.out (⟨#[]⟩ ++ ⟨#[32, 47, 42, 42, 47, 32]⟩ : ByteArray).data.toList)
      rw [show (⟨#[]⟩ ++ ⟨#[32, 47, 42, 42, 47, 32]⟩ : ByteArray).data.toList = (⟨#[32, 47, 42, 42, 47, 32]⟩ : ByteArray).data.toList from rfl] at S2
      generalize posed (gapped l (⟨#[32, 47, 42, 42, 47, 32]⟩ : ByteArray).data.toList) 0 = m at *
      generalize bs (writL (gapped l (⟨#[32, 47, 42, 42, 47, 32]⟩ : ByteArray).data.toList)) = t at *
      have T2 := Lib.hid (fun w hm => Tokens_all t (by omega) w hm)
      have LL := Lib.hid (@lex_long t.data.toList)
      rw [list_size'] at LL
      generalize lexL t.data.toList = r2 at *
      clear hb0 hB2 gw WR GW SM h4
      go_wp2_with fail
      refine (T2.out _ (HM1.out.below HB2.out)).mono ?_; rintro e w3 F2
      have HB3 := Lib.hid (below_trans HB2.out (fp_below F2) HB2.out.size)
      have HM3 := Lib.hid (HM1.out.below HB3.out)
      by_cases hbig : 4096 < t.size
      · have hr2 := LL.out hbig
        subst hr2
        obtain ⟨rfl, _⟩ := F2
        have hbi : (4096 : Int) < (t.size : Int) := by omega
        go_wp2_with fail
        refine (works_any _ HM3.out).mono ?_; rintro e w4 ⟨rfl, hB4⟩
        have HB4 := Lib.hid hB4
        clear hB4
        go_wp2_with fail
        go_ret
        exact ⟨rfl, below_trans (below_trans HB1.out HB3.out HB1.out.size) HB4.out (Nat.le_trans HB1.out.size HB3.out.size)⟩
      · have hr2 := GL.out hbig
        subst hr2
        obtain ⟨v2, rfl, hown2, _⟩ := F2
        have HS := Lib.hid (S2.out v2 _ w3 HB3.out hown2)
        have hbi : ¬ (4096 : Int) < (t.size : Int) := by omega
        clear hown2 S2
        go_wp2_with fail
        refine HS.out.mono ?_; rintro e w4 ⟨rfl, hB4⟩
        have HB4 := Lib.hid (below_trans HB3.out hB4 HB3.out.size)
        have HM4 := Lib.hid (HM1.out.below HB4.out)
        clear hB4
        go_wp2_with fail
        refine (works_any _ HM4.out).mono ?_; rintro e w5 ⟨rfl, hB5⟩
        have HB5 := Lib.hid hB5
        clear hB5
        go_wp2_with fail
        go_ret
        exact ⟨rfl, below_trans (below_trans HB1.out HB4.out HB1.out.size) HB5.out (Nat.le_trans HB1.out.size HB4.out.size)⟩
    · go_wp2_with fail
      have hb0 := (Below.refl w1.heap.size w1).alloc (Nat.le_refl _) (.cells #[.string ⟨#[32]⟩, .string ⟨#[10]⟩, .string ⟨#[32, 47, 42, 42, 47, 32]⟩, .string ⟨#[32, 47, 47, 120, 10]⟩] 9)
      refine (WR.out ⟨#[32, 47, 47, 120, 10]⟩ (by decide) _ hb0 (Bt.tab_below HTB.out hb0)).mono ?_; rintro e w2 ⟨rfl, hB2⟩
      have HB2 := Lib.hid (below_trans hb0 hB2 hb0.size)
      obtain ⟨gs, gw⟩ := GW.out ⟨#[32, 47, 47, 120, 10]⟩ gp_line (by decide)
      have GL := Lib.hid gw
      have S2 := Lib.hid (SM.out (⟨#[]⟩ ++ ⟨#[32, 47, 47, 120, 10]⟩ : ByteArray).data.toList)
      rw [show (⟨#[]⟩ ++ ⟨#[32, 47, 47, 120, 10]⟩ : ByteArray).data.toList = (⟨#[32, 47, 47, 120, 10]⟩ : ByteArray).data.toList from rfl] at S2
      generalize posed (gapped l (⟨#[32, 47, 47, 120, 10]⟩ : ByteArray).data.toList) 0 = m at *
      generalize bs (writL (gapped l (⟨#[32, 47, 47, 120, 10]⟩ : ByteArray).data.toList)) = t at *
      have T2 := Lib.hid (fun w hm => Tokens_all t (by omega) w hm)
      have LL := Lib.hid (@lex_long t.data.toList)
      rw [list_size'] at LL
      generalize lexL t.data.toList = r2 at *
      clear hb0 hB2 gw WR GW SM h4
      go_wp2_with fail
      refine (T2.out _ (HM1.out.below HB2.out)).mono ?_; rintro e w3 F2
      have HB3 := Lib.hid (below_trans HB2.out (fp_below F2) HB2.out.size)
      have HM3 := Lib.hid (HM1.out.below HB3.out)
      by_cases hbig : 4096 < t.size
      · have hr2 := LL.out hbig
        subst hr2
        obtain ⟨rfl, _⟩ := F2
        have hbi : (4096 : Int) < (t.size : Int) := by omega
        go_wp2_with fail
        refine (works_any _ HM3.out).mono ?_; rintro e w4 ⟨rfl, hB4⟩
        have HB4 := Lib.hid hB4
        clear hB4
        go_wp2_with fail
        go_ret
        exact ⟨rfl, below_trans (below_trans HB1.out HB3.out HB1.out.size) HB4.out (Nat.le_trans HB1.out.size HB3.out.size)⟩
      · have hr2 := GL.out hbig
        subst hr2
        obtain ⟨v2, rfl, hown2, _⟩ := F2
        have HS := Lib.hid (S2.out v2 _ w3 HB3.out hown2)
        have hbi : ¬ (4096 : Int) < (t.size : Int) := by omega
        clear hown2 S2
        go_wp2_with fail
        refine HS.out.mono ?_; rintro e w4 ⟨rfl, hB4⟩
        have HB4 := Lib.hid (below_trans HB3.out hB4 HB3.out.size)
        have HM4 := Lib.hid (HM1.out.below HB4.out)
        clear hB4
        go_wp2_with fail
        refine (works_any _ HM4.out).mono ?_; rintro e w5 ⟨rfl, hB5⟩
        have HB5 := Lib.hid hB5
        clear hB5
        go_wp2_with fail
        go_ret
        exact ⟨rfl, below_trans (below_trans HB1.out HB4.out HB1.out.size) HB5.out (Nat.le_trans HB1.out.size HB4.out.size)⟩
end Go.Proofs.YtiaemiddokfmbaaDoor
