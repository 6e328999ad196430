/- SynSizes: sizes and kids fit. -/
import Derived.Test.YtnkfodelgpidkaaGreatDoorEr
namespace Go.Proofs.YtnkfodelgpidkaaGreatDoor
open Go.RowKit
set_option linter.unusedVariables false
set_option linter.unusedSimpArgs false

theorem tp_below {w w' : World} {r : Except (Int × Int) Tr} {e : Ending} (h : TreePost w r e w') : Below w.heap.size w w' := by
  rcases r with ⟨a, c⟩ | t
  · exact h.2
  · obtain ⟨_, _, _, _, h⟩ := h; exact h
theorem out_kind {L : List UInt8} {t : Tr} (h : Out L (.ok t)) : t.kind = 1 := by
  unfold Out at h
  cases hx : lexL L with
  | error x => rw [hx] at h; cases h
  | ok l =>
    rw [hx] at h
    obtain ⟨q, hd, h⟩ := h
    rcases q with p | ⟨u, R⟩
    · cases h
    · have h := h.2
      split at h
      · cases h
      · injection h with h; subst h; rfl
theorem layT_get0 (t : Tr) (h : 0 < (layT t).length) : (layT t)[0]'h = ⟨t.kind, t.kids.length, (layT t).length, t.text, t.bits⟩ := by
  cases t
  simp only [layT, List.getElem_cons_zero, List.length_cons]; rfl
theorem sumF_snoc (sz : Nat → Nat) (l : List Nat) (x : Nat) : sumF sz (l ++ [x]) = sumF sz l + sz x := by simp [sumF]

theorem kidsF_lt (sz : Nat → Nat) (len : Nat) : ∀ n p, ∀ x ∈ kidsF sz len n p, x < len
  | 0, p, x, h => by simp [kidsF] at h
  | n + 1, p, x, h => by
    rw [kidsF] at h
    split at h
    · rcases List.mem_cons.1 h with rfl | h
      · assumption
      · split at h
        · simp at h
        · exact kidsF_lt sz len n _ x h
    · simp at h
theorem foldl_ge (sz : Nat → Nat) : ∀ (l : List Nat) (a : Nat), a ≤ l.foldl (fun a p => a + sz p) a
  | [], a => Nat.le_refl _
  | x :: l, a => by rw [List.foldl_cons]; have := foldl_ge sz l (a + sz x); omega
theorem sumF_take (sz : Nat → Nat) (l : List Nat) (j : Nat) : sumF sz (l.take j) ≤ sumF sz l := by
  conv => rhs; rw [← List.take_append_drop j l]
  unfold sumF
  rw [List.foldl_append]
  exact foldl_ge sz _ _
theorem intsR_at {w : World} {B g n cap : Nat} {l : List Nat} (h : w.ownsRow B 3 1 (.slice (some ⟨g, 0, none⟩) n cap) n (intsR l)) (hn : n = l.length) (j : Nat) (hj : j < l.length) : w.cell? ⟨g, j, none⟩ = some (.int .i64 (l[j] : Int)) := by
  subst hn
  rw [h.cellAt j (by omega)]
  simp [intsR, hj]
set_option maxRecDepth 100000 in
set_option maxHeartbeats 4000000 in
theorem law_SynSizes (s : ByteArray) (hs : s.size ≤ 9223372036854775807) (w : World) (hm : MLw w) (ht : Bt.tab w) :
    Calls Tryz.prog 4 #[.string s] w fun e w' => e = .returned (.bool true) ∧ Below w.heap.size w w' := by
  have hz := cut_size s 2000
  go_enter Tryz.func4, Tryz.ntmps4
  go_wp2_with fail
  generalize s.extract 0 (min (s.size : Int) 2000).toNat = x at *
  have hz' : x.size ≤ 2000 := hz
  have T := Lib.hid (Parse_any x (by omega) w hm ht)
  have WK := Lib.hid (fun w' (hb : Below w.heap.size w w') => swork_any w' (hm.below hb) (Bt.tab_below ht hb))
  clear hz hm ht
  refine T.out.mono ?_; rintro e w1 ⟨r, h1, h2⟩
  rcases r with ⟨a, c⟩ | t
  · obtain ⟨rfl, hB⟩ := h2
    obtain ⟨q1, q2, q3, q4⟩ := out_err h1
    rw [list_size'] at q4
    have hc1 : (c != 0) = true := bne_iff_ne.2 (by omega)
    have HB := Lib.hid hB
    clear hB h1
    go_wp2_with fail
    refine (WK.out _ HB.out).mono ?_; rintro e w2 ⟨rfl, hB2⟩
    have HB2 := Lib.hid hB2
    clear hB2
    go_wp2_with fail
    go_ret
    exact ⟨rfl, below_trans HB.out HB2.out HB.out.size⟩
  · obtain ⟨v, rfl, hW, hl, hB⟩ := h2
    have hN := NRow.own hW
    have HN := Lib.hid hN
    have HB := Lib.hid hB
    have hk := out_kind h1
    have hpos := layT_pos t
    obtain ⟨ao, cp, rfl⟩ := hN.slice
    obtain ⟨g, rfl, hg, hc⟩ := hN.get (by omega)
    have c0 := hc 0 (by omega)
    have e0 := layT_get0 t (by omega)
    rw [hk] at e0
    rw [e0] at c0
    simp only [Nat.zero_mul, Nat.zero_add] at c0
    obtain ⟨d0, d1, d2, d3, d4⟩ := c0
    have HC := Lib.hid hc
    have HL := Lib.hid (fun i (h : i < (layT t).length) => kids_lay t i h)
    have HLN := Lib.hid (fun l h => layT_n t l h)
    clear e0 hc hB hN hW h1 hk
    have hln0 : (((layT t).length : Int) == 0) = false := beq_eq_false_iff_ne.2 (by omega)
    generalize layT t = L at *
    clear d1 d3 d4
    go_wp2_with fail
    go_loopg [2, 65] L.length (fun g2 r2 ii wr => ∃ i : Nat, r2 = .bool false ∧ ii = .int .i64 (i : Int) ∧ g2 = L.length - i ∧ i ≤ L.length ∧ Hid (Below w.heap.size w wr) ∧ Hid (Below w1.heap.size w1 wr))
    case atStart => exact ⟨0, rfl, rfl, rfl, Nat.zero_le _, HB.out, Below.refl _ _⟩
    case round =>
      obtain ⟨i, rfl, rfl, rfl, hi, HB2, HB12⟩ := hrel
      by_cases hlt : i < L.length
      · have hgr : g < wr.heap.size := Nat.lt_of_lt_of_le hg HB12.out.size
        have KI := Lib.hid (kids_any wr _ L (HN.out.below HB12.out) (by omega) (fun l h => by have := HLN.out l h; omega) i hlt)
        obtain ⟨hk1, hk2⟩ := HL.out i hlt
        have HK := Lib.hid (kidsF_lt (szAt L) L.length L[i].n (i + 1))
        have hci := HC.out i hlt
        have hni := HLN.out _ (List.getElem_mem hlt)
        generalize kidsF (szAt L) L.length L[i].n (i + 1) = KL at *
        have b1 := hci.2.1
        have b2 := hci.2.2.1
        rw [← hk1] at b1
        rw [← hk2] at b2 hni
        rw [← hk1] at hni
        have HK2 := Lib.hid hk2
        clear hci hk1 hk2
        go_wp2_with fail
        refine KI.out.mono ?_; rintro e w2 ⟨kv, rfl, hko, hB3⟩
        have HB3 := Lib.hid (below_trans HB2.out hB3 HB2.out.size)
        have HB13 := Lib.hid (below_trans HB12.out hB3 HB12.out.size)
        have HKO := Lib.hid hko
        obtain ⟨ak, ck, rfl⟩ := own_slice hko
        have d1 := (HB13.out.cell (p := ⟨g, i * 5 + 1, none⟩) hg).trans b1
        have d2' := (HB13.out.cell (p := ⟨g, i * 5 + 2, none⟩) hg).trans b2
        have HB2I := Lib.hid b2
        clear b1 b2 hko hB3
        go_wp2_with fail
        have hbnd := Lib.hid hni
        go_loopg [7, 81] KL.length (fun g3 ss jj wr2 => ∃ j : Nat, ss = .int .i64 ((sumF (szAt L) (KL.take j) : Nat) : Int) ∧ jj = .int .i64 (j : Int) ∧ g3 = KL.length - j ∧ j ≤ KL.length ∧ Hid (wr2.ownsRow wr.heap.size 3 1 (.slice ak KL.length ck) KL.length (intsR KL)) ∧ Hid (Below w.heap.size w wr2) ∧ Hid (Below w1.heap.size w1 wr2))
        case atStart => exact ⟨0, rfl, rfl, rfl, Nat.zero_le _, HKO.out, HB3.out, HB13.out⟩
        case round =>
          obtain ⟨j, rfl, rfl, rfl, hj, HKO2, HB4, HB14⟩ := hrel
          by_cases hjl : j < KL.length
          · obtain ⟨gk, ck2, hv, hgk1, hgk2⟩ := HKO2.out.form (by omega)
            injection hv with hv _ hv2
            subst hv; subst hv2
            have cj := intsR_at HKO2.out rfl j hjl
            have hkl := HK.out _ (List.getElem_mem hjl)
            have ck3 := (HB14.out.cell (p := ⟨g, KL[j] * 5 + 2, none⟩) hg).trans (HC.out _ hkl).2.2.1
            rw [← szAt_at hkl] at ck3
            have hs1 : sumF (szAt L) (KL.take (j + 1)) = sumF (szAt L) (KL.take j) + szAt L KL[j] := by rw [List.take_succ_eq_append_getElem hjl, sumF_snoc]
            have hs2 := sumF_take (szAt L) KL (j + 1)
            rw [hs1] at hs2
            have HS1 := Lib.hid hs1
            clear hs1
            generalize szAt L KL[j] = z at *
            generalize KL[j] = kj at *
            generalize sumF (szAt L) (KL.take j) = sj at *
            go_wp2_with fail
            go_roundg (KL.length - (j + 1))
            case measure => omega
            case rel => exact ⟨j + 1, by rw [HS1.out, Int.natCast_add], by simp, rfl, hjl, HKO2.out, HB4.out, HB14.out⟩
          · have hje : j = KL.length := by omega
            subst hje
            have dd := (HB14.out.cell (p := ⟨g, i * 5 + 2, none⟩) hg).trans HB2I.out
            rw [List.take_length]
            clear d1 d2'
            generalize sumF (szAt L) KL = sj at *
            go_wp2_with fail
            go_roundg (L.length - (i + 1))
            case measure => omega
            case rel => exact ⟨i + 1, rfl, by simp, rfl, hlt, HB4.out, HB14.out⟩
      · go_wp2_with fail
        refine (WK.out _ HB2.out).mono ?_; rintro e w2 ⟨rfl, hB3⟩
        have HB3 := Lib.hid hB3
        clear hB3
        go_wp2_with fail
        go_ret
        exact ⟨rfl, below_trans HB2.out HB3.out HB2.out.size⟩
end Go.Proofs.YtnkfodelgpidkaaGreatDoor
