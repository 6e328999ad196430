/- UtfBack: what is put is told as it was. -/
import Derived.Test.YtfknjkjgdadpjaaLaws2
import Derived.ChangeOld
import Derived.OpenShut
namespace Go.Proofs.Ytfknjkjgdadpjaa
open Go.RowKit
set_option linter.unusedVariables false

/-- A slice of integers that came in: nil, or a row of cells. -/
def IsRow (k : IntKind) (w : World) (a : Option Addr) (len cap : Nat) (zs : List Int) : Prop :=
  (a = none ∧ len = 0 ∧ cap = 0 ∧ zs = []) ∨
  ∃ x, a = some x ∧ len ≤ cap ∧ cap ≤ maxLen ∧ zs.length = cap ∧ (∀ i, i < zs.length → w.cell? (x.add i) = some (.int k (zs.getD i 0))) ∧ ∀ n ∈ zs, (Lit.int k n).wf = true

theorem data_append (a b : ByteArray) : (a ++ b).data.toList = a.data.toList ++ b.data.toList := by simp

set_option maxRecDepth 100000 in
set_option maxHeartbeats 2000000 in
/-- From an address that is known by its block and place. -/
theorem back_row (b off len cap : Nat) (zs : List Int) (w : World) (hb : b < w.heap.size) (hlc : len ≤ cap) (hcm : cap ≤ 9223372036854775807) (hlen : len ≤ zs.length)
    (hcell : ∀ i, i < len → w.cell? ⟨b, off + i, none⟩ = some (.int .i64 (zs.getD i 0))) (s : ByteArray) (hs : s.size ≤ 9223372036854775807) :
    Calls Try.prog 6 #[.slice (some ⟨b, off, none⟩) len cap, .string s] w fun e w' => e = .returned (.bool true) ∧ Below w.heap.size w w' := by
  have FW := Lib.hid (fun w => few_any s hs w)
  have hz := fewS_le s
  generalize fewS s = u at *
  have HC := Lib.hid hcell
  clear hcell
  go_enter Try.func6, Try.ntmps6
  go_wp2_with fail
  refine (FW.out _).mono ?_; rintro e w' ⟨rfl, rfl⟩
  go_wp2_with fail
  go_loopw [5, 6, 7] (fun a c i wr => ∃ (j m : Nat) (q : ByteArray), i = .int .i64 (j : Int) ∧ c = .int .i64 (m : Int) ∧ a = .string q ∧ j ≤ len ∧ j ≤ 200 ∧ m ≤ j ∧ q.size ≤ 4 * j ∧ Hid (chk q.data.toList 0 = none ∧ stp q.data.toList 0 q.data.toList.length = m) ∧ Below w.heap.size w wr) (fun _ _ i _ => 200 - (intOf i).toNat)
  case atStart => exact ⟨0, 0, ByteArray.empty, rfl, rfl, rfl, by omega, by omega, by omega, Nat.zero_le _, ⟨chk_done (Nat.zero_le _), stp_done (Nat.zero_le _)⟩, Below.refl _ _⟩
  case round =>
    rename_i wr hrel
    obtain ⟨j, m, q, rfl, rfl, rfl, hj, hj2, hm, hq, HQ, hB⟩ := hrel
    by_cases hin : j < len ∧ j < 200
    · obtain ⟨g1, g2⟩ := hin
      have hc1 : wr.cell? ⟨b, off + j, none⟩ = some (.int .i64 (zs.getD j 0)) := (hB.cell (p := ⟨b, off + j, none⟩) hb).trans (HC.out j g1)
      have hbr : b < wr.heap.size := Nat.lt_of_lt_of_le hb hB.size
      have P := Lib.hid (fun w => put_any (zs.getD j 0) w)
      have PE : Hid (putE (zs.getD j 0) = if sizeI (zs.getD j 0) = 0 then 2 else 0) := rfl
      have PL : Hid ((putS (zs.getD j 0)).data.toList = putL (zs.getD j 0)) := rfl
      have P0 := Lib.hid (@putL_none (zs.getD j 0))
      have PT := Lib.hid (fun h => put_told (u ++ q).data.toList (x := zs.getD j 0) h)
      have MR := Lib.hid (fun h => more_right (x := zs.getD j 0) HQ.out.1 h)
      have PZ := Lib.hid (putL_length (zs.getD j 0))
      have SR := Lib.hid (sizeI_range (zs.getD j 0))
      have SB : Hid (sizeI (zs.getD j 0) = 0 → zs.getD j 0 < 0 ∨ 1114111 < zs.getD j 0 ∨ (55296 ≤ zs.getD j 0 ∧ zs.getD j 0 ≤ 57343)) := by
        show _ → _; unfold sizeI; (repeat' split) <;> omega
      have UQ := Lib.hid (data_append u q)
      have hqs : (u ++ q).size = u.size + q.size := ByteArray.size_append
      have HQS := Lib.hid hqs
      clear hqs
      generalize zs.getD j 0 = x at *
      by_cases h0 : sizeI x = 0
      · have HZ := Lib.hid (P0.out h0)
        have HE : Hid (putE x = 2) := by show _ = _; rw [PE.out, if_pos h0]
        rw [HZ.out, HE.out] at P
        have hsb := SB.out h0
        clear HZ HE PE PL P0 PT MR PZ SR SB h0
        rcases hsb with h1 | h1 | h1
        · go_wp2_with (go_at_call 16; refine (P.out _).mono ?_; rintro e w1 ⟨rfl, hB1⟩; have hc2 := (hB1.cell (p := ⟨b, off + j, none⟩) hbr).trans hc1)
          refine ⟨⟨j + 1, m, q, by go_num, rfl, rfl, by omega, by omega, by omega, by omega, HQ.out, below_trans hB hB1 hB.size⟩, by simp [intOf]; omega⟩
        · go_wp2_with (go_at_call 16; refine (P.out _).mono ?_; rintro e w1 ⟨rfl, hB1⟩; have hc2 := (hB1.cell (p := ⟨b, off + j, none⟩) hbr).trans hc1)
          refine ⟨⟨j + 1, m, q, by go_num, rfl, rfl, by omega, by omega, by omega, by omega, HQ.out, below_trans hB hB1 hB.size⟩, by simp [intOf]; omega⟩
        · obtain ⟨h1, h2⟩ := h1
          go_wp2_with (go_at_call 16; refine (P.out _).mono ?_; rintro e w1 ⟨rfl, hB1⟩; have hc2 := (hB1.cell (p := ⟨b, off + j, none⟩) hbr).trans hc1)
          refine ⟨⟨j + 1, m, q, by go_num, rfl, rfl, by omega, by omega, by omega, by omega, HQ.out, below_trans hB hB1 hB.size⟩, by simp [intOf]; omega⟩
      · have HE : Hid (putE x = 0) := by show _ = _; rw [PE.out, if_neg h0]
        rw [HE.out] at P
        have hps : ((putS x).size : Int) = sizeI x := by rw [Lib.size_eq, PL.out]; exact PZ.out
        have hp1 : 1 ≤ (putS x).size ∧ (putS x).size ≤ 4 := by have := SR.out; omega
        obtain ⟨t1, t2, t3⟩ := PT.out h0
        have hlen : (u ++ q).data.toList.length = u.size + q.size := by rw [← Lib.size_eq]; exact HQS.out
        have hall : ((u ++ q) ++ putS x).data.toList = (u ++ q).data.toList ++ putL x := by rw [data_append (u ++ q) (putS x), PL.out]
        have hsz : ((u ++ q) ++ putS x).size = u.size + q.size + (putS x).size := by rw [ByteArray.size_append, HQS.out]
        have N := Lib.hid (fun w => next_any ((u ++ q) ++ putS x) (by omega) (u.size + q.size) (by omega) w)
        rw [hlen] at t2 t3
        rw [hall, t2, t3, Int.natCast_add] at N
        have hpl : (putL x).length = (putS x).size := by rw [Lib.size_eq, PL.out]
        rw [hpl] at N
        have MR2 : Hid (chk (q ++ putS x).data.toList 0 = none ∧ stp (q ++ putS x).data.toList 0 (q ++ putS x).data.toList.length = m + 1) := by
          show _ ∧ _
          rw [data_append, PL.out]
          obtain ⟨m1, m2⟩ := MR.out h0
          exact ⟨m1, by rw [m2, HQ.out.2]⟩
        have hqq : (q ++ putS x).size = q.size + (putS x).size := ByteArray.size_append
        have hqb : (q ++ putS x).size ≤ 4 * (j + 1) := by omega
        have HX : Hid True := trivial
        generalize putS x = ps at *
        clear t1 t2 t3 hall hsz hpl hqq hps HE PE PL P0 PT MR PZ SR SB h0 hlen UQ HQS
        go_wp2_with (first | (go_at_call 16; refine (P.out _).mono ?_; rintro e w1 ⟨rfl, hB1⟩; have hc2 := (hB1.cell (p := ⟨b, off + j, none⟩) hbr).trans hc1) | (go_at_call 11; refine (N.out _).mono ?_; rintro e w' ⟨rfl, rfl⟩))
        refine ⟨⟨j + 1, m + 1, q ++ ps, by go_num, by go_num, rfl, by omega, by omega, by omega, hqb, MR2.out, below_trans hB hB1 hB.size⟩, by simp [intOf]; omega⟩
    · have C := Lib.hid (fun w => check_any q (by omega) w)
      have K := Lib.hid (fun w => count_any q (by omega) w)
      rw [show chkE q.data.toList = 0 from chkE_zero.2 HQ.out.1, chkA_zero (chkE_zero.2 HQ.out.1)] at C
      rw [← list_size q, HQ.out.2] at K
      by_cases g1 : j < len
      · have g2 : ¬ j < 200 := fun h => hin ⟨g1, h⟩
        clear hin
        go_wp2_with fail
        refine (C.out _).mono ?_; rintro e w' ⟨rfl, rfl⟩
        go_wp2_with fail
        refine (K.out _).mono ?_; rintro e w' ⟨rfl, rfl⟩
        go_wp2_with fail
        refine (works_any _).mono ?_; rintro e w1 ⟨rfl, hB1⟩
        go_wp2_with fail
        go_ret
        exact ⟨rfl, below_trans hB hB1 hB.size⟩
      · clear hin
        go_wp2_with fail
        refine (C.out _).mono ?_; rintro e w' ⟨rfl, rfl⟩
        go_wp2_with fail
        refine (K.out _).mono ?_; rintro e w' ⟨rfl, rfl⟩
        go_wp2_with fail
        refine (works_any _).mono ?_; rintro e w1 ⟨rfl, hB1⟩
        go_wp2_with fail
        go_ret
        exact ⟨rfl, below_trans hB hB1 hB.size⟩

set_option maxRecDepth 100000 in
set_option maxHeartbeats 1000000 in
/-- A slice of no element. -/
theorem back_none (a : Option Addr) (cap : Nat) (w : World) (s : ByteArray) (hs : s.size ≤ 9223372036854775807) :
    Calls Try.prog 6 #[.slice a 0 cap, .string s] w fun e w' => e = .returned (.bool true) ∧ Below w.heap.size w w' := by
  have FW := Lib.hid (fun w => few_any s hs w)
  have C := Lib.hid (fun w => check_any ⟨#[]⟩ (by decide) w)
  have K := Lib.hid (fun w => count_any ⟨#[]⟩ (by decide) w)
  rw [show chkA (⟨#[]⟩ : ByteArray).data.toList = 0 from chkA_zero (chkE_zero.2 (chk_done (Nat.zero_le _))), show chkE (⟨#[]⟩ : ByteArray).data.toList = 0 from chkE_zero.2 (chk_done (Nat.zero_le _))] at C
  rw [show stp (⟨#[]⟩ : ByteArray).data.toList 0 (⟨#[]⟩ : ByteArray).size = 0 from stp_done (Nat.zero_le _)] at K
  generalize fewS s = u at *
  go_enter Try.func6, Try.ntmps6
  go_wp2_with fail
  refine (FW.out _).mono ?_; rintro e w' ⟨rfl, rfl⟩
  go_wp2_with fail
  go_loop [5, 6, 7] (fun a c i => a = .string ⟨#[]⟩ ∧ c = .int .i64 0 ∧ i = .int .i64 0) (fun _ _ _ => 0)
  case atStart => exact ⟨rfl, rfl, rfl⟩
  case round =>
    obtain ⟨rfl, rfl, rfl⟩ := hrel
    go_wp2_with fail
    refine (C.out _).mono ?_; rintro e w' ⟨rfl, rfl⟩
    go_wp2_with fail
    refine (K.out _).mono ?_; rintro e w' ⟨rfl, rfl⟩
    go_wp2_with fail
    refine (works_any _).mono ?_; rintro e w1 ⟨rfl, hB1⟩
    go_wp2_with fail
    go_ret
    exact ⟨rfl, hB1⟩

theorem law_UtfBack (a : Option Addr) (len cap : Nat) (zs : List Int) (w : World) (h : IsRow .i64 w a len cap zs) (s : ByteArray) (hs : s.size ≤ 9223372036854775807) :
    Calls Try.prog 6 #[.slice a len cap, .string s] w fun e w' => e = .returned (.bool true) ∧ Below w.heap.size w w' := by
  rcases h with ⟨rfl, rfl, rfl, rfl⟩ | ⟨x, rfl, h1, h2, h3, h4, h5⟩
  · exact back_none _ _ w s hs
  · by_cases h0 : len = 0
    · subst h0; exact back_none _ _ w s hs
    · obtain ⟨b, off, rfl, hc⟩ := ints_at h4 (by omega)
      have hb : b < w.heap.size := by
        have h6 := hc 0 (by omega)
        rcases Nat.lt_or_ge b w.heap.size with h7 | h7
        · exact h7
        · exfalso
          have h8 : w.heap[b]? = none := Array.getElem?_eq_none h7
          simp [World.cell?, h8] at h6
      unfold maxLen at h2
      exact back_row b off len cap zs w hb h1 h2 (by omega) (fun i hi => hc i (by omega)) s hs
end Go.Proofs.Ytfknjkjgdadpjaa
