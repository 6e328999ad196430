/- The document's reading of a text. -/
import Derived.Test.YtcpjggcpimghjaaR6
import Derived.Deep.RegionHeld3
namespace Go.Proofs.Ytcpjggcpimghjaa
open Go.RowKit
set_option linter.unusedVariables false

theorem rest_list (s : ByteArray) (k : Nat) : (s.extract k s.size).data.toList = s.data.toList.drop k := by
  rw [Lib.extract_data, List.take_of_length_le (by rw [List.length_drop, list_size']; exact Nat.le_refl _)]
theorem rest_get {s : ByteArray} {k : Nat} (hk : k < s.size) (h : 0 < (s.extract k s.size).size) : (s.extract k s.size)[0] = s[k] := by
  have h1 := drop_cons (s.extract k s.size) 0 h
  rw [List.drop_zero, rest_list, drop_cons s k hk] at h1
  injection h1 with h1; exact h1.symm
def txS (q : UInt8) (R : List UInt8) : ByteArray := match txt q R with | some (o, _) => bs o | none => ⟨#[]⟩
def txN (q : UInt8) (R : List UInt8) : Nat := match txt q R with | some (_, m) => m + 1 | none => 0
theorem tx_n {q : UInt8} {R : List UInt8} (h : txt q R = none) : txS q R = ⟨#[]⟩ ∧ txN q R = 0 := by unfold txS txN; rw [h]; exact ⟨rfl, rfl⟩
theorem tx_s {q : UInt8} {R o : List UInt8} {n : Nat} (h : txt q R = some (o, n)) : txS q R = bs o ∧ txN q R = n + 1 := by unfold txS txN; rw [h]; exact ⟨rfl, rfl⟩
theorem oneT_pos {R o : List UInt8} {n : Nat} (h : oneT R = some (o, n)) : 1 ≤ n ∧ n ≤ R.length ∧ o.length ≤ 4 := by
  match R with
  | [] => cases h
  | c :: r =>
    unfold oneT at h
    simp only at h
    split at h
    · cases he : escT r with
      | none => rw [he] at h; cases h
      | some y =>
        obtain ⟨o2, n2⟩ := y
        rw [he] at h
        injection h with h; injection h with h1 h2; subst h1
        have := escT_size he; simp; omega
    · split at h
      · cases h
      · injection h with h; injection h with h1 h2; subst h1; subst h2; simp
theorem txt_more' {s : ByteArray} {q : UInt8} {p n : Nat} {o : List UInt8} (h : p < s.size) (hc : ¬ s[p] = q) (ho : oneT (s.data.toList.drop p) = some (o, n)) : txt q (s.data.toList.drop p) = app o n (txt q (s.data.toList.drop (p + n))) := by
  have := oneT_pos ho
  obtain ⟨m, rfl⟩ : ∃ m, n = m + 1 := ⟨n - 1, by omega⟩
  rw [txt_more h hc ho, show p + 1 + m = p + (m + 1) by omega]

theorem bt {w b c : World} (h : Below w.heap.size w b) (g : Below b.heap.size b c) : Below w.heap.size w c := h.trans (g.mono h.size)

set_option maxRecDepth 100000 in
set_option maxHeartbeats 4000000 in
theorem rtext_any (s : ByteArray) (hs : s.size ≤ 100000) (h0 : 0 < s.size) (w : World) :
    Calls Try.prog 30 #[.string s] w fun e w' => e = .returned (.tuple #[.int .i64 (txN s[0] (s.data.toList.drop 1) : Nat), .string (txS s[0] (s.data.toList.drop 1))]) ∧ Below w.heap.size w w' := by
  have TN := Lib.hid (@tx_n s[0] (s.data.toList.drop 1))
  have TS := Lib.hid (fun o n => @tx_s s[0] (s.data.toList.drop 1) o n)
  generalize txN s[0] (s.data.toList.drop 1) = zn at *
  generalize txS s[0] (s.data.toList.drop 1) = zs at *
  go_enter Try.func30, Try.ntmps30
  go_wp2_with fail
  go_loopw [4, 5] (fun oo aa wr => ∃ (p : Nat) (a : ByteArray), aa = .int .i64 (p : Int) ∧ oo = .string a ∧ 1 ≤ p ∧ p ≤ s.size ∧ a.size ≤ 4 * p ∧ Hid (txt s[0] (s.data.toList.drop 1) = app a.data.toList (p - 1) (txt s[0] (s.data.toList.drop p))) ∧ Below w.heap.size w wr) (fun _ aa _ => s.size - (intOf aa).toNat)
  case atStart => exact ⟨1, ⟨#[]⟩, rfl, rfl, by omega, by omega, by simp [ByteArray.size], by show _ = _; rw [Nat.sub_self]; exact (app_nil _).symm, Below.refl _ _⟩
  case round =>
    rename_i wr hrel
    obtain ⟨p, a, rfl, rfl, hp1, hps, has, HT, hB⟩ := hrel
    by_cases hlt : p < s.size
    · by_cases hq : s[p] = s[0]
      · obtain ⟨rfl, rfl⟩ := TS.out _ _ (HT.out.trans (by rw [txt_end hlt hq, app_some]))
        have hqq : ((s[p].toNat : Int) == (s[0].toNat : Int)) = true := by rw [hq]; simp
        have HA : Hid (bs (a.data.toList ++ []) = a) := by show _ = _; rw [List.append_nil]; exact (bs_eq rfl).symm
        clear hq
        go_wp2_with fail
        go_quiet (fail)
        go_wp2_with fail
        go_ret2
        exact ⟨by rw [HA.out, show p - 1 + 1 + 1 = p + 1 by omega]; rfl, hB.trans ⟨rfl, rfl, rfl, Nat.le_refl _, fun _ _ => rfl⟩⟩
      · have hqq : ((s[p].toNat : Int) == (s[0].toNat : Int)) = false := by rw [beq_eq_false_iff_ne]; exact fun h => hq (ci_inj h)
        have hz : (s.extract p s.size).size = s.size - p := by rw [ByteArray.size_extract]; omega
        have hg := rest_get hlt (by rw [hz]; omega)
        have R := Lib.hid (fun w => rone_any (s.extract p s.size) (by omega) (s[0].toNat : Int) (by omega) (by rw [hg]; exact hqq) w)
        rw [rest_list] at R
        have ON := Lib.hid (@one_n (s.data.toList.drop p))
        have OS := Lib.hid (fun o n => @one_s (s.data.toList.drop p) o n)
        have OP := Lib.hid (fun o n => @oneT_pos (s.data.toList.drop p) o n)
        have TB := Lib.hid (@txt_bad s s[0] p hlt hq)
        have TM := Lib.hid (fun o n => @txt_more' s s[0] p n o hlt hq)
        generalize oneS (s.data.toList.drop p) = os at *
        generalize oneN (s.data.toList.drop p) = on at *
        generalize hoo : oneT (s.data.toList.drop p) = ot at *
        clear hoo hg hz hq
        rcases ot with _ | ⟨o, n⟩
        · obtain ⟨rfl, rfl⟩ := ON.out rfl
          obtain ⟨rfl, rfl⟩ := TN.out (HT.out.trans (by rw [TB.out rfl]; rfl))
          go_wp2_with fail
          go_quiet (fail)
          go_wp2_with fail
          have hS : Below w.heap.size w (wr.drewN nq) := hB.trans ⟨rfl, rfl, rfl, Nat.le_refl _, fun _ _ => rfl⟩
          generalize wr.drewN nq = wq at *
          go_region_held3 (fun w' => Below w.heap.size w w') (first | assumption | exact Below.drew (by assumption)) (first | (go_at_call 44; refine (R.out _).mono ?_; rintro e w1 ⟨rfl, hB1⟩; have hS1 := bt (w := w) (by assumption) hB1; clear hB1))
          go_wp2_with fail
          go_ret2
          exact ⟨rfl, by assumption⟩
        · obtain ⟨rfl, rfl⟩ := OS.out o n rfl
          obtain ⟨n1, n2, n3⟩ := OP.out o on rfl
          rw [List.length_drop, list_size'] at n2
          have HT2 : Hid (txt s[0] (s.data.toList.drop 1) = app (a.data.toList ++ o) (p - 1 + on) (txt s[0] (s.data.toList.drop (p + on)))) := by
            show _ = _; rw [HT.out, TM.out o on rfl, app_app]
          have hbo : (bs o).size ≤ 4 := by rw [bs_size]; exact n3
          have HBL : Hid ((bs o).data.toList = o) := rfl
          generalize bs o = bo at *
          have hne : ((on : Int) == 0) = false := by rw [beq_eq_false_iff_ne]; omega
          have hsum : (a ++ bo).size = a.size + bo.size := ByteArray.size_append
          have HSUM := Lib.hid hsum
          clear hsum
          go_wp2_with fail
          go_quiet (fail)
          go_wp2_with fail
          have hS : Below w.heap.size w (wr.drewN nq) := hB.trans ⟨rfl, rfl, rfl, Nat.le_refl _, fun _ _ => rfl⟩
          generalize wr.drewN nq = wq at *
          go_region_held3 (fun w' => Below w.heap.size w w') (first | assumption | exact Below.drew (by assumption)) (first | (go_at_call 44; refine (R.out _).mono ?_; rintro e w1 ⟨rfl, hB1⟩; have hS1 := bt (w := w) (by assumption) hB1; clear hB1))
          go_wp2_with fail
          go_roundw
          case rel => exact ⟨p + on, a ++ bo, by go_num, rfl, by omega, by omega, by rw [HSUM.out]; omega, by show _ = _; rw [show (a ++ bo).data.toList = a.data.toList ++ o by rw [← HBL.out]; simp, show p + on - 1 = p - 1 + on by omega]; exact HT2.out, by assumption⟩
          case measure => simp [intOf]; omega
    · obtain ⟨rfl, rfl⟩ := TN.out (HT.out.trans (by rw [txt_out (by omega)]; rfl))
      go_wp2_with fail
      go_ret2
      exact ⟨rfl, hB⟩
end Go.Proofs.Ytcpjggcpimghjaa
