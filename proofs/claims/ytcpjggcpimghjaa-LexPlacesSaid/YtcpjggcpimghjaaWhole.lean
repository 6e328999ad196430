/- Digits, whole, by the program. -/
import Derived.Test.YtcpjggcpimghjaaName
namespace Go.Proofs.Ytcpjggcpimghjaa
open Go.RowKit
set_option linter.unusedVariables false

def numV (r : Option Int) : Int := r.getD 0
def numK (r : Option Int) : Bool := r.isSome
theorem digs_end (base n : Int) : digs base [] n = some n := rfl
theorem digs_bad {base : Int} {t : ByteArray} {j : Nat} (h : j < t.size) {n : Int} (hb : base ≤ hexI (t[j].toNat : Int)) : digs base (t.data.toList.drop j) n = none := by
  rw [drop_cons t j h, digs]; unfold ci; rw [if_pos hb]
theorem digs_big {base : Int} {t : ByteArray} {j : Nat} (h : j < t.size) {n : Int} (hb : ¬ base ≤ hexI (t[j].toNat : Int)) (hn : 9007199254740992 < n * base + hexI (t[j].toNat : Int)) : digs base (t.data.toList.drop j) n = none := by
  rw [drop_cons t j h, digs]; unfold ci; rw [if_neg hb, if_pos hn]
theorem digs_more {base : Int} {t : ByteArray} {j : Nat} (h : j < t.size) {n : Int} (hb : ¬ base ≤ hexI (t[j].toNat : Int)) (hn : ¬ 9007199254740992 < n * base + hexI (t[j].toNat : Int)) : digs base (t.data.toList.drop j) n = digs base (t.data.toList.drop (j + 1)) (n * base + hexI (t[j].toNat : Int)) := by
  rw [drop_cons t j h, digs]; unfold ci; rw [if_neg hb, if_neg hn]
theorem pre_two {P : List UInt8} {x : UInt8} : Lib.hasPrefix P [48, x] = true ↔ P.take 2 = [48, x] := by
  unfold Lib.hasPrefix
  match P with
  | [] => simp [List.isPrefixOf]
  | [a] => simp [List.isPrefixOf]
  | a :: b :: r => simp [List.isPrefixOf]; exact ⟨fun ⟨h1, h2⟩ => ⟨h1.symm, h2.symm⟩, fun ⟨h1, h2⟩ => ⟨h1.symm, h2.symm⟩⟩
theorem list_eq_iff (s : ByteArray) (l : List UInt8) : (s.toList == l) = decide (s.data.toList = l) := by
  rw [Lib.toList_data, Bool.eq_iff_iff]; simp

def WholePost (r : Option Int) (w : World) (e : Ending) (w' : World) : Prop := ∃ n, e = .returned (.tuple #[.int .i64 (numV r), .bool (numK r)]) ∧ w' = w.drewN n
theorem wp_none {r : Option Int} {w : World} {n : Nat} (h : r = none) : WholePost r w (.returned (.tuple #[.int .i64 0, .bool false])) (w.drewN n) := ⟨n, by rw [h]; rfl, rfl⟩
theorem wp_some {r : Option Int} {w : World} {n : Nat} {v : Int} (h : r = some v) : WholePost r w (.returned (.tuple #[.int .i64 v, .bool true])) (w.drewN n) := ⟨n, by rw [h]; rfl, rfl⟩

set_option maxRecDepth 100000 in
set_option maxHeartbeats 2000000 in
theorem whole_ten (s : ByteArray) (hs : s.size ≤ 1000000) (h0 : 0 < s.size) (p1 : (s.toList == [48]) = false) (p2 : Lib.hasPrefix s.data.toList [48, 120] = false) (p3 : Lib.hasPrefix s.data.toList [48, 88] = false) (p4 : ((s[0].toNat : Int) == 48) = false) (w : World) :
    Calls Try.prog 48 #[.string s] w (WholePost (numO s.data.toList) w) := by
  have HQ : Hid (numO s.data.toList = digs 10 s.data.toList 0) := by
    show _ = _
    have e1 : ¬ s.data.toList = [48] := by rw [list_eq_iff] at p1; simpa using p1
    have e2 : ¬ s.data.toList.take 2 = [48, 120] := fun h => by rw [pre_two.2 h] at p2; cases p2
    have e3 : ¬ s.data.toList.take 2 = [48, 88] := fun h => by rw [pre_two.2 h] at p3; cases p3
    have e4 : ¬ s.data.toList.head? = some 48 := by
      intro h
      have hd := drop_cons s 0 h0
      rw [List.drop_zero] at hd
      rw [hd] at h
      injection h with h
      rw [h] at p4
      exact absurd p4 (by decide)
    unfold numO
    rw [if_neg e1, if_neg (by simp [e2, e3]), if_neg e4]
  have P1 := Lib.hid (fun w => Try.strings_HasPrefix s ⟨#[48, 120]⟩ w)
  have P2 := Lib.hid (fun w => Try.strings_HasPrefix s ⟨#[48, 88]⟩ w)
  rw [show (⟨#[48, 120]⟩ : ByteArray).data.toList = [48, 120] from rfl, p2] at P1
  rw [show (⟨#[48, 88]⟩ : ByteArray).data.toList = [48, 88] from rfl, p3] at P2
  have hne : (s.toList == []) = false := by
    rw [list_eq_iff]
    have : s.data.toList ≠ [] := fun e => by have := list_size' s; rw [e] at this; simp at this; omega
    simpa using this
  have hne2 : s.toList.isEmpty = false := by
    rw [Lib.toList_data]
    have : s.data.toList ≠ [] := fun e => by have := list_size' s; rw [e] at this; simp at this; omega
    simpa using this
  generalize numO s.data.toList = R at *
  clear p2 p3
  go_enter Try.func48, Try.ntmps48
  go_wp2_with fail
  refine (P1.out _).mono ?_; rintro e w' ⟨rfl, rfl⟩
  go_wp2_with fail
  refine (P2.out _).mono ?_; rintro e w' ⟨rfl, rfl⟩
  go_wp2_with fail
  go_loop [5, 24] (fun nn ii => ∃ (j : Nat) (v : Int), ii = .int .i64 (j : Int) ∧ nn = .int .i64 v ∧ j ≤ s.size ∧ 0 ≤ v ∧ v ≤ 9007199254740992 ∧ Hid (digs 10 s.data.toList 0 = digs 10 (s.data.toList.drop j) v)) (fun _ ii => s.size - (intOf ii).toNat)
  case atStart => exact ⟨0, 0, rfl, rfl, by omega, by omega, by omega, rfl⟩
  case round =>
    obtain ⟨j, v, rfl, rfl, hj, hv0, hv1, HC⟩ := hrel
    by_cases hlt : j < s.size
    · have D := Lib.hid (fun w => digit_any (s[j].toNat : Int) (Int.natCast_nonneg _) (by have := s[j].toNat_lt; omega) w)
      have B1 := Lib.hid (@digs_bad 10 s j hlt v)
      have B2 := Lib.hid (@digs_big 10 s j hlt v)
      have B3 := Lib.hid (@digs_more 10 s j hlt v)
      have hr := hexI_range (s[j].toNat : Int)
      generalize hexI (s[j].toNat : Int) = d at *
      obtain ⟨hr0, hr1⟩ := hr
      by_cases hb : 10 ≤ d
      · have E := Lib.hid (HQ.out.trans (HC.out.trans (B1.out hb)))
        go_wp2_with fail
        refine (D.out _).mono ?_; rintro e w' ⟨rfl, rfl⟩
        go_wp2_with fail
        go_ret2
        exact wp_none (n := 0) E.out
      · by_cases hn : 9007199254740992 < v * 10 + d
        · have E := Lib.hid (HQ.out.trans (HC.out.trans (B2.out hb hn)))
          go_wp2_with fail
          refine (D.out _).mono ?_; rintro e w' ⟨rfl, rfl⟩
          go_wp2_with fail
          go_ret2
          exact wp_none (n := 0) E.out
        · have E := Lib.hid (HC.out.trans (B3.out hb hn))
          go_wp2_with fail
          refine (D.out _).mono ?_; rintro e w' ⟨rfl, rfl⟩
          go_wp2_with fail
          go_round
          case rel => exact ⟨j + 1, v * 10 + d, by go_num, by go_num, by omega, by omega, by omega, E.out⟩
          case measure => simp [intOf]; omega
    · have E := Lib.hid (HQ.out.trans (HC.out.trans (by rw [drop_done s j (by omega), digs_end])))
      go_wp2_with fail
      go_ret2
      exact wp_some (n := 0) E.out

set_option maxRecDepth 100000 in
set_option maxHeartbeats 2000000 in
theorem whole_zero (s : ByteArray) (hs : s.size ≤ 1000000) (p1 : (s.toList == [48]) = true) (w : World) :
    Calls Try.prog 48 #[.string s] w (WholePost (numO s.data.toList) w) := by
  have HQ : Hid (numO s.data.toList = some 0) := by
    show _ = _
    have e1 : s.data.toList = [48] := by rw [list_eq_iff] at p1; simpa using p1
    unfold numO
    rw [if_pos e1]
  generalize numO s.data.toList = R at *
  go_enter Try.func48, Try.ntmps48
  go_wp2_with fail
  go_ret2
  exact wp_some (n := 0) HQ.out

set_option maxRecDepth 100000 in
set_option maxHeartbeats 2000000 in
theorem whole_lead (s : ByteArray) (hs : s.size ≤ 1000000) (h0 : 0 < s.size) (p1 : (s.toList == [48]) = false) (p2 : Lib.hasPrefix s.data.toList [48, 120] = false) (p3 : Lib.hasPrefix s.data.toList [48, 88] = false) (p4 : ((s[0].toNat : Int) == 48) = true) (w : World) :
    Calls Try.prog 48 #[.string s] w (WholePost (numO s.data.toList) w) := by
  have HQ : Hid (numO s.data.toList = none) := by
    show _ = _
    have e1 : ¬ s.data.toList = [48] := by rw [list_eq_iff] at p1; simpa using p1
    have e2 : ¬ s.data.toList.take 2 = [48, 120] := fun h => by rw [pre_two.2 h] at p2; cases p2
    have e3 : ¬ s.data.toList.take 2 = [48, 88] := fun h => by rw [pre_two.2 h] at p3; cases p3
    have e4 : s.data.toList.head? = some 48 := by
      have hd := drop_cons s 0 h0
      rw [List.drop_zero] at hd
      rw [hd]
      have : ci s[0] = ci 48 := by unfold ci; exact eq_of_beq p4
      rw [ci_inj this]; rfl
    unfold numO
    rw [if_neg e1, if_neg (by simp [e2, e3]), if_pos e4]
  have P1 := Lib.hid (fun w => Try.strings_HasPrefix s ⟨#[48, 120]⟩ w)
  have P2 := Lib.hid (fun w => Try.strings_HasPrefix s ⟨#[48, 88]⟩ w)
  rw [show (⟨#[48, 120]⟩ : ByteArray).data.toList = [48, 120] from rfl, p2] at P1
  rw [show (⟨#[48, 88]⟩ : ByteArray).data.toList = [48, 88] from rfl, p3] at P2
  generalize numO s.data.toList = R at *
  clear p2 p3
  go_enter Try.func48, Try.ntmps48
  go_wp2_with fail
  refine (P1.out _).mono ?_; rintro e w' ⟨rfl, rfl⟩
  go_wp2_with fail
  refine (P2.out _).mono ?_; rintro e w' ⟨rfl, rfl⟩
  go_wp2_with fail
  go_ret2
  exact wp_none (n := 0) HQ.out

set_option maxRecDepth 100000 in
set_option maxHeartbeats 2000000 in
theorem whole_hexl (s t : ByteArray) (ht : t = s.extract 2 s.size) (hs : s.size ≤ 1000000) (h2 : 2 ≤ s.size) (p1 : (s.toList == [48]) = false) (p2 : Lib.hasPrefix s.data.toList [48, 120] = true) (w : World) :
    Calls Try.prog 48 #[.string s] w (WholePost (numO s.data.toList) w) := by
  have hts : t.size = s.size - 2 := by rw [ht, ByteArray.size_extract]; omega
  have hdt : s.data.toList.drop 2 = t.data.toList := by rw [ht, Lib.extract_data, List.take_of_length_le (by rw [List.length_drop, list_size'] ; omega)]
  have HQ0 : Hid (numO s.data.toList = if t.data.toList = [] then none else digs 16 t.data.toList 0) := by
    show _ = _
    have e1 : ¬ s.data.toList = [48] := by rw [list_eq_iff] at p1; simpa using p1
    have e2 : s.data.toList.take 2 = [48, 120] := pre_two.1 p2
    unfold numO
    rw [if_neg e1, if_pos (by simp [e2]), hdt]
  have P1 := Lib.hid (fun w => Try.strings_HasPrefix s ⟨#[48, 120]⟩ w)
  rw [show (⟨#[48, 120]⟩ : ByteArray).data.toList = [48, 120] from rfl, p2] at P1
  generalize numO s.data.toList = R at *
  have htl : t.size ≤ 1000000 := by omega
  have HT := Lib.hid ht
  have HTS := Lib.hid hts
  have hsl : (2 : Int) ≤ (s.size : Int) := by omega
  clear ht hts hdt p2 
  by_cases he : t.size = 0
  · have hnil : t.data.toList = [] := List.eq_nil_of_length_eq_zero (by rw [list_size']; exact he)
    have E := Lib.hid (HQ0.out.trans (if_pos hnil))
    have hne : t.toList.isEmpty = true := by rw [Lib.toList_data, hnil]; rfl
    have hne2 : t.toList = [] := by rw [Lib.toList_data, hnil]
    have HN := Lib.hid hne
    have HN2 := Lib.hid hne2
    have HZ := Lib.hid he
    clear hnil hne hne2 he HQ0
    go_enter Try.func48, Try.ntmps48
    go_wp2_with fail
    refine (P1.out _).mono ?_; rintro e w' ⟨rfl, rfl⟩
    go_wp2_with fail
    go_quiet (fail)
    go_wp2_with fail
    rw [← HT.out, ← HTS.out]
    have hz : ¬ 0 < t.size := by have := HZ.out; omega
    have q1 := HN.out
    have q2 := HN2.out
    go_loop [5, 24] (fun nn ii => ii = .int .i64 0 ∧ nn = .int .i64 0) (fun _ _ => 0)
    case atStart => exact ⟨rfl, rfl⟩
    case round =>
      obtain ⟨rfl, rfl⟩ := hrel
      have hz2 : ((t.size : Nat) : Int) = 0 := by omega
      go_wp2_with fail
      go_ret2
      exact wp_none E.out
  · have hcons : ¬ t.data.toList = [] := fun e => he (by rw [← list_size', e]; rfl)
    have HQ := Lib.hid (HQ0.out.trans (if_neg hcons))
    have hne : (t.toList == []) = false := by rw [list_eq_iff]; simpa using hcons
    have hne2 : t.toList.isEmpty = false := by rw [Lib.toList_data]; simpa using hcons
    clear hcons he HQ0
    go_enter Try.func48, Try.ntmps48
    go_wp2_with fail
    refine (P1.out _).mono ?_; rintro e w' ⟨rfl, rfl⟩
    go_wp2_with fail
    go_quiet (fail)
    go_wp2_with fail
    rw [← HT.out, ← HTS.out]
    go_loop [5, 24] (fun nn ii => ∃ (j : Nat) (v : Int), ii = .int .i64 (j : Int) ∧ nn = .int .i64 v ∧ j ≤ t.size ∧ 0 ≤ v ∧ v ≤ 9007199254740992 ∧ Hid (digs 16 t.data.toList 0 = digs 16 (t.data.toList.drop j) v)) (fun _ ii => t.size - (intOf ii).toNat)
    case atStart => exact ⟨0, 0, rfl, rfl, by omega, by omega, by omega, rfl⟩
    case round =>
      obtain ⟨j, v, rfl, rfl, hj, hv0, hv1, HC⟩ := hrel
      by_cases hlt : j < t.size
      · have D := Lib.hid (fun w => digit_any (t[j].toNat : Int) (Int.natCast_nonneg _) (by have := t[j].toNat_lt; omega) w)
        have B1 := Lib.hid (@digs_bad 16 t j hlt v)
        have B2 := Lib.hid (@digs_big 16 t j hlt v)
        have B3 := Lib.hid (@digs_more 16 t j hlt v)
        have hr := hexI_range (t[j].toNat : Int)
        generalize hexI (t[j].toNat : Int) = d at *
        obtain ⟨hr0, hr1⟩ := hr
        by_cases hb : 16 ≤ d
        · have E := Lib.hid (HQ.out.trans (HC.out.trans (B1.out hb)))
          go_wp2_with fail
          refine (D.out _).mono ?_; rintro e w' ⟨rfl, rfl⟩
          go_wp2_with fail
          go_ret2
          exact wp_none E.out
        · by_cases hn : 9007199254740992 < v * 16 + d
          · have E := Lib.hid (HQ.out.trans (HC.out.trans (B2.out hb hn)))
            go_wp2_with fail
            refine (D.out _).mono ?_; rintro e w' ⟨rfl, rfl⟩
            go_wp2_with fail
            go_ret2
            exact wp_none E.out
          · have E := Lib.hid (HC.out.trans (B3.out hb hn))
            go_wp2_with fail
            refine (D.out _).mono ?_; rintro e w' ⟨rfl, rfl⟩
            go_wp2_with fail
            go_round
            case rel => exact ⟨j + 1, v * 16 + d, by go_num, by go_num, by omega, by omega, by omega, E.out⟩
            case measure => simp [intOf]; omega
      · have E := Lib.hid (HQ.out.trans (HC.out.trans (by rw [drop_done t j (by omega), digs_end])))
        go_wp2_with fail
        go_ret2
        exact wp_some E.out

set_option maxRecDepth 100000 in
set_option maxHeartbeats 2000000 in
theorem whole_hexu (s t : ByteArray) (ht : t = s.extract 2 s.size) (hs : s.size ≤ 1000000) (h2 : 2 ≤ s.size) (p1 : (s.toList == [48]) = false) (p2 : Lib.hasPrefix s.data.toList [48, 120] = false) (p3 : Lib.hasPrefix s.data.toList [48, 88] = true) (w : World) :
    Calls Try.prog 48 #[.string s] w (WholePost (numO s.data.toList) w) := by
  have hts : t.size = s.size - 2 := by rw [ht, ByteArray.size_extract]; omega
  have hdt : s.data.toList.drop 2 = t.data.toList := by rw [ht, Lib.extract_data, List.take_of_length_le (by rw [List.length_drop, list_size'] ; omega)]
  have HQ0 : Hid (numO s.data.toList = if t.data.toList = [] then none else digs 16 t.data.toList 0) := by
    show _ = _
    have e1 : ¬ s.data.toList = [48] := by rw [list_eq_iff] at p1; simpa using p1
    have e2 : s.data.toList.take 2 = [48, 88] := pre_two.1 p3
    unfold numO
    rw [if_neg e1, if_pos (by simp [e2]), hdt]
  have P1 := Lib.hid (fun w => Try.strings_HasPrefix s ⟨#[48, 120]⟩ w)
  rw [show (⟨#[48, 120]⟩ : ByteArray).data.toList = [48, 120] from rfl, p2] at P1
  have P2 := Lib.hid (fun w => Try.strings_HasPrefix s ⟨#[48, 88]⟩ w)
  rw [show (⟨#[48, 88]⟩ : ByteArray).data.toList = [48, 88] from rfl, p3] at P2
  generalize numO s.data.toList = R at *
  have htl : t.size ≤ 1000000 := by omega
  have HT := Lib.hid ht
  have HTS := Lib.hid hts
  have hsl : (2 : Int) ≤ (s.size : Int) := by omega
  clear ht hts hdt p2 p3
  by_cases he : t.size = 0
  · have hnil : t.data.toList = [] := List.eq_nil_of_length_eq_zero (by rw [list_size']; exact he)
    have E := Lib.hid (HQ0.out.trans (if_pos hnil))
    have hne : t.toList.isEmpty = true := by rw [Lib.toList_data, hnil]; rfl
    have hne2 : t.toList = [] := by rw [Lib.toList_data, hnil]
    have HN := Lib.hid hne
    have HN2 := Lib.hid hne2
    have HZ := Lib.hid he
    clear hnil hne hne2 he HQ0
    go_enter Try.func48, Try.ntmps48
    go_wp2_with fail
    refine (P1.out _).mono ?_; rintro e w' ⟨rfl, rfl⟩
    go_wp2_with fail
    refine (P2.out _).mono ?_; rintro e w' ⟨rfl, rfl⟩
    go_wp2_with fail
    go_quiet (fail)
    go_wp2_with fail
    rw [← HT.out, ← HTS.out]
    have hz : ¬ 0 < t.size := by have := HZ.out; omega
    have q1 := HN.out
    have q2 := HN2.out
    go_loop [5, 24] (fun nn ii => ii = .int .i64 0 ∧ nn = .int .i64 0) (fun _ _ => 0)
    case atStart => exact ⟨rfl, rfl⟩
    case round =>
      obtain ⟨rfl, rfl⟩ := hrel
      have hz2 : ((t.size : Nat) : Int) = 0 := by omega
      go_wp2_with fail
      go_ret2
      exact wp_none E.out
  · have hcons : ¬ t.data.toList = [] := fun e => he (by rw [← list_size', e]; rfl)
    have HQ := Lib.hid (HQ0.out.trans (if_neg hcons))
    have hne : (t.toList == []) = false := by rw [list_eq_iff]; simpa using hcons
    have hne2 : t.toList.isEmpty = false := by rw [Lib.toList_data]; simpa using hcons
    clear hcons he HQ0
    go_enter Try.func48, Try.ntmps48
    go_wp2_with fail
    refine (P1.out _).mono ?_; rintro e w' ⟨rfl, rfl⟩
    go_wp2_with fail
    refine (P2.out _).mono ?_; rintro e w' ⟨rfl, rfl⟩
    go_wp2_with fail
    go_quiet (fail)
    go_wp2_with fail
    rw [← HT.out, ← HTS.out]
    go_loop [5, 24] (fun nn ii => ∃ (j : Nat) (v : Int), ii = .int .i64 (j : Int) ∧ nn = .int .i64 v ∧ j ≤ t.size ∧ 0 ≤ v ∧ v ≤ 9007199254740992 ∧ Hid (digs 16 t.data.toList 0 = digs 16 (t.data.toList.drop j) v)) (fun _ ii => t.size - (intOf ii).toNat)
    case atStart => exact ⟨0, 0, rfl, rfl, by omega, by omega, by omega, rfl⟩
    case round =>
      obtain ⟨j, v, rfl, rfl, hj, hv0, hv1, HC⟩ := hrel
      by_cases hlt : j < t.size
      · have D := Lib.hid (fun w => digit_any (t[j].toNat : Int) (Int.natCast_nonneg _) (by have := t[j].toNat_lt; omega) w)
        have B1 := Lib.hid (@digs_bad 16 t j hlt v)
        have B2 := Lib.hid (@digs_big 16 t j hlt v)
        have B3 := Lib.hid (@digs_more 16 t j hlt v)
        have hr := hexI_range (t[j].toNat : Int)
        generalize hexI (t[j].toNat : Int) = d at *
        obtain ⟨hr0, hr1⟩ := hr
        by_cases hb : 16 ≤ d
        · have E := Lib.hid (HQ.out.trans (HC.out.trans (B1.out hb)))
          go_wp2_with fail
          refine (D.out _).mono ?_; rintro e w' ⟨rfl, rfl⟩
          go_wp2_with fail
          go_ret2
          exact wp_none E.out
        · by_cases hn : 9007199254740992 < v * 16 + d
          · have E := Lib.hid (HQ.out.trans (HC.out.trans (B2.out hb hn)))
            go_wp2_with fail
            refine (D.out _).mono ?_; rintro e w' ⟨rfl, rfl⟩
            go_wp2_with fail
            go_ret2
            exact wp_none E.out
          · have E := Lib.hid (HC.out.trans (B3.out hb hn))
            go_wp2_with fail
            refine (D.out _).mono ?_; rintro e w' ⟨rfl, rfl⟩
            go_wp2_with fail
            go_round
            case rel => exact ⟨j + 1, v * 16 + d, by go_num, by go_num, by omega, by omega, by omega, E.out⟩
            case measure => simp [intOf]; omega
      · have E := Lib.hid (HQ.out.trans (HC.out.trans (by rw [drop_done t j (by omega), digs_end])))
        go_wp2_with fail
        go_ret2
        exact wp_some E.out

theorem whole_any (s : ByteArray) (hs : s.size ≤ 1000000) (h0 : 0 < s.size) (w : World) : Calls Try.prog 48 #[.string s] w (WholePost (numO s.data.toList) w) := by
  have two : ∀ x, Lib.hasPrefix s.data.toList [48, x] = true → 2 ≤ s.size := by
    intro x hx
    have := congrArg List.length (pre_two.1 hx)
    rw [List.length_take, list_size'] at this
    simp at this; omega
  cases p1 : (s.toList == [48])
  · cases p2 : Lib.hasPrefix s.data.toList [48, 120]
    · cases p3 : Lib.hasPrefix s.data.toList [48, 88]
      · cases p4 : ((s[0].toNat : Int) == 48)
        · exact whole_ten s hs h0 p1 p2 p3 p4 w
        · exact whole_lead s hs h0 p1 p2 p3 p4 w
      · exact whole_hexu s _ rfl hs (two _ p3) p1 p2 p3 w
    · exact whole_hexl s _ rfl hs (two _ p2) p1 p2 w
  · exact whole_zero s hs p1 w
end Go.Proofs.Ytcpjggcpimghjaa
