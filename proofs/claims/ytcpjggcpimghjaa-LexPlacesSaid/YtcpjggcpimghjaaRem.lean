/- A remark, by the program. -/
import Derived.Test.YtcpjggcpimghjaaSign
import Derived.Lib.IndexMore
namespace Go.Proofs.Ytcpjggcpimghjaa
open Go.RowKit
set_option linter.unusedVariables false

theorem lineN_le : ∀ L : List UInt8, lineN L ≤ L.length
  | [] => Nat.le_refl _
  | c :: r => by unfold lineN; have := lineN_le r; split <;> simp <;> omega
theorem index_line : ∀ L : List UInt8, Lib.index L [10] = if lineN L < L.length then (lineN L : Int) else -1
  | [] => rfl
  | c :: r => by
    unfold Lib.index lineN
    by_cases h : c = 10
    · subst h; simp [List.isPrefixOf]
    · have h2 : ([10] : List UInt8).isPrefixOf (c :: r) = false := by simp [List.isPrefixOf]; exact fun e => h e.symm
      rw [h2, index_line r, if_neg h]
      by_cases hl : lineN r < r.length
      · rw [if_pos hl]
        have : (((lineN r : Nat) : Int) == -1) = false := by rw [beq_eq_false_iff_ne]; omega
        simp [this, hl]
      · rw [if_neg hl]; simp [hl]
theorem cut_line (L : List UInt8) : (Lib.cut L [10]).1.length = lineN L := by
  unfold Lib.cut
  rw [index_line]
  have := lineN_le L
  by_cases h : lineN L < L.length
  · rw [if_pos h, if_pos (by omega)]; simp; omega
  · rw [if_neg h, if_neg (by decide)]; simp; omega
theorem endN_le : ∀ {L : List UInt8} {i : Nat}, endN L = some i → i + 2 ≤ L.length
  | [], _, h => by cases h
  | [_], _, h => by cases h
  | c :: d :: r, i, h => by
    unfold endN at h
    split at h
    · injection h with h; subst h; simp
    · cases he : endN (d :: r) with
      | none => rw [he] at h; cases h
      | some j =>
        rw [he] at h
        have := endN_le he
        simp at h this ⊢; omega
theorem index_end : ∀ L : List UInt8, Lib.index L [42, 47] = match endN L with | some i => (i : Int) | none => -1
  | [] => rfl
  | [c] => by simp [Lib.index, endN, List.isPrefixOf]
  | c :: d :: r => by
    unfold Lib.index endN
    by_cases h : c = 42 ∧ d = 47
    · obtain ⟨rfl, rfl⟩ := h; simp [List.isPrefixOf]
    · have h2 : ([42, 47] : List UInt8).isPrefixOf (c :: d :: r) = false := by
        simp [List.isPrefixOf]; exact fun e1 e2 => h ⟨e1.symm, e2.symm⟩
      rw [h2, index_end (d :: r), if_neg h]
      cases endN (d :: r) with
      | none => simp
      | some i =>
        have : (((i : Nat) : Int) == -1) = false := by rw [beq_eq_false_iff_ne]; omega
        simp [this]
theorem cut_end_some {L : List UInt8} {i : Nat} (h : endN L = some i) : (Lib.cut L [42, 47]).1.length = i ∧ (Lib.cut L [42, 47]).2.2 = true := by
  unfold Lib.cut
  rw [index_end, h]
  have := endN_le h
  rw [if_pos (by simp)]
  simp; omega
theorem cut_end_none {L : List UInt8} (h : endN L = none) : (Lib.cut L [42, 47]).2.2 = false := by
  unfold Lib.cut
  rw [index_end, h, if_neg (by decide)]

theorem pre_two' {P : List UInt8} {x y : UInt8} : Lib.hasPrefix P [x, y] = true ↔ ∃ r, P = x :: y :: r := by
  unfold Lib.hasPrefix
  match P with
  | [] => simp [List.isPrefixOf]
  | [a] => simp [List.isPrefixOf]
  | a :: b :: r =>
    simp [List.isPrefixOf]
    exact ⟨fun ⟨h1, h2⟩ => ⟨h1.symm, h2.symm⟩, fun ⟨h1, h2⟩ => ⟨h1.symm, h2.symm⟩⟩
theorem rem_line {R : List UInt8} (h : Lib.hasPrefix R [47, 47] = true) : remN R = some (lineN R) := by
  obtain ⟨r, rfl⟩ := pre_two'.1 h; rfl
theorem rem_end {R : List UInt8} (h : Lib.hasPrefix R [47, 42] = true) : remN R = (endN (R.drop 2)).map (· + 4) := by
  obtain ⟨r, rfl⟩ := pre_two'.1 h; rfl
theorem rem_none {R : List UInt8} (h : Lib.hasPrefix R [47, 47] = false) (h2 : Lib.hasPrefix R [47, 42] = false) : remN R = some 0 := by
  match R with
  | [] => rfl
  | [a] => rfl
  | a :: b :: r =>
    have e1 : ¬ (a = 47 ∧ b = 47) := by rintro ⟨rfl, rfl⟩; rw [pre_two'.2 ⟨r, rfl⟩] at h; cases h
    have e2 : ¬ (a = 47 ∧ b = 42) := by rintro ⟨rfl, rfl⟩; rw [pre_two'.2 ⟨r, rfl⟩] at h2; cases h2
    show (if a = 47 ∧ b = 47 then _ else if a = 47 ∧ b = 42 then _ else some 0) = some 0
    rw [if_neg e1, if_neg e2]

/-- internal/bytealg.MaxLen holds some number, and lies below block b. -/
def ML (b : Nat) (w : World) : Prop := 1 < b ∧ ∃ m, w.cell? ⟨1, 0, none⟩ = some (.int .i64 m)
theorem ML.off {b : Nat} {w w' : World} (h : ML b w) (hb : b < w.heap.size) (o : Off b w w') : ML b w' := by
  obtain ⟨h1, m, h2⟩ := h
  exact ⟨h1, m, (o.cell (p := ⟨1, 0, none⟩) (by show 1 < _; omega) (by show 1 ≠ _; omega)).trans h2⟩

def RemPost (b : Nat) (beg : Int) (w : World) (r : Option Nat) (e : Ending) (w' : World) : Prop := match r with
  | some n => e = .returned (.int .i64 (n : Int)) ∧ ∃ nd, w' = w.drewN nd
  | none => e = flt beg 5 ∧ Off b w w'
theorem rp_some {b : Nat} {beg : Int} {w : World} {r : Option Nat} {e : Ending} {n nd : Nat} (h : r = some n) (he : e = .returned (.int .i64 (n : Int))) : RemPost b beg w r e (w.drewN nd) := by subst h; exact ⟨he, nd, rfl⟩
theorem rp_none {b : Nat} {beg : Int} {w w' : World} {r : Option Nat} {e : Ending} (h : r = none) (he : e = flt beg 5) (ho : Off b w w') : RemPost b beg w r e w' := by subst h; exact ⟨he, ho⟩

set_option maxRecDepth 100000 in
set_option maxHeartbeats 4000000 in
theorem remark_any (b : Nat) (s : ByteArray) (hs : s.size ≤ 100000) (beg op : Int) (k : Nat) (hk : k ≤ s.size) (w : World) (h : Rd w b s beg k op) (hm : ML b w) :
    Calls Try.prog 34 #[.pointer (some ⟨b, 0, none⟩)] w (RemPost b k w (remN (s.data.toList.drop k))) := by
  have H := Lib.hid h
  have c0 := h.c0
  have c2 := h.c2
  have f1 := h.fz 1
  have c1 := h.c1
  obtain ⟨hmb, m, hmc⟩ := hm
  have HMC := Lib.hid hmc
  clear h hmc
  have htl : (s.extract k s.size).data.toList = s.data.toList.drop k := by rw [Lib.extract_data, List.take_of_length_le (by rw [List.length_drop, list_size']; exact Nat.le_refl _)]
  have hts : (s.extract k s.size).size ≤ 100000 := by rw [ByteArray.size_extract]; omega
  have P1 := Lib.hid (fun w => Try.strings_HasPrefix (s.extract k s.size) ⟨#[47, 47]⟩ w)
  have P2 := Lib.hid (fun w => Try.strings_HasPrefix (s.extract k s.size) ⟨#[47, 42]⟩ w)
  have CL := Lib.hid (fun w hm => Try.strings_Cut (s.extract k s.size) ⟨#[10]⟩ m w (by omega) hm)
  have CE := Lib.hid (fun w hm => Try.strings_Cut ((s.extract k s.size).extract 2 (s.extract k s.size).size) ⟨#[42, 47]⟩ m w (by rw [ByteArray.size_extract]; omega) hm)
  have hel : ((s.extract k s.size).extract 2 (s.extract k s.size).size).data.toList = (s.data.toList.drop k).drop 2 := by
    rw [Lib.extract_data, htl, List.take_of_length_le (by rw [List.length_drop, ← htl, list_size']; exact Nat.le_refl _)]
  rw [htl] at P1 P2 CL
  rw [hel] at CE
  rw [show (⟨#[47, 47]⟩ : ByteArray).data.toList = [47, 47] from rfl] at P1
  rw [show (⟨#[47, 42]⟩ : ByteArray).data.toList = [47, 42] from rfl] at P2
  rw [show (⟨#[10]⟩ : ByteArray).data.toList = [10] from rfl] at CL
  rw [show (⟨#[42, 47]⟩ : ByteArray).data.toList = [42, 47] from rfl] at CE
  have RL := Lib.hid (@rem_line (s.data.toList.drop k))
  have RE := Lib.hid (@rem_end (s.data.toList.drop k))
  have RN := Lib.hid (@rem_none (s.data.toList.drop k))
  have NL := Lib.hid (cut_line (s.data.toList.drop k))
  have NE := Lib.hid (fun i => @cut_end_some ((s.data.toList.drop k).drop 2) i)
  have NN := Lib.hid (@cut_end_none ((s.data.toList.drop k).drop 2))
  have HG : Hid (∀ r : List UInt8, Lib.hasPrefix r [47, 42] = true → 2 ≤ r.length) := fun r hr => by
    obtain ⟨r2, rfl⟩ := pre_two'.1 hr; simp
  have HTL := Lib.hid htl
  clear htl hel
  have hts2 : (s.extract k s.size).size = (s.data.toList.drop k).length := by rw [← HTL.out, list_size']
  have HTS2 := Lib.hid hts2
  clear hts2
  generalize remN (s.data.toList.drop k) = R at *
  cases p1 : Lib.hasPrefix (s.data.toList.drop k) [47, 47]
  · cases p2 : Lib.hasPrefix (s.data.toList.drop k) [47, 42]
    · rw [p1] at P1
      rw [p2] at P2
      have E := Lib.hid (RN.out p1 p2)
      clear p1 p2
      go_enter Try.func34, Try.ntmps34
      go_wp2_with fail
      go_quiet (fail)
      go_wp2_with fail
      refine (P1.out _).mono ?_; rintro e w' ⟨rfl, rfl⟩
      go_wp2_with fail
      refine (P2.out _).mono ?_; rintro e w' ⟨rfl, rfl⟩
      go_wp2_with fail
      go_ret
      exact rp_some E.out rfl
    · rw [p1] at P1
      rw [p2] at P2
      have hlen := HG.out _ p2
      rw [← HTS2.out] at hlen
      have hl2 : (2 : Int) ≤ ((s.extract k s.size).size : Int) := by omega
      have E0 := Lib.hid (RE.out p2)
      clear p1 p2
      generalize hT : s.extract k s.size = t at *
      have HT := Lib.hid hT
      clear hT
      cases he : endN ((s.data.toList.drop k).drop 2) with
      | none =>
        have E := Lib.hid (E0.out.trans (by rw [he, Option.map_none]))
        rw [NN.out he] at CE
        clear he
        generalize (Lib.cut ((s.data.toList.drop k).drop 2) [42, 47]).1 = x1 at *
        generalize (Lib.cut ((s.data.toList.drop k).drop 2) [42, 47]).2.1 = x2 at *
        have G := Lib.hid (fun w h => giveUp_any b s k k op 5 w h)
        go_enter Try.func34, Try.ntmps34
        go_wp2_with fail
        go_quiet (fail)
        rw [HT.out]
        go_wp2_with fail
        refine (P1.out _).mono ?_; rintro e w' ⟨rfl, rfl⟩
        go_wp2_with fail
        refine (P2.out _).mono ?_; rintro e w' ⟨rfl, rfl⟩
        go_wp2_with fail
        refine (CE.out (w.drewN nq) HMC.out).mono ?_; rintro e w' ⟨rfl, nd, rfl⟩
        go_wp2_with fail
        refine (G.out _ (((H.out.drewN _).s1 _))).mono ?_; rintro e w' ⟨rfl, rfl⟩
        unfold flt
        go_wp2_with fail
        exact bodyPost_panic rfl (rp_none E.out rfl ((Off.refl _ _).drewN _ |>.set _ _))
      | some i =>
        have E := Lib.hid (E0.out.trans (by rw [he, Option.map_some]))
        have N := NE.out i he
        rw [N.2] at CE
        have N1 := Lib.hid N.1
        have hi := endN_le he
        rw [List.length_drop, ← HTS2.out] at hi
        clear he N
        generalize (Lib.cut ((s.data.toList.drop k).drop 2) [42, 47]).1 = x1 at *
        generalize (Lib.cut ((s.data.toList.drop k).drop 2) [42, 47]).2.1 = x2 at *
        obtain ⟨t1, ht1⟩ : ∃ t1 : ByteArray, t1 = ⟨x1.toArray⟩ := ⟨_, rfl⟩
        have h1z : t1.size = i := by rw [ht1, ← N1.out]; simp [ByteArray.size]
        rw [← ht1] at CE
        have HZ := Lib.hid h1z
        have h1b : t1.size ≤ 100000 := by omega
        clear ht1 h1z hi
        go_enter Try.func34, Try.ntmps34
        go_wp2_with fail
        go_quiet (fail)
        rw [HT.out]
        go_wp2_with fail
        refine (P1.out _).mono ?_; rintro e w' ⟨rfl, rfl⟩
        go_wp2_with fail
        refine (P2.out _).mono ?_; rintro e w' ⟨rfl, rfl⟩
        go_wp2_with fail
        refine (CE.out (w.drewN nq) HMC.out).mono ?_; rintro e w' ⟨rfl, nd, rfl⟩
        go_wp2_with fail
        go_ret
        exact rp_some E.out (by rw [← HZ.out]; rfl)
  · rw [p1] at P1
    have E := Lib.hid (RL.out p1)
    clear p1
    generalize (Lib.cut (s.data.toList.drop k) [10]).1 = x1 at *
    generalize (Lib.cut (s.data.toList.drop k) [10]).2.1 = x2 at *
    generalize (Lib.cut (s.data.toList.drop k) [10]).2.2 = x3 at *
    obtain ⟨t1, ht1⟩ : ∃ t1 : ByteArray, t1 = ⟨x1.toArray⟩ := ⟨_, rfl⟩
    have h1z : t1.size = lineN (s.data.toList.drop k) := by rw [ht1, ← NL.out]; simp [ByteArray.size]
    rw [← ht1] at CL
    have HZ := Lib.hid h1z
    clear ht1 h1z
    go_enter Try.func34, Try.ntmps34
    go_wp2_with fail
    go_quiet (fail)
    go_wp2_with fail
    refine (P1.out _).mono ?_; rintro e w' ⟨rfl, rfl⟩
    go_wp2_with fail
    refine (CL.out (w.drewN nq) HMC.out).mono ?_; rintro e w' ⟨rfl, nd, rfl⟩
    go_wp2_with fail
    go_ret
    exact rp_some E.out (by rw [← HZ.out]; rfl)
end Go.Proofs.Ytcpjggcpimghjaa
