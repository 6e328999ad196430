/- Kids, of any list of nodes that stands in memory; Height and Kids of a laid-out tree. -/
import Derived.Test.YtnkfodelgpidkaaGreatDoorHe
namespace Go.Proofs.YtnkfodelgpidkaaGreatDoor
open Go.RowKit
set_option linter.unusedVariables false
set_option linter.unusedSimpArgs false

mutual
theorem layT_n : ∀ (t : Tr) (l : LN), l ∈ layT t → l.n ≤ (layT t).length ∧ l.size ≤ (layT t).length
  | .node k x b kids, l, h => by
    rw [layT] at h ⊢
    rw [List.length_cons]
    rcases List.mem_cons.1 h with rfl | h
    · refine ⟨?_, Nat.le_refl _⟩
      show kids.length ≤ _
      have := layTs_ge2 kids; omega
    · have := layTs_n kids l h; omega
theorem layTs_n : ∀ (ts : List Tr) (l : LN), l ∈ layTs ts → l.n ≤ (layTs ts).length ∧ l.size ≤ (layTs ts).length
  | [], l, h => by simp [layTs] at h
  | t :: r, l, h => by
    rw [layTs, List.length_append]
    rw [layTs] at h
    rcases List.mem_append.1 h with h | h
    · have := layT_n t l h; omega
    · have := layTs_n r l h; omega
theorem layTs_ge2 : ∀ l : List Tr, l.length ≤ (layTs l).length
  | [] => Nat.le_refl _
  | t :: l => by rw [layTs, List.length_append, List.length_cons]; have := layTs_ge2 l; have := layT_pos t; omega
end
theorem Height_tree (w : World) (v : Value) (t : Tr) (h : NRow w v (layT t)) (hl : (layT t).length ≤ 100000) :
    Calls Tryz.prog 19 #[v] w fun e w' => e = .returned (.int .i64 ((htT t : Nat) : Int)) ∧ Below w.heap.size w w' := by
  have := height_any w v (layT t) h hl fun l hm => by have := layT_n t l hm; omega
  rw [hrun_lay] at this
  exact this

def intsR (l : List Nat) : List Value := l.map fun (n : Nat) => Value.int .i64 (n : Int)
theorem intsR_snoc (l : List Nat) (x : Nat) : intsR (l ++ [x]) = intsR l ++ [.int .i64 (x : Int)] := by simp [intsR]
theorem szAt_at {L : List LN} {p : Nat} (h : p < L.length) : szAt L p = L[p].size := by unfold szAt; rw [List.getElem?_eq_getElem h]; rfl
theorem kidsF_len (sz : Nat → Nat) (len : Nat) : ∀ n p, (kidsF sz len n p).length ≤ n
  | 0, p => Nat.le_refl _
  | n + 1, p => by
    rw [kidsF]
    split
    · rw [List.length_cons]
      split
      · simp
      · have := kidsF_len sz len n (p + sz p); omega
    · simp
set_option maxRecDepth 100000 in
set_option maxHeartbeats 2000000 in
theorem kids_any (w : World) (v : Value) (L : List LN) (h : NRow w v L) (hl : L.length ≤ 100000) (hn : ∀ l ∈ L, l.n < 1000000 ∧ l.size < 1000000) (i : Nat) (hi : i < L.length) :
    Calls Tryz.prog 15 #[v, .int .i64 (i : Int)] w fun e w' => ∃ v', e = .returned v' ∧ w'.ownsRow w.heap.size 3 1 v' (kidsF (szAt L) L.length L[i].n (i + 1)).length (intsR (kidsF (szAt L) L.length L[i].n (i + 1))) ∧ Below w.heap.size w w' := by
  obtain ⟨ao, cp, rfl⟩ := h.slice
  obtain ⟨g, rfl, hg, hc⟩ := h.get (by omega)
  have HN := Lib.hid h
  obtain ⟨i0, hi0, hz0, hz1', hz2⟩ := info_parts info_int
  have HI := Lib.hid hi0
  have HZ0 := Lib.hid hz0
  have HZ1 := Lib.hid hz1'
  have HZ2 := Lib.hid hz2
  have HNN := Lib.hid hn
  have c1 := (hc i hi).2.1
  have HC := Lib.hid hc
  have hni := (hn _ (List.getElem_mem hi)).1
  generalize L[i].n = N at *
  obtain ⟨G, hG⟩ : ∃ G, G = kidsF (szAt L) L.length N (i + 1) := ⟨_, rfl⟩
  rw [← hG]
  have HG := Lib.hid hG
  clear hG
  clear h hi0 hz0 hz1' hz2 hn hc
  have hi1 : ¬ (i : Int) < 0 := by omega
  have hi2 : ¬ (L.length : Int) ≤ (i : Int) := by omega
  go_enter Tryz.func15, Tryz.ntmps15
  go_wp2_with fail
  go_loopg [5, 6, 7] N (fun gg kk aa nn wr => ∃ (n p : Nat) (acc : List Nat), aa = .int .i64 (p : Int) ∧ nn = .int .i64 (n : Int) ∧ gg = n ∧ n < 1000000 ∧ p ≤ L.length ∧ acc.length ≤ p ∧ Hid (wr.ownsRow w.heap.size 3 1 kk acc.length (intsR acc)) ∧ Hid (Below w.heap.size w wr) ∧ Hid (G = acc ++ kidsF (szAt L) L.length n p))
  case atStart => exact ⟨N, i + 1, [], by simp, rfl, rfl, hni, hi, Nat.zero_le _, World.ownsRow_nil _ _ _ _, Below.refl _ _, HG.out⟩
  case round =>
    obtain ⟨n, p, acc, rfl, rfl, rfl, hn1, hp1, ha1, HR, HB, HGG⟩ := hrel
    obtain ⟨ao2, cp2, rfl⟩ := own_slice HR.out
    cases gk with
    | zero =>
      have hgg := HGG.out
      rw [kidsF, List.append_nil] at hgg
      subst hgg
      go_wp2_with fail
      go_ret
      exact ⟨_, rfl, HR.out, HB.out⟩
    | succ n =>
      have hn0 : (0 : Int) < (n : Int) + 1 := by omega
      by_cases hlt : p < L.length
      · have hcp := HC.out p hlt
        have hsz := (HNN.out _ (List.getElem_mem hlt)).2
        have hgs : kidsF (szAt L) L.length (n + 1) p = p :: (if L[p].size < 1 ∨ L.length - p < L[p].size then [] else kidsF (szAt L) L.length n (p + L[p].size)) := by rw [kidsF, if_pos hlt, szAt_at hlt]
        have c2 := hcp.2.2.1
        generalize L[p].size = z at *
        have HGS := Lib.hid hgs
        clear hgs hcp
        have hown := HR.out
        have hi := HI.out
        have hz0 := HZ0.out
        have hz1 := HZ1.out
        have hz2 := HZ2.out
        have hsz2 : w.heap.size ≤ wr.heap.size := HB.out.size
        go_wp2_with (at_builtin; refine wpList_append_own _ rfl _ _ 34 rfl w.heap.size 3 i0 _ 1 8 Tryz.underlying34 hi hz0 hz1 hz2 rfl (by decide) _ _ _ rfl (hown.alloc _) ⟨wr.heap.size, 0, none⟩ 1 1 [.int .i64 (p : Int)] rfl rfl ?c1 ?c2 ?c3 ?c4 ?c5 ?_)
        case c1 =>
          intro j u hj
          match j, hj with
          | 0, hj => simp at hj; subst hj; simp [Addr.add]
        case c2 => intro u hu; simp at hu; subst hu; rfl
        case c3 => unfold maxLen; omega
        case c4 => omega
        case c5 => simp; omega
        intro v' w3 hown' hgrow _
        have hbel : Below w.heap.size wr w3 := ((Below.refl _ wr).alloc hsz2 _).grown hgrow (by simp; omega) (fun k hk => (hown.lt k hk).1)
        have HB3 := Lib.hid (HB.out.trans hbel)
        rw [← intsR_snoc] at hown'
        have HW3 := Lib.hid hown'
        obtain ⟨ao3, cp3, rfl⟩ := own_slice hown'
        have d2 : w3.cell? ⟨g, p * 5 + 2, none⟩ = some (.int .i64 (z : Int)) := (HB3.out.cell (p := ⟨g, _, none⟩) hg).trans c2
        clear hown' hgrow hbel hown hi hz0 hz1 hz2 c2
        by_cases hz : z < 1 ∨ L.length - p < z
        · have hgg := HGG.out
          rw [HGS.out, if_pos hz] at hgg
          subst hgg
          have hlen : (acc ++ [p]).length = acc.length + 1 := by simp
          have hz1 : (z : Int) < 1 ∨ (¬ (z : Int) < 1 ∧ (L.length : Int) - (p : Int) < (z : Int)) := by omega
          rcases hz1 with hz1 | ⟨hz1, hz2⟩
          · go_wp2_with fail
            go_ret
            exact ⟨_, rfl, by first | exact HW3.out | (rw [hlen]; exact HW3.out), HB3.out⟩
          · go_wp2_with fail
            go_ret
            exact ⟨_, rfl, by first | exact HW3.out | (rw [hlen]; exact HW3.out), HB3.out⟩
        · have hgg := HGG.out
          rw [HGS.out, if_neg hz] at hgg
          have HGG2 := Lib.hid hgg
          clear hgg
          have hz1 : ¬ (z : Int) < 1 := by omega
          have hz2 : ¬ (L.length : Int) - (p : Int) < (z : Int) := by omega
          go_wp2_with fail
          go_roundg n
          case measure => omega
          case rel => exact ⟨n, p + z, acc ++ [p], by simp, by simp, rfl, by omega, by omega, by simp; omega, by have := HW3.out; rw [List.length_append]; exact this, HB3.out, by show _ = _; rw [HGG2.out, List.append_assoc]; rfl⟩
      · have hgg := HGG.out
        rw [kidsF, if_neg hlt, List.append_nil] at hgg
        subst hgg
        have he : p = L.length := by omega
        subst he
        go_wp2_with fail
        go_ret
        exact ⟨_, rfl, HR.out, HB.out⟩
end Go.Proofs.YtnkfodelgpidkaaGreatDoor
