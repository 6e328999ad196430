/- Two equal lists are alike. -/
import Derived.Test.YtcpjggcpimghjaaFace
import Derived.Laws.OwnMore
import Derived.Deep.AppendLies
namespace Go.Proofs.Ytcpjggcpimghjaa
open Go.RowKit
set_option linter.unusedVariables false

theorem cellsOf_len (l : List Tk) : (cellsOf l).length = l.length * 4 := by
  induction l with
  | nil => rfl
  | cons t r ih => simp only [cellsOf, List.flatMap_cons, List.length_append, List.length_cons] at ih ⊢; rw [ih]; simp [tkC]; omega
theorem cellsOf_at (l : List Tk) : ∀ (k : Nat) (h : k < l.length),
    (cellsOf l)[k * 4]? = some (.int .i64 l[k].kind) ∧ (cellsOf l)[k * 4 + 1]? = some (.int .i64 l[k].pos) ∧ (cellsOf l)[k * 4 + 2]? = some (.string (bs l[k].text)) ∧ (cellsOf l)[k * 4 + 3]? = some (.int .u64 l[k].bits) := by
  induction l with
  | nil => intro k h; simp at h
  | cons t r ih =>
    intro k h
    rcases k with _ | k
    · simp [cellsOf, tkC]
    · have := ih k (by simpa using h)
      have e : cellsOf (t :: r) = .int .i64 t.kind :: .int .i64 t.pos :: .string (bs t.text) :: .int .u64 t.bits :: cellsOf r := rfl
      rw [e, show (k + 1) * 4 = k * 4 + 1 + 1 + 1 + 1 by omega]
      simpa using this
/-- The cells of a list's token. -/
theorem tok_at {w : World} {B e g cap : Nat} {l : List Tk} (h : w.ownsRow B e 4 (.slice (some ⟨g, 0, none⟩) l.length cap) l.length (cellsOf l)) (k : Nat) (hk : k < l.length) :
    w.cell? ⟨g, k * 4, none⟩ = some (.int .i64 l[k].kind) ∧ w.cell? ⟨g, k * 4 + 1, none⟩ = some (.int .i64 l[k].pos) ∧ w.cell? ⟨g, k * 4 + 2, none⟩ = some (.string (bs l[k].text)) ∧ w.cell? ⟨g, k * 4 + 3, none⟩ = some (.int .u64 l[k].bits) := by
  obtain ⟨a, b, c, d⟩ := cellsOf_at l k hk
  exact ⟨(h.cellAt _ (by omega)).trans a, (h.cellAt _ (by omega)).trans b, (h.cellAt _ (by omega)).trans c, (h.cellAt _ (by omega)).trans d⟩

theorem own_len {w : World} {B e size n : Nat} {v : Value} {xs : List Value} (h : w.ownsRow B e size v n xs) : n ≤ maxLen := by
  rcases h.2 with ⟨_, h0⟩ | ⟨g, cap, cur, hv, hb, hg, h1, h2, _⟩
  · omega
  · omega

set_option maxRecDepth 100000 in
set_option maxHeartbeats 8000000 in
theorem same_eq (l : List Tk) (p : Bool) (va vb : Value) (ba bb : Nat) (w : World)
    (ha : w.ownsRow ba 35 4 va l.length (cellsOf l)) (hb : w.ownsRow bb 35 4 vb l.length (cellsOf l)) :
    Calls Try.prog 10 #[va, vb, .bool p] w fun e w' => e = .returned (.bool true) ∧ Below w.heap.size w w' := by
  by_cases h0 : l.length = 0
  · rw [h0] at ha hb
    obtain ⟨aa, ca, rfl⟩ := own_slice ha
    obtain ⟨ab, cb, rfl⟩ := own_slice hb
    clear ha hb
    go_enter Try.func10, Try.ntmps10
    go_wp2_with fail
    go_loop [7] (fun i => i = .int .i64 0) (fun _ => 0)
    case atStart => rfl
    case round =>
      subst hrel
      go_wp2_with fail
      go_ret
      exact ⟨rfl, Below.refl _ _⟩
  · obtain ⟨ga, ca, rfl, ha1, ha2⟩ := ha.form (by omega)
    obtain ⟨gb, cb, rfl, hb1, hb2⟩ := hb.form (by omega)
    have hl := own_len ha
    unfold maxLen at hl
    have TA := Lib.hid (fun k hk => tok_at ha k hk)
    have TB := Lib.hid (fun k hk => tok_at hb k hk)
    clear ha hb
    go_enter Try.func10, Try.ntmps10
    go_wp2_with fail
    go_loopw [7] (fun i wr => ∃ k : Nat, i = .int .i64 (k : Int) ∧ k ≤ l.length ∧ Hid (∃ q, wr = w.drewN q)) (fun i _ => l.length - (intOf i).toNat)
    case atStart => exact ⟨0, rfl, by omega, ⟨0, rfl⟩⟩
    case round =>
      obtain ⟨k, rfl, hk, HW⟩ := hrel
      by_cases hlt : k < l.length
      · obtain ⟨a0, a1, a2, a3⟩ := TA.out k hlt
        obtain ⟨b0, b1, b2, b3⟩ := TB.out k hlt
        obtain ⟨q, rfl⟩ := HW.out
        generalize l[k].kind = tk at *
        generalize l[k].pos = tp at *
        generalize l[k].text = tt at *
        generalize l[k].bits = tb at *
        have q0 : (tk == tk) = true := by simp
        have q1 : (tp == tp) = true := by simp
        have q2 : ((bs tt).toList == (bs tt).toList) = true := by simp
        have q3 : (tb == tb) = true := by simp
        have hki : (k : Int) < (l.length : Int) := by omega
        cases p
        all_goals
          go_wp2_with fail
          go_quiet (fail)
          go_wp2_with fail
          exact ⟨⟨k + 1, by go_num, by omega, ⟨q + nq, rfl⟩⟩, by simp [intOf]; omega⟩
      · obtain ⟨q, rfl⟩ := HW.out
        have hki : ¬ (k : Int) < (l.length : Int) := by omega
        go_wp2_with fail
        go_ret
        exact ⟨rfl, below_drewN (Below.refl _ _) _⟩
end Go.Proofs.Ytcpjggcpimghjaa
