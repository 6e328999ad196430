/- LexNames: any text is a word, a name, or neither, and any token is written, as the document says. -/
import Derived.Test.YtiaemiddokfmbaaDoorMQ
import Derived.Test.YtiaemiddokfmbaaDoorML4
import Derived.Deep.RegionHeld3
namespace Go.Proofs.YtiaemiddokfmbaaDoor
open Go.RowKit
set_option linter.unusedVariables false

/-- What a law carries along, behind its first new block. -/
def St (w w' : World) : Prop := Below w.heap.size w w' ∧ w.heap.size < w'.heap.size ∧ MLw w' ∧ Bt.tab w'
theorem keep_call {w w1 w2 : World} {k p b : Int} {y : ByteArray} (h : w1.cell? ⟨w.heap.size, 0, none⟩ = some (.int .i64 k) ∧ w1.cell? ⟨w.heap.size, 1, none⟩ = some (.int .i64 p) ∧ w1.cell? ⟨w.heap.size, 2, none⟩ = some (.string y) ∧ w1.cell? ⟨w.heap.size, 3, none⟩ = some (.int .u64 b) ∧ St w w1) (hb : Below w1.heap.size w1 w2) :
    w2.cell? ⟨w.heap.size, 0, none⟩ = some (.int .i64 k) ∧ w2.cell? ⟨w.heap.size, 1, none⟩ = some (.int .i64 p) ∧ w2.cell? ⟨w.heap.size, 2, none⟩ = some (.string y) ∧ w2.cell? ⟨w.heap.size, 3, none⟩ = some (.int .u64 b) ∧ St w w2 := by
  obtain ⟨h0, h1, h2, h3, hB, hl, hm, ht⟩ := h
  exact ⟨(hb.cell hl).trans h0, (hb.cell hl).trans h1, (hb.cell hl).trans h2, (hb.cell hl).trans h3, below_trans hB hb hB.size, Nat.lt_of_lt_of_le hl hb.size, hm.below hb, Bt.tab_below ht hb⟩
theorem keep_drew {w w1 : World} {k p b : Int} {y : ByteArray} (h : w1.cell? ⟨w.heap.size, 0, none⟩ = some (.int .i64 k) ∧ w1.cell? ⟨w.heap.size, 1, none⟩ = some (.int .i64 p) ∧ w1.cell? ⟨w.heap.size, 2, none⟩ = some (.string y) ∧ w1.cell? ⟨w.heap.size, 3, none⟩ = some (.int .u64 b) ∧ St w w1) : w1.drew.cell? ⟨w.heap.size, 0, none⟩ = some (.int .i64 k) ∧ w1.drew.cell? ⟨w.heap.size, 1, none⟩ = some (.int .i64 p) ∧ w1.drew.cell? ⟨w.heap.size, 2, none⟩ = some (.string y) ∧ w1.drew.cell? ⟨w.heap.size, 3, none⟩ = some (.int .u64 b) ∧ St w w1.drew := keep_call h (Below.refl _ _).drew
theorem keep_end {w w1 : World} {k p b : Int} {y : ByteArray} (h : w1.cell? ⟨w.heap.size, 0, none⟩ = some (.int .i64 k) ∧ w1.cell? ⟨w.heap.size, 1, none⟩ = some (.int .i64 p) ∧ w1.cell? ⟨w.heap.size, 2, none⟩ = some (.string y) ∧ w1.cell? ⟨w.heap.size, 3, none⟩ = some (.int .u64 b) ∧ St w w1) : Below w.heap.size w w1 := h.2.2.2.2.1

set_option maxRecDepth 100000 in
set_option maxHeartbeats 2000000 in
theorem law_LexNames (s : ByteArray) (hs : s.size ≤ 9223372036854775807) (k p b : Int) (t : ByteArray) (htt : t.size ≤ 9223372036854775807) (b0 : 0 ≤ b) (b1 : b < 18446744073709551616) (w : World) (hm : MLw w) (ht : Bt.tab w) :
    Calls Tryd.prog 3 #[.string s, .agg #[.int .i64 k, .int .i64 p, .string t, .int .u64 b]] w fun e w' => e = .returned (.bool true) ∧ Below w.heap.size w w' := by
  have hz := cut_size s 5000
  have hzt := cut_size t 5000
  generalize hx : s.extract 0 (min (s.size : Int) 5000).toNat = x at *
  generalize hy : t.extract 0 (min (t.size : Int) 5000).toNat = y at *
  have W1 : Hid (∀ w1, (w1.cell? ⟨w.heap.size, 0, none⟩ = some (.int .i64 k) ∧ w1.cell? ⟨w.heap.size, 1, none⟩ = some (.int .i64 p) ∧ w1.cell? ⟨w.heap.size, 2, none⟩ = some (.string y) ∧ w1.cell? ⟨w.heap.size, 3, none⟩ = some (.int .u64 b) ∧ St w w1) → Calls Tryd.prog 6 #[.string x] w1 fun e w2 => e = .returned (.bool (wordB x.data.toList)) ∧ w2.cell? ⟨w.heap.size, 0, none⟩ = some (.int .i64 k) ∧ w2.cell? ⟨w.heap.size, 1, none⟩ = some (.int .i64 p) ∧ w2.cell? ⟨w.heap.size, 2, none⟩ = some (.string y) ∧ w2.cell? ⟨w.heap.size, 3, none⟩ = some (.int .u64 b) ∧ St w w2) := fun w1 h =>
    (word_any x w1).mono fun e w2 ⟨h1, h2⟩ => ⟨h1, h2 ▸ h⟩
  have W2 : Hid (∀ w1, (w1.cell? ⟨w.heap.size, 0, none⟩ = some (.int .i64 k) ∧ w1.cell? ⟨w.heap.size, 1, none⟩ = some (.int .i64 p) ∧ w1.cell? ⟨w.heap.size, 2, none⟩ = some (.string y) ∧ w1.cell? ⟨w.heap.size, 3, none⟩ = some (.int .u64 b) ∧ St w w1) → Calls Tryd.prog 7 #[.string x] w1 fun e w2 => e = .returned (.bool (wordB x.data.toList)) ∧ w2.cell? ⟨w.heap.size, 0, none⟩ = some (.int .i64 k) ∧ w2.cell? ⟨w.heap.size, 1, none⟩ = some (.int .i64 p) ∧ w2.cell? ⟨w.heap.size, 2, none⟩ = some (.string y) ∧ w2.cell? ⟨w.heap.size, 3, none⟩ = some (.int .u64 b) ∧ St w w2) := fun w1 h =>
    (rword_any x w1).mono fun e w2 ⟨h1, h2⟩ => ⟨h1, h2 ▸ h⟩
  have N1 : Hid (∀ w1, (w1.cell? ⟨w.heap.size, 0, none⟩ = some (.int .i64 k) ∧ w1.cell? ⟨w.heap.size, 1, none⟩ = some (.int .i64 p) ∧ w1.cell? ⟨w.heap.size, 2, none⟩ = some (.string y) ∧ w1.cell? ⟨w.heap.size, 3, none⟩ = some (.int .u64 b) ∧ St w w1) → Calls Tryd.prog 8 #[.string x] w1 fun e w2 => e = .returned (.bool (nameB x.data.toList)) ∧ w2.cell? ⟨w.heap.size, 0, none⟩ = some (.int .i64 k) ∧ w2.cell? ⟨w.heap.size, 1, none⟩ = some (.int .i64 p) ∧ w2.cell? ⟨w.heap.size, 2, none⟩ = some (.string y) ∧ w2.cell? ⟨w.heap.size, 3, none⟩ = some (.int .u64 b) ∧ St w w2) := fun w1 h =>
    (lname_any x (by omega) w1).mono fun e w2 ⟨h1, h2⟩ => ⟨h1, h2 ▸ h⟩
  have N2 : Hid (∀ w1, (w1.cell? ⟨w.heap.size, 0, none⟩ = some (.int .i64 k) ∧ w1.cell? ⟨w.heap.size, 1, none⟩ = some (.int .i64 p) ∧ w1.cell? ⟨w.heap.size, 2, none⟩ = some (.string y) ∧ w1.cell? ⟨w.heap.size, 3, none⟩ = some (.int .u64 b) ∧ St w w1) → Calls Tryd.prog 9 #[.string x] w1 fun e w2 => e = .returned (.bool (nameB x.data.toList)) ∧ w2.cell? ⟨w.heap.size, 0, none⟩ = some (.int .i64 k) ∧ w2.cell? ⟨w.heap.size, 1, none⟩ = some (.int .i64 p) ∧ w2.cell? ⟨w.heap.size, 2, none⟩ = some (.string y) ∧ w2.cell? ⟨w.heap.size, 3, none⟩ = some (.int .u64 b) ∧ St w w2) := fun w1 h =>
    (rlname_any x (by omega) w1).mono fun e w2 ⟨h1, n, h2⟩ => ⟨h1, h2 ▸ keep_call h (below_drewN (Below.refl _ _) n)⟩
  have P1 : Hid (∀ w1, (w1.cell? ⟨w.heap.size, 0, none⟩ = some (.int .i64 k) ∧ w1.cell? ⟨w.heap.size, 1, none⟩ = some (.int .i64 p) ∧ w1.cell? ⟨w.heap.size, 2, none⟩ = some (.string y) ∧ w1.cell? ⟨w.heap.size, 3, none⟩ = some (.int .u64 b) ∧ St w w1) → Calls Tryd.prog 10 #[.agg #[.int .i64 k, .int .i64 p, .string y, .int .u64 b]] w1 fun e w2 => e = .returned (.string (prS k y b)) ∧ w2.cell? ⟨w.heap.size, 0, none⟩ = some (.int .i64 k) ∧ w2.cell? ⟨w.heap.size, 1, none⟩ = some (.int .i64 p) ∧ w2.cell? ⟨w.heap.size, 2, none⟩ = some (.string y) ∧ w2.cell? ⟨w.heap.size, 3, none⟩ = some (.int .u64 b) ∧ St w w2) := fun w1 h =>
    (print_any k p b y (by omega) b0 b1 w1 h.2.2.2.2.2.2.2).mono fun e w2 ⟨h1, h2⟩ => ⟨h1, keep_call h h2⟩
  have P2 : Hid (∀ w1, (w1.cell? ⟨w.heap.size, 0, none⟩ = some (.int .i64 k) ∧ w1.cell? ⟨w.heap.size, 1, none⟩ = some (.int .i64 p) ∧ w1.cell? ⟨w.heap.size, 2, none⟩ = some (.string y) ∧ w1.cell? ⟨w.heap.size, 3, none⟩ = some (.int .u64 b) ∧ St w w1) → Calls Tryd.prog 11 #[.agg #[.int .i64 k, .int .i64 p, .string y, .int .u64 b]] w1 fun e w2 => e = .returned (.string (prS k y b)) ∧ w2.cell? ⟨w.heap.size, 0, none⟩ = some (.int .i64 k) ∧ w2.cell? ⟨w.heap.size, 1, none⟩ = some (.int .i64 p) ∧ w2.cell? ⟨w.heap.size, 2, none⟩ = some (.string y) ∧ w2.cell? ⟨w.heap.size, 3, none⟩ = some (.int .u64 b) ∧ St w w2) := fun w1 h =>
    (rprint_any k p b y (by omega) b0 b1 w1).mono fun e w2 ⟨h1, h2⟩ => ⟨h1, keep_call h h2⟩
  have WK : Hid (∀ w1, (w1.cell? ⟨w.heap.size, 0, none⟩ = some (.int .i64 k) ∧ w1.cell? ⟨w.heap.size, 1, none⟩ = some (.int .i64 p) ∧ w1.cell? ⟨w.heap.size, 2, none⟩ = some (.string y) ∧ w1.cell? ⟨w.heap.size, 3, none⟩ = some (.int .u64 b) ∧ St w w1) → Calls Tryd.prog 12 #[] w1 fun e w2 => e = .returned (.bool true) ∧ w2.cell? ⟨w.heap.size, 0, none⟩ = some (.int .i64 k) ∧ w2.cell? ⟨w.heap.size, 1, none⟩ = some (.int .i64 p) ∧ w2.cell? ⟨w.heap.size, 2, none⟩ = some (.string y) ∧ w2.cell? ⟨w.heap.size, 3, none⟩ = some (.int .u64 b) ∧ St w w2) := fun w1 h =>
    (works_any w1 h.2.2.2.2.2.2.1).mono fun e w2 ⟨h1, h2⟩ => ⟨h1, keep_call h h2⟩
  generalize prS k y b = q at *
  generalize wordB x.data.toList = u at *
  generalize nameB x.data.toList = v at *
  have qu : (u == u) = true := by simp
  have qv : (v == v) = true := by simp
  have qq : (q.toList == q.toList) = true := by simp
  have HX := Lib.hid hx
  have HY := Lib.hid hy
  have HS0 : Hid ((w.alloc (.cells #[.int .i64 k, .int .i64 p, .string y, .int .u64 b] 24)).cell? ⟨w.heap.size, 0, none⟩ = some (.int .i64 k) ∧ (w.alloc (.cells #[.int .i64 k, .int .i64 p, .string y, .int .u64 b] 24)).cell? ⟨w.heap.size, 1, none⟩ = some (.int .i64 p) ∧ (w.alloc (.cells #[.int .i64 k, .int .i64 p, .string y, .int .u64 b] 24)).cell? ⟨w.heap.size, 2, none⟩ = some (.string y) ∧ (w.alloc (.cells #[.int .i64 k, .int .i64 p, .string y, .int .u64 b] 24)).cell? ⟨w.heap.size, 3, none⟩ = some (.int .u64 b) ∧ St w (w.alloc (.cells #[.int .i64 k, .int .i64 p, .string y, .int .u64 b] 24))) := by
    have hb := (Below.refl w.heap.size w).alloc (Nat.le_refl _) (.cells #[.int .i64 k, .int .i64 p, .string y, .int .u64 b] 24)
    have hB := B4.new w (.int .i64 k) (.int .i64 p) (.string y) (.int .u64 b)
    exact ⟨hB.c0, hB.c1, hB.c2, hB.c3, hb, by simp, hm.below hb, Bt.tab_below ht hb⟩
  clear hx hy hm ht
  go_enter Tryd.func3, Tryd.ntmps3
  go_wp2_with fail
  rw [HX.out, HY.out]
  have hS0 := HS0.out
  generalize w.alloc (.cells #[.int .i64 k, .int .i64 p, .string y, .int .u64 b] 24) = w0 at *
  clear HS0
  go_region_held3 (fun w' => w'.cell? ⟨w.heap.size, 0, none⟩ = some (.int .i64 k) ∧ w'.cell? ⟨w.heap.size, 1, none⟩ = some (.int .i64 p) ∧ w'.cell? ⟨w.heap.size, 2, none⟩ = some (.string y) ∧ w'.cell? ⟨w.heap.size, 3, none⟩ = some (.int .u64 b) ∧ St w w') (first | assumption | exact keep_drew (by assumption)) (first | (go_at_call 6; refine (W1.out _ (by assumption)).mono ?_; rintro e w1 ⟨rfl, hS1⟩) | (go_at_call 7; refine (W2.out _ (by assumption)).mono ?_; rintro e w1 ⟨rfl, hS1⟩) | (go_at_call 8; refine (N1.out _ (by assumption)).mono ?_; rintro e w1 ⟨rfl, hS1⟩) | (go_at_call 9; refine (N2.out _ (by assumption)).mono ?_; rintro e w1 ⟨rfl, hS1⟩) | (go_at_call 10; refine (P1.out _ (by assumption)).mono ?_; rintro e w1 ⟨rfl, hS1⟩) | (go_at_call 11; refine (P2.out _ (by assumption)).mono ?_; rintro e w1 ⟨rfl, hS1⟩) | (go_at_call 12; refine (WK.out _ (by assumption)).mono ?_; rintro e w1 ⟨rfl, hS1⟩))
  all_goals
    go_wp2_with fail
    go_ret
    exact ⟨rfl, keep_end (k := k) (p := p) (b := b) (y := y) (by assumption)⟩
end Go.Proofs.YtiaemiddokfmbaaDoor
