/- LexTokens, LexLong: the program against the document's answer. -/
import Derived.Test.YtcpjggcpimghjaaWk
namespace Go.Proofs.Ytcpjggcpimghjaa
open Go.RowKit
set_option linter.unusedVariables false

/-- Both lists of tokens, by the two faces, are alike. -/
theorem same_any (p : Bool) (w0 w1 w2 w3 : World) (x : Except (Int × Int) (List Tk)) (e1 e2 : Ending) (h1 : FacePost w0 x e1 w1) (h2 : FacePost w2 x e2 w3) (hb : Below w1.heap.size w1 w3) :
    ∃ v1 v2 a c, e1 = .returned (.tuple #[v1, .int .i64 a, .int .i64 c]) ∧ e2 = .returned (.tuple #[v2, .int .i64 a, .int .i64 c]) ∧ Calls Try.prog 10 #[v1, v2, .bool p] w3 fun e w' => e = .returned (.bool true) ∧ Below w3.heap.size w3 w' := by
  rcases x with ⟨a, c⟩ | l
  · obtain ⟨rfl, _⟩ := h1
    obtain ⟨rfl, _⟩ := h2
    exact ⟨_, _, _, _, rfl, rfl, same_eq [] p _ _ 0 0 w3 (World.ownsRow_nil _ _ _ _) (World.ownsRow_nil _ _ _ _)⟩
  · obtain ⟨v1, rfl, o1, _⟩ := h1
    obtain ⟨v2, rfl, o2, _⟩ := h2
    exact ⟨_, _, _, _, rfl, rfl, same_eq l p _ _ _ _ w3 (own_below o1 hb) o2⟩
theorem fp_below {w w' : World} {x : Except (Int × Int) (List Tk)} {e : Ending} (h : FacePost w x e w') : Below w.heap.size w w' := by
  rcases x with ⟨a, c⟩ | l
  · exact h.2
  · obtain ⟨v, _, _, h⟩ := h; exact h
theorem fp_form {w w' : World} {x : Except (Int × Int) (List Tk)} {e : Ending} (h : FacePost w x e w') : ∃ v a c, e = .returned (.tuple #[v, .int .i64 a, .int .i64 c]) := by
  rcases x with ⟨a, c⟩ | l
  · exact ⟨_, _, _, h.1⟩
  · obtain ⟨v, h, _⟩ := h; exact ⟨_, _, _, h⟩
theorem fp_two {p : Bool} {w0 w1 w2 w3 : World} {x : Except (Int × Int) (List Tk)} {v1 : Value} {a c : Int} {e2 : Ending} (h1 : FacePost w0 x (.returned (.tuple #[v1, .int .i64 a, .int .i64 c])) w1) (h2 : FacePost w2 x e2 w3) (hb : Below w1.heap.size w1 w3) :
    ∃ v2, e2 = .returned (.tuple #[v2, .int .i64 a, .int .i64 c]) ∧ Calls Try.prog 10 #[v1, v2, .bool p] w3 fun e w' => e = .returned (.bool true) ∧ Below w3.heap.size w3 w' := by
  obtain ⟨u1, u2, a', c', h3, h4, h5⟩ := same_any p w0 w1 w2 w3 x _ e2 h1 h2 hb
  simp only [Ending.returned.injEq, Value.tuple.injEq, Array.mk.injEq, List.cons.injEq, Value.int.injEq, and_true, true_and] at h3
  obtain ⟨rfl, rfl, rfl⟩ := h3
  exact ⟨u2, h4, h5⟩
theorem cut_size (s : ByteArray) (n : Int) : (s.extract 0 (min (s.size : Int) n).toNat).size ≤ n.toNat := by rw [ByteArray.size_extract]; omega

theorem MLw.open {w : World} (h : w.ShapedOpen Try.prog) : MLw w := by
  obtain ⟨m, hm⟩ := Try.maxLen_shaped w h
  refine ⟨⟨m, hm⟩, ?_⟩
  rcases Nat.lt_or_ge 1 w.heap.size with hl | hl
  · exact hl
  · have : w.heap[1]? = none := Array.getElem?_eq_none hl
    simp [World.cell?, this] at hm

set_option maxRecDepth 100000 in
set_option maxHeartbeats 4000000 in
theorem law_LexTokens (s : ByteArray) (hs : s.size ≤ 9223372036854775807) (w : World) (hm : MLw w) :
    Calls Try.prog 3 #[.string s] w fun e w' => e = .returned (.bool true) ∧ Below w.heap.size w w' := by
  have hz := cut_size s 5000
  have T := Lib.hid (fun w hm => Tokens_any (s.extract 0 (min (s.size : Int) 5000).toNat) (by have := cut_size s 5000; omega) w hm)
  have R := Lib.hid (fun w => rTokens_any (s.extract 0 (min (s.size : Int) 5000).toNat) (by have := cut_size s 5000; omega) w)
  generalize lexL (s.extract 0 (min (s.size : Int) 5000).toNat).data.toList = x at *
  go_enter Try.func3, Try.ntmps3
  go_wp2_with fail
  refine (T.out _ hm).mono ?_; rintro e w1 F1
  obtain ⟨v1, a, c, rfl⟩ := fp_form F1
  have HF1 := Lib.hid F1
  have HB1 := Lib.hid (fp_below F1)
  clear F1
  go_wp2_with fail
  refine (R.out _).mono ?_; rintro e w2 F2
  have HB2 := Lib.hid (fp_below F2)
  obtain ⟨v2, rfl, S⟩ := fp_two (p := true) HF1.out F2 HB2.out
  have HS := Lib.hid S
  clear S F2
  go_wp2_with fail
  refine HS.out.mono ?_; rintro e w3 ⟨rfl, hB⟩
  have HB3 := Lib.hid hB
  clear hB
  go_wp2_with fail
  have hm3 := ((hm.below HB1.out).below HB2.out).below HB3.out
  refine (works_any _ hm3).mono ?_; rintro e w4 ⟨rfl, hB⟩
  have HB4 := Lib.hid hB
  clear hB hm3
  go_wp2_with fail
  go_ret
  exact ⟨rfl, below_trans (below_trans (below_trans HB1.out HB2.out HB1.out.size) HB3.out (Nat.le_trans HB1.out.size HB2.out.size)) HB4.out (Nat.le_trans HB1.out.size (Nat.le_trans HB2.out.size HB3.out.size))⟩
end Go.Proofs.Ytcpjggcpimghjaa
