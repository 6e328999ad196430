/- The document's reading of any number. -/
import Derived.Test.YtcpjggcpimghjaaR3
import Derived.Test.YtcpjggcpimghjaaR4
namespace Go.Proofs.Ytcpjggcpimghjaa
open Go.RowKit
set_option linter.unusedVariables false

theorem rnumber_any (s : ByteArray) (hs : s.size ≤ 1000000) (h0 : 0 < s.size) (hd : digB (s[0].toNat : Int) = true) (w : World) :
    Calls Try.prog 29 #[.string s] w fun e w' => e = .returned (.tuple #[.int .i64 (numN s.data.toList : Nat), .int .u64 (numB s.data.toList)]) ∧ w = w' := by
  have hnp : npB (s[0].toNat : Int) = true := by rw [np_parts, hd]; simp
  have hn1 : 0 < nmL s.data.toList := nm_lt (Nat.zero_le _) h0 hnp
  have hP := part_cons h0 (nm_top s) hn1
  rw [List.drop_zero] at hP
  have ht := nm_top s
  by_cases hz : (s[0].toNat : Int) = 48
  · have e0 : s[0] = 48 := ci_inj (by unfold ci; rw [hz]; rfl)
    by_cases h1 : 1 < s.size
    · by_cases hx : (s[1].toNat : Int) = 120 ∨ (s[1].toNat : Int) = 88
      · have hnp1 : npB (s[1].toNat : Int) = true := by rcases hx with h | h <;> rw [h] <;> rfl
        have hn2 : 1 < nmL s.data.toList := nm_lt hn1 h1 hnp1
        have e1 : s[1] = 120 ∨ s[1] = 88 := by
          rcases hx with h | h
          · exact .inl (ci_inj (by unfold ci; rw [h]; rfl))
          · exact .inr (ci_inj (by unfold ci; rw [h]; rfl))
        have hP1 := part_cons h1 (nm_top s) hn2
        rw [e0, hP1] at hP
        have hnum : numO (s.data.toList.take (nmL s.data.toList)) = if (s.data.toList.take (nmL s.data.toList)).drop 2 = [] then none else digs 16 ((s.data.toList.take (nmL s.data.toList)).drop 2) 0 := by
          unfold numO
          rw [if_neg (by rw [hP]; simp), if_pos (by rw [hP]; rcases e1 with h | h <;> rw [h] <;> simp)]
        refine rnumber_hex s hs h0 h1 (by rw [hz]; rfl) ?_ hn2 ?_ ?_ w
        · rcases hx with h | h
          · exact .inl (by rw [h]; rfl)
          · exact .inr ⟨by rw [h]; rfl, by rw [h]; rfl⟩
        · intro hne
          rw [hnum, if_neg]
          intro h
          have := congrArg List.length h
          rw [List.length_drop, List.length_take, list_size'] at this
          simp at this; omega
        · intro he
          rw [hnum, if_pos (part_done (by omega))]
      · have hq : ¬ (s[1].toNat : Int) = 120 ∧ ¬ (s[1].toNat : Int) = 88 := ⟨fun h => hx (.inl h), fun h => hx (.inr h)⟩
        refine rnumber_zero s hs h0 (by rw [hz]; rfl) (fun _ => ⟨by rw [beq_eq_false_iff_ne]; exact hq.1, by rw [beq_eq_false_iff_ne]; exact hq.2⟩) ?_ ?_ w
        · intro hn2
          have hP1 := part_cons h1 (nm_top s) hn2
          rw [e0, hP1] at hP
          have g1 : ¬ s.data.toList.take (nmL s.data.toList) = [48] := by rw [hP]; simp
          have g2 : ¬ ((s.data.toList.take (nmL s.data.toList)).take 2 = [48, 120] ∨ (s.data.toList.take (nmL s.data.toList)).take 2 = [48, 88]) := by
            rw [hP]; simp
            exact ⟨fun h => hq.1 (by rw [h]; rfl), fun h => hq.2 (by rw [h]; rfl)⟩
          have g3 : (s.data.toList.take (nmL s.data.toList)).head? = some 48 := by rw [hP]; rfl
          unfold numO; rw [if_neg g1, if_neg g2, if_pos g3]
        · intro hn2
          rw [e0, part_done (by omega)] at hP
          unfold numO; rw [if_pos hP]
    · refine rnumber_zero s hs h0 (by rw [hz]; rfl) (fun h => absurd h h1) (fun h => absurd h (by omega)) ?_ w
      intro hn2
      rw [e0, part_done (by omega)] at hP
      unfold numO; rw [if_pos hP]
  · refine rnumber_dec s hs h0 (by rw [beq_eq_false_iff_ne]; exact hz) ?_ (fun h => absurd h (by omega)) w
    intro _
    have hne : ¬ s[0] = 48 := fun h => hz (by rw [h]; rfl)
    have g1 : ¬ s.data.toList.take (nmL s.data.toList) = [48] := by rw [hP]; simp; exact fun h => absurd h hne
    have g2 : ¬ ((s.data.toList.take (nmL s.data.toList)).take 2 = [48, 120] ∨ (s.data.toList.take (nmL s.data.toList)).take 2 = [48, 88]) := by
      rw [hP]; simp
      exact ⟨fun h => absurd h hne, fun h => absurd h hne⟩
    have g3 : ¬ (s.data.toList.take (nmL s.data.toList)).head? = some 48 := by rw [hP]; simp; exact hne
    unfold numO; rw [if_neg g1, if_neg g2, if_neg g3, List.drop_zero]
end Go.Proofs.Ytcpjggcpimghjaa
