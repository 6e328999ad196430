/- How long tokens are, and what is written of them. -/
import Derived.Test.YtnkfodelgpidkaaGreatDoorML4
namespace Go.Proofs.YtnkfodelgpidkaaGreatDoor
open Go.RowKit
set_option linter.unusedVariables false

/- How long. -/
theorem txt_len : ∀ (j : Nat) {q : UInt8} {R o : List UInt8} {m : Nat}, R.length ≤ j → txt q R = some (o, m) → o.length ≤ 4 * R.length
  | j, q, [], o, m, _, h => by rw [txt] at h; cases h
  | 0, q, c :: r, o, m, hj, h => by simp at hj
  | j + 1, q, c :: r, o, m, hj, h => by
    rw [txt] at h
    split at h
    · injection h with h; injection h with h1 h2; subst h1; simp
    · cases ho : oneT (c :: r) with
      | none => rw [ho] at h; cases h
      | some x =>
        obtain ⟨o1, n⟩ := x
        rw [ho] at h
        simp only at h
        have hn : 1 ≤ n ∧ o1.length ≤ 4 := by
          unfold oneT at ho
          simp only at ho
          split at ho
          · cases he : escT r with
            | none => rw [he] at ho; cases ho
            | some y =>
              obtain ⟨o2, n2⟩ := y
              rw [he] at ho
              injection ho with ho; injection ho with ho1 ho2
              subst ho1
              have := escT_size he; omega
          · split at ho
            · cases ho
            · injection ho with ho; injection ho with ho1 ho2; subst ho1; subst ho2; simp
        cases ht : txt q (r.drop (n - 1)) with
        | none => rw [ht] at h; cases h
        | some y =>
          obtain ⟨o2, m2⟩ := y
          rw [ht] at h
          injection h with h; injection h with h1 _
          subst h1
          have := txt_len j (by rw [List.length_drop]; simp at hj; omega) ht
          rw [List.length_drop] at this
          simp; omega
theorem tok_len {R : List UInt8} {t : Tk} {n : Nat} (h : tokO R = some (t, n)) : t.text.length ≤ 4 * R.length := by
  match R with
  | [] => cases h
  | c :: r =>
    unfold tokO at h
    simp only at h
    split at h
    · split at h
      · cases h
      · injection h with h; injection h with h _; subst h; simp
    · split at h
      · injection h with h; injection h with h _; subst h
        show (List.take _ _).length ≤ _
        rw [List.length_take]; simp; omega
      · split at h
        · split at h
          · cases h
          · rename_i hx
            injection h with h; injection h with h _; subst h
            have := txt_len _ (Nat.le_refl _) hx
            simp; omega
        · split at h
          · cases h
          · injection h with h; injection h with h _; subst h
            show (List.take _ _).length ≤ _
            rw [List.length_take]; simp; omega
theorem lexB_lens : ∀ (j : Nat) (R : List UInt8) (a op : Int) (m : List Tk), R.length ≤ j → lexB R a op = .ok m → m.length ≤ R.length ∧ ∀ t ∈ m, t.text.length ≤ 4 * R.length
  | j, [], a, op, m, _, h => by rw [lexB] at h; injection h with h; subst h; simp
  | 0, c :: r, a, op, m, hj, h => by simp at hj
  | j + 1, c :: r, a, op, m, hj, h => by
    rw [lexB_cons] at h
    cases ht : tokO (c :: r) with
    | none => rw [ht] at h; cases h
    | some x =>
      obtain ⟨t, n⟩ := x
      rw [ht] at h
      simp only at h
      have h1 := tok_len ht
      have h2 := tokO_size ht
      split at h
      · cases h
      · unfold lexA at h
        cases hg : gap (r.drop (n - 1)) with
        | mk k f =>
          rw [hg] at h
          cases f
          · cases h
          · simp only at h
            cases hx : lexB ((r.drop (n - 1)).drop k) (a + n + k) (opA t op) with
            | error e => rw [hx] at h; cases h
            | ok l =>
              rw [hx] at h
              injection h with h
              subst h
              obtain ⟨i1, i2⟩ := lexB_lens j _ _ _ l (by rw [List.length_drop, List.length_drop]; simp at hj; omega) hx
              rw [List.length_drop, List.length_drop] at i1 i2
              refine ⟨by simp; omega, fun u hu => ?_⟩
              rcases List.mem_cons.1 hu with rfl | hu
              · exact h1
              · have := i2 u hu; simp; omega
theorem lex_lens {L : List UInt8} {m : List Tk} (h : lexL L = .ok m) : m.length ≤ L.length ∧ ∀ t ∈ m, t.text.length ≤ 4 * L.length := by
  unfold lexL at h
  split at h
  · cases h
  · cases hk : chk L 0 with
    | some k => rw [hk] at h; cases h
    | none =>
      rw [hk] at h
      simp only at h
      unfold lexA at h
      cases hg : gap L with
      | mk k f =>
        rw [hg] at h
        cases f with
        | false => cases h
        | true =>
          obtain ⟨i1, i2⟩ := lexB_lens _ _ _ _ m (Nat.le_refl _) h
          rw [List.length_drop] at i1 i2
          exact ⟨by omega, fun t ht => by have := i2 t ht; omega⟩
theorem text_len (b : Int) : (Bt.textI b).size ≤ 30 := by
  unfold Bt.textI
  split
  · decide
  · split
    · split <;> decide
    · split
      · have hv := Bt.wholeV_lo (b := b)
        have := Lib.itoa_length_le (Bt.wholeV b) (by omega) (by omega)
        have e : (Bt.wholeS (Bt.wholeV b)).size = (Lib.itoa (Bt.wholeV b)).length := by rw [Lib.size_eq]; rfl
        omega
      · have e : (Bt.tildeS b).size = 17 := by
          rw [Lib.size_eq, Bt.tilde_list, List.length_cons, ← Lib.size_eq, Bt.hexS_size]
        omega
theorem print_len {t : Tk} {n : Nat} (h : t.text.length ≤ n) : (printL t).length ≤ 6 * n + 30 := by
  unfold printL
  split
  · omega
  · split
    · have := text_len t.bits; rw [Lib.size_eq] at this; omega
    · split
      · have := quote_size t.text; omega
      · simp
theorem writ_len (n g : Nat) : ∀ (z : List (Tk × List UInt8)), (∀ x ∈ z, x.1.text.length ≤ n ∧ x.2.length ≤ g) → (writL z).length ≤ z.length * (6 * n + 30 + g)
  | [], _ => by simp [writL]
  | x :: r, h => by
    obtain ⟨h1, h2⟩ := h x (by simp)
    have ih := writ_len n g r (fun y hy => h y (by simp [hy]))
    have h3 := print_len h1
    rw [writL_cons, List.length_append, List.length_append, List.length_cons, Nat.succ_mul]
    omega
theorem writL_append (a b : List (Tk × List UInt8)) : writL (a ++ b) = writL a ++ writL b := by simp [writL]
theorem writL_take {z : List (Tk × List UInt8)} {k : Nat} (h : k < z.length) : writL (z.take (k + 1)) = writL (z.take k) ++ (printL z[k].1 ++ z[k].2) := by
  rw [List.take_succ_eq_append_getElem h, writL_append]
  congr 1
  simp [writL]

set_option maxRecDepth 100000 in
set_option maxHeartbeats 4000000 in
theorem tokens_huge (s : ByteArray) (hs : s.size ≤ 9223372036854775807) (hl : 4096 < s.size) (w : World) :
    Calls Tryz.prog 16 #[.string s] w (FacePost w (lexL s.data.toList)) := by
  have E : Hid (lexL s.data.toList = .error (0, 3)) := by show _ = _; unfold lexL; rw [list_size', if_pos hl]
  generalize lexL s.data.toList = G at *
  go_enter_defers Tryz.func16, Tryz.ntmps16
  go_wp2_with fail
  obtain ⟨t0, t1, t2, tb⟩ := three w (.slice none 0 0) (.int .i64 0) (.int .i64 3)
  exact ⟨_, face_res t0 t1 t2 _ rfl rfl rfl, fp_err E.out rfl tb⟩
theorem Tokens_all (s : ByteArray) (hs : s.size ≤ 9223372036854775807) (w : World) (hm : MLw w) : Calls Tryz.prog 16 #[.string s] w (FacePost w (lexL s.data.toList)) := by
  by_cases hl : 4096 < s.size
  · exact tokens_huge s hs hl w
  · exact Tokens_any s (by omega) w hm

theorem gd_bits {t : Tk} (h : Gd t) : 0 ≤ t.bits ∧ t.bits < 18446744073709551616 := by
  rcases h with ⟨_, _, h⟩ | ⟨_, _, h⟩ | ⟨_, _, u, _, h⟩ | ⟨_, _, h⟩ | ⟨_, _, h⟩
  · omega
  · omega
  · rw [h]; exact ⟨ofI_nonneg _, ofI_lt _⟩
  · omega
  · omega
end Go.Proofs.YtnkfodelgpidkaaGreatDoor
