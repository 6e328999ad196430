/- A name, or a word, alone. -/
import Derived.Test.YtcpjggcpimghjaaLawA
namespace Go.Proofs.Ytcpjggcpimghjaa
set_option linter.unusedVariables false

theorem np_small {c : UInt8} (h : npB (ci c) = true) : ci c < 128 := by unfold npB at h; simp only [decide_eq_true_eq] at h; omega
theorem nm_full : ∀ {L : List UInt8}, nmL L = L.length → ∀ c ∈ L, npB (ci c) = true
  | [], _, c, hc => by simp at hc
  | d :: r, h, c, hc => by
    rw [nmL] at h
    cases hd : npB (ci d)
    · rw [hd] at h; simp at h
    · rw [hd] at h
      rcases List.mem_cons.1 hc with rfl | hc
      · exact hd
      · exact nm_full (by simpa using h) c hc
theorem chk_ascii (L : List UInt8) (h : ∀ c ∈ L, ci c < 128) : ∀ (j a : Nat), L.length - a ≤ j → chk L a = none
  | 0, a, hj => chk_done (by omega)
  | j + 1, a, hj => by
    by_cases ha : a < L.length
    · have hb : by8 L a = ci L[a] := by unfold by8 ci; simp [List.getElem?_eq_getElem ha]
      have h1 := h L[a] (List.getElem_mem ha)
      have h0 := ci_lo L[a]
      have h4 : ∀ d e f, siz4 (ci L[a]) d e f = 1 := fun d e f => by unfold siz4; rw [if_pos h1]
      have hs : ¬ signAt L a < 0 := by unfold signAt sgn4; rw [hb, h4]; simp; omega
      have hp : stepAt L a = 1 := by unfold stepAt sizeAt siz4; rw [hb, if_pos h1]; rfl
      rw [chk_more ha hs, hp]
      exact chk_ascii L h j (a + 1) (by omega)
    · exact chk_done (by omega)
theorem lex_alone {L : List UInt8} (h0 : L ≠ []) (hn : nameN L = L.length) (hl : L.length ≤ 4096) : lexL L = .ok [⟨if wordB L then 2 else 1, 0, L, 0⟩] := by
  match L, h0 with
  | c :: r, _ =>
    have hlet : letB (ci c) = true := by
      unfold nameN at hn; simp only at hn
      cases hx : letB (ci c)
      · rw [hx] at hn; simp at hn
      · rfl
    have hnm : nmL (c :: r) = (c :: r).length := by unfold nameN at hn; simp only [hlet, if_true] at hn; exact hn
    have hall := nm_full hnm
    have hck : chk (c :: r) 0 = none := chk_ascii _ (fun d hd => np_small (hall d hd)) _ 0 (Nat.le_refl _)
    have hnp : npB (ci c) = true := hall c (by simp)
    have hdg : digB (ci c) = false := by
      unfold letB at hlet; unfold digB; simp only [decide_eq_true_eq] at hlet; rw [decide_eq_false_iff_not]; omega
    have hbl : blankB c = false := by
      unfold letB at hlet; simp only [decide_eq_true_eq] at hlet
      cases hb : blankB c
      · rfl
      · unfold blankB at hb
        simp only [Bool.or_eq_true, beq_iff_eq] at hb
        rcases hb with ((h | h) | h) | h <;> (rw [h] at hlet; exact absurd hlet (by decide))
    have hsl : ¬ c = 47 := by intro h; rw [h] at hlet; exact absurd hlet (by decide)
    have hg : gap (c :: r) = (0, true) := by rw [gap, hbl, rem_other hsl]; rfl
    have htk : tokO (c :: r) = some (⟨if wordB (c :: r) then 2 else 1, 0, c :: r, 0⟩, (c :: r).length) := by
      unfold tokO; simp only [hdg, hnp, hnm, List.take_length, if_true]; rfl
    have hgn : gap [] = (0, true) := by rw [gap]
    unfold lexL lexA
    rw [if_neg (by omega), hck, hg]
    simp only [List.drop_zero]
    rw [lexB_cons, htk]
    have hd : tooDeep ⟨if wordB (c :: r) then 2 else 1, 0, c :: r, 0⟩ 0 = false := by unfold tooDeep; cases wordB (c :: r) <;> rfl
    simp only [hd]
    have he : r.drop ((c :: r).length - 1) = [] := by simp
    rw [he]
    unfold lexA
    rw [hgn]
    simp [lexB, consT]
theorem words_names : ∀ P ∈ words, nameN P = P.length ∧ P ≠ [] := by decide +kernel
theorem lex_word {L : List UInt8} (h : wordB L = true) (hl : L.length ≤ 4096) : lexL L = .ok [⟨2, 0, L, 0⟩] := by
  obtain ⟨h1, h2⟩ := words_names L (by unfold wordB at h; simpa using h)
  rw [lex_alone h2 h1 hl, h]; rfl
theorem name_parts {L : List UInt8} (h : nameB L = true) : L ≠ [] ∧ nameN L = L.length ∧ wordB L = false := by
  unfold nameB at h
  simp only [Bool.and_eq_true, Bool.not_eq_true', beq_iff_eq] at h
  refine ⟨?_, h.1.2, h.2⟩
  intro e; rw [e] at h; simp at h
theorem lex_name {L : List UInt8} (h : nameB L = true) (hl : L.length ≤ 4096) : lexL L = .ok [⟨1, 0, L, 0⟩] := by
  obtain ⟨h1, h2, h3⟩ := name_parts h
  rw [lex_alone h1 h2 hl, h3]; rfl
theorem name_word (L : List UInt8) : ¬ (nameB L = true ∧ wordB L = true) := by
  intro ⟨h1, h2⟩; rw [(name_parts h1).2.2] at h2; cases h2
/-- What is alone one token of these is a name, or a word. -/
theorem alone_back {L : List UInt8} {k b : Int} (h : lexL L = .ok [⟨k, 0, L, b⟩]) (hk : k = 1 ∨ k = 2) : L ≠ [] ∧ nameN L = L.length ∧ wordB L = decide (k = 2) := by
  unfold lexL at h
  split at h
  · cases h
  · split at h
    · cases h
    · unfold lexA at h
      split at h
      · cases h
      · rename_i n hg
        cases hd : L.drop n with
        | nil => rw [hd, lexB] at h; cases h
        | cons c r =>
          rw [hd, lexB_cons] at h
          split at h
          · cases h
          · rename_i t m ht
            split at h
            · cases h
            · cases hx : lexA (r.drop (m - 1)) (0 + (n : Int) + m) (opA t 0) with
              | error e => rw [hx] at h; cases h
              | ok l =>
                rw [hx] at h
                simp only [consT, Except.ok.injEq, List.cons.injEq, Tk.mk.injEq] at h
                obtain ⟨⟨e1, e2, e3, e4⟩, _⟩ := h
                have hn0 : n = 0 := by omega
                subst hn0
                rw [List.drop_zero] at hd
                subst hd
                unfold tokO at ht
                simp only at ht
                split at ht
                · split at ht
                  · cases ht
                  · injection ht with ht; injection ht with ht _; subst ht; simp at e1; omega
                · rename_i hdg
                  split at ht
                  · rename_i hnp
                    injection ht with ht; injection ht with ht _; subst ht
                    simp only at e1 e3
                    have hlen : nmL (c :: r) = (c :: r).length := by
                      have := congrArg List.length e3
                      rw [List.length_take] at this
                      have := nmL_le (c :: r); omega
                    have hlet : letB (ci c) = true := by
                      unfold digB at hdg; unfold npB at hnp; unfold letB; simp only [decide_eq_true_eq] at hdg hnp ⊢; omega
                    refine ⟨by simp, ?_, ?_⟩
                    · unfold nameN; simp only [hlet, if_true]; exact hlen
                    · rw [e3] at e1
                      cases hw : wordB (c :: r)
                      · rw [hw] at e1; simp at e1; subst e1; rfl
                      · rw [hw] at e1; simp at e1; subst e1; rfl
                  · split at ht
                    · split at ht
                      · cases ht
                      · injection ht with ht; injection ht with ht _; subst ht; simp at e1; omega
                    · split at ht
                      · cases ht
                      · injection ht with ht; injection ht with ht _; subst ht; simp at e1; omega
theorem alone_name {L : List UInt8} {b : Int} (h : lexL L = .ok [⟨1, 0, L, b⟩]) : nameB L = true ∧ wordB L = false := by
  obtain ⟨h1, h2, h3⟩ := alone_back h (.inl rfl)
  refine ⟨?_, h3⟩
  unfold nameB; rw [h2, h3]; simp [h1]
theorem alone_word {L : List UInt8} {b : Int} (h : lexL L = .ok [⟨2, 0, L, b⟩]) : nameB L = false ∧ wordB L = true := by
  obtain ⟨h1, h2, h3⟩ := alone_back h (.inr rfl)
  refine ⟨?_, h3⟩
  unfold nameB; rw [h3]; simp
/-- Why a source has no tokens. -/
theorem lexB_err : ∀ (j : Nat) (R : List UInt8) (a op p c : Int), R.length ≤ j → lexB R a op = .error (p, c) → c = 5 ∨ c = 6
  | j, [], a, op, p, c, _, h => by rw [lexB] at h; cases h
  | 0, d :: r, a, op, p, c, hj, h => by simp at hj
  | j + 1, d :: r, a, op, p, c, hj, h => by
    rw [lexB_cons] at h
    split at h
    · injection h with h; injection h with _ h; exact .inl h.symm
    · split at h
      · injection h with h; injection h with _ h; exact .inr h.symm
      · rename_i t n ht _
        unfold lexA at h
        split at h
        · injection h with h; injection h with _ h; exact .inl h.symm
        · rename_i m hg
          cases hx : lexB ((r.drop (n - 1)).drop m) (a + n + m) (opA t op) with
          | ok l => rw [hx] at h; cases h
          | error e =>
            obtain ⟨p', c'⟩ := e
            rw [hx] at h
            simp only [consT, Except.error.injEq, Prod.mk.injEq] at h
            obtain ⟨rfl, rfl⟩ := h
            exact lexB_err j _ _ _ _ _ (by rw [List.length_drop, List.length_drop]; simp at hj; omega) hx
theorem lex_err {L : List UInt8} {p c : Int} (h : lexL L = .error (p, c)) : 3 ≤ c ∧ c ≤ 6 := by
  unfold lexL at h
  split at h
  · injection h with h; injection h with _ h; omega
  · split at h
    · injection h with h; injection h with _ h; omega
    · unfold lexA at h
      split at h
      · injection h with h; injection h with _ h; omega
      · have := lexB_err _ _ _ _ _ _ (Nat.le_refl _) h
        omega
end Go.Proofs.Ytcpjggcpimghjaa
