/- A source within a function's body: its tokens and its tree. -/
import Derived.Test.YtnkfodelgpidkaaGreatDoorSm
namespace Go.Proofs.YtnkfodelgpidkaaGreatDoor
open Go.RowKit
set_option linter.unusedVariables false
set_option linter.unusedSimpArgs false

theorem nm_stop2 (c : UInt8) (J : List UInt8) (hc : npB (ci c) = false) : ∀ X : List UInt8, (∀ d ∈ X, npB (ci d) = true) → nmL (X ++ c :: J) = X.length
  | [], _ => by rw [List.nil_append, nmL, hc]; rfl
  | d :: r, h => by
    rw [List.cons_append, nmL, h d List.mem_cons_self, nm_stop2 c J hc r fun e he => h e (List.mem_cons_of_mem _ he)]; rfl
/-- A name, or a word, with something behind it that is neither letter nor digit. -/
theorem tok_nm {X : List UInt8} (hn : nameN X = X.length) (h0 : X ≠ []) (c : UInt8) (J : List UInt8) (hc : npB (ci c) = false) : tokO (X ++ c :: J) = some (⟨if wordB X then 2 else 1, 0, X, 0⟩, X.length) := by
  match X, h0 with
  | d :: r, _ =>
    have hlet : letB (ci d) = true := by
      unfold nameN at hn; simp only at hn
      cases hx : letB (ci d)
      · rw [hx] at hn; simp at hn
      · rfl
    have hnm : nmL (d :: r) = (d :: r).length := by unfold nameN at hn; simp only [hlet, if_true] at hn; exact hn
    have hall := nm_full hnm
    have hnp : npB (ci d) = true := hall d (by simp)
    have hdg : digB (ci d) = false := by
      unfold letB at hlet; unfold digB; simp only [decide_eq_true_eq] at hlet; rw [decide_eq_false_iff_not]; omega
    have hst := nm_stop2 c J hc (d :: r) hall
    rw [List.cons_append] at hst ⊢
    unfold tokO
    simp only [hdg, hnp, hst, if_true]
    rw [show (d :: (r ++ c :: J)).take (d :: r).length = d :: r from by rw [← List.cons_append]; exact List.take_left]
    rfl
theorem sgn_one (c : UInt8) (R : List UInt8) (h1 : sgnB [c] = true) (h2 : (signs.all fun q => q.head? != some c || q.length == 1) = true) : sgnN (c :: R) 4 = 1 := by
  have no : ∀ n, 2 ≤ n → ¬ (n ≤ (c :: R).length ∧ sgnB ((c :: R).take n) = true) := by
    rintro n hn ⟨hl, hs⟩
    unfold sgnB at hs
    have hm := List.contains_iff_mem.1 hs
    have := List.all_eq_true.1 h2 _ hm
    obtain ⟨k, rfl⟩ : ∃ k, n = k + 1 := ⟨n - 1, by omega⟩
    rw [List.take_succ_cons] at this
    simp only [List.head?_cons, bne_self_eq_false, Bool.false_or, beq_iff_eq, List.length_cons, List.length_take] at this
    simp only [List.length_cons] at hl
    omega
  have e4 : sgnN (c :: R) 4 = sgnN (c :: R) 3 := by rw [sgnN, if_neg (no 4 (by omega))]
  have e3 : sgnN (c :: R) 3 = sgnN (c :: R) 2 := by rw [sgnN, if_neg (no 3 (by omega))]
  have e2 : sgnN (c :: R) 2 = sgnN (c :: R) 1 := by rw [sgnN, if_neg (no 2 (by omega))]
  rw [e4, e3, e2, sgnN, if_pos ⟨by simp, by rw [List.take_succ_cons, List.take_zero]; exact h1⟩]
theorem tok_sg (c : UInt8) (R : List UInt8) (h1 : sgnB [c] = true) (h2 : (signs.all fun q => q.head? != some c || q.length == 1) = true) (h3 : digB (ci c) = false) (h4 : npB (ci c) = false) (h5 : ¬ (ci c = 39 ∨ ci c = 34)) : tokO (c :: R) = some (⟨5, 0, [c], 0⟩, 1) := by
  have hs := sgn_one c R h1 h2
  unfold tokO
  simp only [h3, h4, hs, if_neg h5, Bool.false_eq_true, if_false]
  simp
/-- One token of a source that goes on behind it. -/
theorem lexA_one {R : List UInt8} {k : Nat} {c : UInt8} {r : List UInt8} {t : Tk} {n : Nat} {a op : Int} (hg : gap R = (k, true)) (hd : R.drop k = c :: r) (ht : tokO (c :: r) = some (t, n)) (hp : tooDeep t op = false) :
    lexA R a op = consT t (a + k) (lexA (r.drop (n - 1)) (a + k + n) (opA t op)) := by
  rw [lexA_go hg, hd, lexB_cons, ht]
  simp only [hp, Bool.false_eq_true, if_false]
theorem gap_no {c : UInt8} {r : List UInt8} (hb : blankB c = false) (h : ¬ c = 47) : gap (c :: r) = (0, true) := by rw [gap, hb, rem_other h]; rfl
theorem gap_blank2 {r : List UInt8} (h : gap r = (0, true)) : gap (32 :: r) = (1, true) := by rw [gap, h]; rfl
/-- Too many brackets are too many, whatever is behind. -/
theorem lexA_deep (B : List UInt8) : ∀ (j : Nat) (R : List UInt8) (a op p : Int), R.length ≤ j → lexA R a op = .error (p, 6) → lexA (R ++ 10 :: B) a op = .error (p, 6)
  | j, R, a, op, p, hj, h => by
    cases hg : gap R with
    | mk k f =>
      cases f
      · rw [lexA_stop hg] at h; injection h with h; injection h with _ h; omega
      · rw [lexA_go hg] at h
        have hk := gap_le _ R (Nat.le_refl _)
        rw [hg] at hk
        have hgj := gap_join B _ R k (Nat.le_refl _) hg
        by_cases hlt : k < R.length
        · rw [if_pos hlt] at hgj
          rw [lexA_go hgj, drop_join _ hk]
          obtain ⟨c, r, hr⟩ : ∃ c r, R.drop k = c :: r := by
            cases hd : R.drop k with
            | nil => have := congrArg List.length hd; rw [List.length_drop] at this; simp at this; omega
            | cons c r => exact ⟨c, r, rfl⟩
          have hlen : r.length + 1 + k = R.length := by
            have := congrArg List.length hr; rw [List.length_drop] at this; simp at this; omega
          rw [hr] at h ⊢
          rw [lexB_cons] at h
          rw [List.cons_append, lexB_cons]
          cases ht : tokO (c :: r) with
          | none => rw [ht] at h; injection h with h; injection h with _ h; omega
          | some x =>
            obtain ⟨t, n⟩ := x
            have htj := tok_join B ht
            rw [List.cons_append] at htj
            rw [htj]
            rw [ht] at h
            simp only at h ⊢
            have hts := tokO_size ht
            simp only [List.length_cons] at hts
            cases hd : tooDeep t op
            · rw [hd] at h
              simp only [Bool.false_eq_true, if_false] at h ⊢
              cases hx : lexA (r.drop (n - 1)) (a + k + n) (opA t op) with
              | ok l2 => rw [hx] at h; cases h
              | error e =>
                obtain ⟨p', c'⟩ := e
                rw [hx] at h
                simp only [consT, Except.error.injEq, Prod.mk.injEq] at h
                obtain ⟨rfl, rfl⟩ := h
                match j, hj with
                | 0, hj => omega
                | j + 1, hj =>
                  have ho := lexA_deep B j (r.drop (n - 1)) _ _ _ (by rw [List.length_drop]; omega) hx
                  rw [drop_join _ (by omega), ho]; rfl
            · rw [hd] at h
              simp only [if_true] at h ⊢
              exact h
        · have hke : k = R.length := by simp at hk; omega
          rw [hke, List.drop_length, lexB] at h; cases h

/-- The tokens of a source with nothing about their places. -/
def Lx6 (T : List (Int × List UInt8 × Int)) (x : Except (Int × Int) (List Tk)) : Prop := match x with
  | .ok l => st l = T
  | .error (_, c) => c = 6
theorem Lx6.cons {T : List (Int × List UInt8 × Int)} {x : Except (Int × Int) (List Tk)} {t : Tk} {a : Int} (h : Lx6 T x) : Lx6 ((t.kind, t.text, t.bits) :: T) (consT t a x) := by
  rcases x with ⟨p, c⟩ | l
  · exact h
  · show st _ = _
    unfold Lx6 at h
    simp only at h
    rw [← h]; rfl
abbrev fnB : List UInt8 := [102, 117, 110, 99, 116, 105, 111, 110]
def headB (nm : List UInt8) : List UInt8 := fnB ++ 32 :: (nm ++ [40, 97, 44, 32, 98, 41, 32, 123])
def headT (nm : List UInt8) : List (Int × List UInt8 × Int) := [(2, fnB, 0), (1, nm, 0), (5, [40], 0), (1, [97], 0), (5, [44], 0), (1, [98], 0), (5, [41], 0), (5, [123], 0)]
theorem tail_of (S : List UInt8) (l : List Tk) (h : lexA S 0 0 = .ok l) (p : Int) : Lx6 (st l ++ [(5, [125], 0)]) (lexA (S ++ 10 :: [125]) p 1) := by
  rcases lexA_else (a := p) (op := 1) h with h1 | ⟨q, h1⟩
  · rw [lexA_then [125] _ S p 1 _ (Nat.le_refl _) h1]
    generalize dep _ _ = o
    have e : lexA [125] (p + S.length + 1) o = .ok [⟨5, p + S.length + 1, [125], 0⟩] := by
      have ht := tok_sg 125 [] (by decide) (by decide) (by decide) (by decide) (by decide)
      rw [lexA_one (R := [125]) (k := 0) (gap_no (by decide) (by decide)) rfl ht (by unfold tooDeep; simp [opens])]
      have hgn : gap ([] : List UInt8) = (0, true) := by rw [gap]
      rw [show ([] : List UInt8).drop (1 - 1) = [] from rfl, lexA_go hgn, List.drop_nil, lexB]
      simp [consT]
    rw [e]
    show st (_ ++ _) = _
    unfold st
    rw [List.map_append, List.map_map]
    rfl
  · rw [lexA_deep [125] _ S p 1 q (Nat.le_refl _) h1]; rfl
set_option maxHeartbeats 1000000 in
theorem lex_wrap {S nm : List UInt8} {l : List Tk} (hS : lexL S = .ok l) (hn : nameB nm = true) (hl : S.length ≤ 1000) (hl2 : nm.length ≤ 50) : Lx6 (headT nm ++ (st l ++ [(5, [125], 0)])) (lexL (headB nm ++ (S ++ [10, 125]))) := by
  obtain ⟨_, cS, aS⟩ := lex_parts hS
  have hn2 : nm ≠ [] ∧ nameN nm = nm.length ∧ wordB nm = false := by
    unfold nameB at hn
    simp only [Bool.and_eq_true, Bool.not_eq_true', beq_iff_eq] at hn
    exact ⟨fun e => by rw [e] at hn; exact absurd hn.1.1 (by decide), hn.1.2, hn.2⟩
  obtain ⟨n0, n1, n2⟩ := hn2
  have hall : ∀ d ∈ nm, npB (ci d) = true := by
    match nm, n0 with
    | d :: r, _ =>
      have hlet : letB (ci d) = true := by
        unfold nameN at n1; simp only at n1
        cases hx : letB (ci d)
        · rw [hx] at n1; simp at n1
        · rfl
      exact nm_full (by unfold nameN at n1; simp only [hlet, if_true] at n1; exact n1)
  have hasc : ∀ c ∈ headB nm, ci c < 128 := by
    intro c hc
    unfold headB at hc
    rcases List.mem_append.1 hc with h | h
    · exact (by decide : ∀ c ∈ fnB, ci c < 128) c h
    · rcases List.mem_cons.1 h with rfl | h
      · decide
      · rcases List.mem_append.1 h with h | h
        · exact np_small (hall c h)
        · exact (by decide : ∀ c ∈ ([40, 97, 44, 32, 98, 41, 32, 123] : List UInt8), ci c < 128) c h
  have ck : chk (headB nm ++ (S ++ [10, 125])) 0 = none := by
    rw [chk_join (chk_ascii _ hasc _ 0 (Nat.le_refl _)), chk_join cS, chk_ascii [10, 125] (by decide) _ 0 (Nat.le_refl _)]; rfl
  have hlen : (headB nm ++ (S ++ [10, 125])).length ≤ 4096 := by
    unfold headB fnB; simp only [List.length_append, List.length_cons, List.length_nil]; omega
  have e0 : lexL (headB nm ++ (S ++ [10, 125])) = lexA (headB nm ++ (S ++ [10, 125])) 0 0 := by
    unfold lexL; rw [if_neg (by omega), ck]
  rw [e0]
  unfold headB
  have hnl : ∃ d r, nm = d :: r ∧ blankB d = false ∧ ¬ d = 47 := by
    match nm, n0 with
    | d :: r, _ =>
      have hd := hall d List.mem_cons_self
      refine ⟨d, r, rfl, ?_, fun e => by rw [e] at hd; exact absurd hd (by decide)⟩
      cases hb : blankB d
      · rfl
      · unfold blankB at hb
        simp only [Bool.or_eq_true, beq_iff_eq] at hb
        rcases hb with ((h | h) | h) | h <;> (rw [h] at hd; exact absurd hd (by decide))
  obtain ⟨nd0, nr, hnm, hb0, h47⟩ := hnl
  have hw : wordB fnB = true := by decide
  -- function
  have eW : (fnB ++ 32 :: (nm ++ [40, 97, 44, 32, 98, 41, 32, 123]) ++ (S ++ [10, 125]) : List UInt8) = 102 :: ([117, 110, 99, 116, 105, 111, 110] ++ 32 :: (nm ++ ([40, 97, 44, 32, 98, 41, 32, 123] ++ (S ++ [10, 125])))) := by simp
  rw [eW]
  have tk1 : ∀ J, tokO (102 :: ([117, 110, 99, 116, 105, 111, 110] ++ 32 :: J)) = some (⟨2, 0, fnB, 0⟩, 8) := fun J => (tok_nm (X := fnB) (by decide) (by decide) 32 J (by decide)).trans (by rw [hw]; rfl)
  rw [lexA_one (k := 0) (c := 102) (r := [117, 110, 99, 116, 105, 111, 110] ++ 32 :: (nm ++ ([40, 97, 44, 32, 98, 41, 32, 123] ++ (S ++ [10, 125])))) (gap_no (by decide) (by decide)) rfl (tk1 _) (by rfl)]
  refine Lx6.cons (t := ⟨2, 0, fnB, 0⟩) ?_
  have e1 : List.drop (8 - 1) ([117, 110, 99, 116, 105, 111, 110] ++ 32 :: (nm ++ ([40, 97, 44, 32, 98, 41, 32, 123] ++ (S ++ [10, 125]))) : List UInt8) = 32 :: (nm ++ ([40, 97, 44, 32, 98, 41, 32, 123] ++ (S ++ [10, 125]))) := rfl
  rw [e1]
  -- the name
  have g2 : gap (32 :: (nm ++ ([40, 97, 44, 32, 98, 41, 32, 123] ++ (S ++ [10, 125])))) = (1, true) := gap_blank2 (by rw [hnm, List.cons_append]; exact gap_no hb0 h47)
  rw [lexA_one (k := 1) (c := nd0) (r := nr ++ ([40, 97, 44, 32, 98, 41, 32, 123] ++ (S ++ [10, 125]))) g2 (by rw [hnm]; rfl) (by rw [← List.cons_append, ← hnm]; exact tok_nm n1 n0 40 _ (by decide)) (by rw [n2]; rfl)]
  rw [n2]
  refine Lx6.cons (t := ⟨1, 0, nm, 0⟩) ?_
  have e2 : List.drop (nm.length - 1) (nr ++ ([40, 97, 44, 32, 98, 41, 32, 123] ++ (S ++ [10, 125])) : List UInt8) = 40 :: 97 :: 44 :: 32 :: 98 :: 41 :: 32 :: 123 :: (S ++ [10, 125]) := by rw [hnm, List.length_cons, Nat.add_sub_cancel, List.drop_left]; rfl
  rw [e2]
  generalize (0 : Int) + _ + _ + _ + _ = q1
  have dr1 : ∀ Z : List UInt8, List.drop (1 - 1) Z = Z := fun _ => rfl
  have dr2 : ∀ Z : List UInt8, List.drop (([97] : List UInt8).length - 1) Z = Z := fun _ => rfl
  have dr3 : ∀ Z : List UInt8, List.drop (([98] : List UInt8).length - 1) Z = Z := fun _ => rfl
  rw [lexA_one (k := 0) (gap_no (by decide) (by decide)) rfl (tok_sg 40 _ (by decide) (by decide) (by decide) (by decide) (by decide)) (by rfl)]
  refine Lx6.cons (t := ⟨5, 0, [40], 0⟩) ?_
  rw [dr1]
  rw [lexA_one (k := 0) (c := 97) (r := 44 :: 32 :: 98 :: 41 :: 32 :: 123 :: (S ++ [10, 125])) (gap_no (by decide) (by decide)) rfl (tok_nm (X := [97]) (by decide) (by decide) 44 _ (by decide)) (by rfl)]
  refine Lx6.cons (t := ⟨1, 0, [97], 0⟩) ?_
  rw [dr2]
  rw [lexA_one (k := 0) (c := 44) (r := 32 :: 98 :: 41 :: 32 :: 123 :: (S ++ [10, 125])) (gap_no (by decide) (by decide)) rfl (tok_sg 44 _ (by decide) (by decide) (by decide) (by decide) (by decide)) (by rfl)]
  refine Lx6.cons (t := ⟨5, 0, [44], 0⟩) ?_
  rw [dr1]
  rw [lexA_one (k := 1) (c := 98) (r := 41 :: 32 :: 123 :: (S ++ [10, 125])) (gap_blank2 (gap_no (by decide) (by decide))) rfl (tok_nm (X := [98]) (by decide) (by decide) 41 _ (by decide)) (by rfl)]
  refine Lx6.cons (t := ⟨1, 0, [98], 0⟩) ?_
  rw [dr3]
  rw [lexA_one (k := 0) (c := 41) (r := 32 :: 123 :: (S ++ [10, 125])) (gap_no (by decide) (by decide)) rfl (tok_sg 41 _ (by decide) (by decide) (by decide) (by decide) (by decide)) (by rfl)]
  refine Lx6.cons (t := ⟨5, 0, [41], 0⟩) ?_
  rw [dr1]
  rw [lexA_one (k := 1) (c := 123) (r := S ++ [10, 125]) (gap_blank2 (gap_no (by decide) (by decide))) rfl (tok_sg 123 _ (by decide) (by decide) (by decide) (by decide) (by decide)) (by rfl)]
  refine Lx6.cons (t := ⟨5, 0, [123], 0⟩) ?_
  rw [dr1]
  exact tail_of S l aS _
end Go.Proofs.YtnkfodelgpidkaaGreatDoor
