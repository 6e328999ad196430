/- A source within a function's body: its tree. -/
import Derived.Test.YtnkfodelgpidkaaGreatDoorWp
namespace Go.Proofs.YtnkfodelgpidkaaGreatDoor
open Go.RowKit
set_option linter.unusedVariables false
set_option linter.unusedSimpArgs false

def wrapK (nm : List UInt8) (kids : List Tr) : List Tr := [nd 18 nm [nd 19 [97] [], nd 19 [98] [], nd 20 [] kids]]
/-- Tokens that are as told, but for their places. -/
theorem st_cons {l : List Tk} {k : Int} {x : List UInt8} {b : Int} {T : List (Int × List UInt8 × Int)} (h : st l = (k, x, b) :: T) : ∃ p r, l = ⟨k, p, x, b⟩ :: r ∧ st r = T := by
  cases l with
  | nil => cases h
  | cons t r =>
    obtain ⟨tk, tp, tx, tb⟩ := t
    unfold st at h
    rw [List.map_cons] at h
    injection h with h1 h2
    injection h1 with h1 h3
    injection h3 with h3 h4
    subst h1; subst h3; subst h4
    exact ⟨tp, r, rfl, h2⟩
theorem st_append {l : List Tk} {A B : List (Int × List UInt8 × Int)} (h : st l = A ++ B) : ∃ a b, l = a ++ b ∧ st a = A ∧ st b = B := by
  unfold st at *
  refine ⟨l.take A.length, l.drop A.length, (List.take_append_drop _ _).symm, ?_, ?_⟩
  · rw [List.map_take, h]; simp
  · rw [List.map_drop, h]; simp
set_option maxHeartbeats 1000000 in
/-- The tree of a source within a function's body. -/
theorem D_wrap {E E' : Int} {nm : List UInt8} {l W : List Tk} {t : Tr} (hd : D E .program l (.ok (t, []))) (hW : st W = headT nm ++ (st l ++ [(5, [125], 0)])) : D E' .program W (.ok (bag (wrapK nm t.kids), [])) := by
  obtain ⟨H, R, rfl, hH, hR⟩ := st_append hW
  obtain ⟨L, Z, rfl, hL, hZ⟩ := st_append hR
  obtain ⟨p0, r0, rfl, h0⟩ := st_cons hH
  obtain ⟨p1, r1, rfl, h1⟩ := st_cons h0
  obtain ⟨p2, r2, rfl, h2⟩ := st_cons h1
  obtain ⟨p3, r3, rfl, h3⟩ := st_cons h2
  obtain ⟨p4, r4, rfl, h4⟩ := st_cons h3
  obtain ⟨p5, r5, rfl, h5⟩ := st_cons h4
  obtain ⟨p6, r6, rfl, h6⟩ := st_cons h5
  obtain ⟨p7, r7, rfl, h7⟩ := st_cons h6
  obtain ⟨pz, rz, rfl, hz⟩ := st_cons hZ
  have e7 : r7 = [] := by cases r7; rfl; cases h7
  have ez : rz = [] := by cases rz; rfl; cases hz
  subst e7; subst ez
  obtain ⟨R1, g1, g2⟩ := D.elsewhere (E' := E') hL.symm hd
  have hR1 : R1 = [] := by
    cases R1 with
    | nil => rfl
    | cons a r => unfold st at g1; simp at g1
  subst hR1
  obtain ⟨n, hn⟩ := g2
  have hu := prog_until (E' := E') (R0 := [⟨5, pz, [125], 0⟩]) ⟨rfl, rfl, rfl⟩ rfl n (hn n (Nat.le_refl _))
  have hlist : D E' (.list [41] .param) (⟨1, p3, [97], 0⟩ :: ⟨5, p4, [44], 0⟩ :: ⟨1, p5, [98], 0⟩ :: ⟨5, p6, [41], 0⟩ :: ⟨5, p7, [123], 0⟩ :: (L ++ [⟨5, pz, [125], 0⟩])) (.ok (bag [nd 19 [97] [], nd 19 [98] []], ⟨5, p7, [123], 0⟩ :: (L ++ [⟨5, pz, [125], 0⟩]))) := D.of (n := 6) rfl
  have hfun : D E' (.function 18 nm) (⟨5, p2, [40], 0⟩ :: ⟨1, p3, [97], 0⟩ :: ⟨5, p4, [44], 0⟩ :: ⟨1, p5, [98], 0⟩ :: ⟨5, p6, [41], 0⟩ :: ⟨5, p7, [123], 0⟩ :: (L ++ [⟨5, pz, [125], 0⟩])) (.ok (nd 18 nm [nd 19 [97] [], nd 19 [98] [], nd 20 [] t.kids], [])) :=
    D.mk2 hlist hu fun m e1 e2 => by
      simp only [body]
      rw [need, if_pos (by rfl), List.tail_cons, e1]
      simp only [bnd]
      rw [need, if_pos (by rfl), List.tail_cons, e2]; rfl
  have hel : D E' .element (⟨2, p0, fnB, 0⟩ :: ⟨1, p1, nm, 0⟩ :: ⟨5, p2, [40], 0⟩ :: ⟨1, p3, [97], 0⟩ :: ⟨5, p4, [44], 0⟩ :: ⟨1, p5, [98], 0⟩ :: ⟨5, p6, [41], 0⟩ :: ⟨5, p7, [123], 0⟩ :: (L ++ [⟨5, pz, [125], 0⟩])) (.ok (nd 18 nm [nd 19 [97] [], nd 19 [98] [], nd 20 [] t.kids], [])) :=
    D.mk1 hfun fun m e1 => by
      simp only [body]
      rw [if_pos (by rfl)]
      exact e1
  have hnil : D E' .program [] (.ok (bag [], [])) := D.mk0 fun m => rfl
  exact D.mk2 hel hnil fun m e1 e2 => by
    simp only [body, List.cons_append, List.nil_append, e1, bnd, e2]; rfl
theorem ht_wrap (nm : List UInt8) (kids : List Tr) : htT (nd 1 [] (wrapK nm kids)) = htT (nd 1 [] kids) + 2 := by
  unfold wrapK
  simp only [htT, htTs]; omega
theorem out_wrap {S nm : List UInt8} {t : Tr} (hS : Out S (.ok t)) (hn : nameB nm = true) (hl : S.length ≤ 1000) (hl2 : nm.length ≤ 50) :
    Out (headB nm ++ (S ++ [10, 125])) (.ok (nd 1 [] (wrapK nm t.kids))) ∨ ∃ p, Out (headB nm ++ (S ++ [10, 125])) (.error (p, 6)) := by
  obtain ⟨l, u, hx, hd, rfl, hh⟩ := out_ok hS
  have hw := lex_wrap hx hn hl hl2
  cases hxx : lexL (headB nm ++ (S ++ [10, 125])) with
  | error x =>
    obtain ⟨p, c⟩ := x
    rw [hxx] at hw
    have hw : c = 6 := hw
    subst hw
    exact .inr ⟨p, by unfold Out; rw [hxx]⟩
  | ok W =>
    rw [hxx] at hw
    have hw : st W = _ := hw
    have hD := D_wrap (E' := ((headB nm ++ (S ++ [10, 125])).length : Int)) hd hw
    by_cases h60 : 60 < htT (nd 1 [] (wrapK nm u.kids))
    · refine .inr ⟨0, ?_⟩
      unfold Out; rw [hxx]
      exact ⟨_, hD, rfl, by rw [show (bag (wrapK nm u.kids)).kids = wrapK nm u.kids from rfl, if_pos h60]⟩
    · refine .inl (out_mk (u := bag (wrapK nm u.kids)) hxx hD ?_)
      show htT (nd 1 [] (wrapK nm u.kids)) ≤ 60
      omega
end Go.Proofs.YtnkfodelgpidkaaGreatDoor
