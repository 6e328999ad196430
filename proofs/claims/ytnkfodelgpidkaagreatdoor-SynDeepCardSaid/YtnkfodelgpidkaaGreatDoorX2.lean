/- Part of a proof that the program keeps SynDeep: contracts of its functions and of the document's. -/
import Derived.Test.YtnkfodelgpidkaaGreatDoorX1
import Derived.Test.YtnkfodelgpidkaaGreatDoorW3
set_option maxRecDepth 100000
set_option maxHeartbeats 4000000
set_option linter.unusedVariables false
set_option linter.unusedSimpArgs false
namespace Go.Proofs.YtnkfodelgpidkaaGreatDoor
def badL : List (List UInt8) := [[123], [63], [102, 117, 110, 99, 116, 105, 111, 110], [118, 97, 114], [105, 102], [119, 104, 105, 108, 101], [100, 111], [102, 111, 114], [116, 114, 121], [98, 114, 101, 97, 107], [99, 111, 110, 116, 105, 110, 117, 101], [114, 101, 116, 117, 114, 110], [116, 104, 114, 111, 119], [110, 101, 119], [116, 104, 105, 115], [110, 117, 108, 108], [116, 114, 117, 101], [102, 97, 108, 115, 101]]
def Rt (c : Cr) : Prop := ∀ q, q ∈ badL → ∀ s : Ss, isS c s q = false
def Gs (c : Cr) (s : Ss) : Prop := s.i ≤ c.ts.length ∧ (0 ≤ s.bad → s.i = c.ts.length)
def ac : MT → Nat
 | .behind x _ | .exprL x | .binL _ x => x.length
 | .listL _ out _ | .blkL out _ | .decL out _ | .objL out _ | .progL out _ => out.length
 | .parL _ _ kids _ | .funB _ _ kids _ => kids.length
 | .bodL _ _ kids _ out _ => kids.length + out.length
 | _ => 0
def dl : MT → Nat
 | .element | .statement | .block | .decls | .short | .blkL _ _ | .decL _ _ | .object | .objL _ _ => 1
 | .function _ | .parL _ _ _ _ | .funB _ _ _ _ | .bodL _ _ _ _ _ _ => 2
 | .loop => 3
 | .tryM => 4
 | _ => 0
def kp : MT → Nat
 | .primary | .behind _ _ => 5
 | .brackets => 2
 | .first => 10
 | .unary => 15
 | .binary _ | .binL _ _ => 20
 | .cond => 25
 | .assign => 30
 | .expr | .exprL _ => 35
 | .maybe _ | .short | .listL _ _ _ | .objL _ _ | .decL _ _ => 40
 | .list _ | .object | .decls | .loop => 45
 | .block => 50
 | .statement => 55
 | .element | .blkL _ _ | .tryM => 60
 | .bodL _ _ _ _ _ _ | .progL _ _ => 70
 | .funB _ _ _ _ => 75
 | .parL _ _ _ _ => 78
 | .function _ => 80
def lp : MT → Bool
 | .binL _ _ | .exprL _ | .behind _ _ | .progL _ _ => true
 | _ => false
def okM (c : Cr) : MT → Ss → Prop
 | .list stop, _ => stop ≠ []
 | .listL stop _ n, s => stop ≠ [] ∧ (s.bad < 0 → n ≤ s.i)
 | .progL _ n, s => (s.bad < 0 → n ≤ s.i) ∧ n ≤ c.ts.length + 1
 | .element, _ | .statement, _ | .brackets, _ | .short, _ | .expr, _ | .exprL _, _ | .assign, _ | .cond, _ | .binary _, _ | .binL _ _, _ | .unary, _ | .first, _ | .behind _ _, _ | .primary, _ => True
 | _, _ => False
structure PoM (c : Cr) (t : MT) (s : Ss) (r : Mr) : Prop where
 gs : Gs c r.s
 up : s.i ≤ r.s.i
 few : r.n ≤ c.ts.length + 2
 d : 0 ≤ s.bad → r.s.bad = s.bad ∧ r.l.length ≤ ac t + dl t
 l : s.bad < 0 → r.s.bad < 0 → r.l.length + 100 * s.i ≤ ac t + 100 * r.s.i ∧ (lp t = true ∨ s.i < r.s.i)
 x : s.bad < 0 → 0 ≤ r.s.bad → r.l.length + 100 * s.i ≤ ac t + 100 * c.ts.length + kp t
section
variable {c : Cr} {t : MT} {s : Ss} {r : Mr}
theorem PoM.mll (h1 : s.bad < 0) (h2 : r.s.bad < 0) (h3 : r.s.i ≤ c.ts.length) (h4 : s.i ≤ r.s.i) (h5 : r.n ≤ c.ts.length + 2) (h6 : r.l.length + 100 * s.i ≤ ac t + 100 * r.s.i) (h7 : lp t = true ∨ s.i < r.s.i) : PoM c t s r :=
 ⟨⟨h3, by omega⟩, h4, h5, by omega, fun _ _ => ⟨h6, h7⟩, by omega⟩
theorem PoM.mld (h1 : s.bad < 0) (h2 : 0 ≤ r.s.bad) (h3 : r.s.i = c.ts.length) (h4 : s.i ≤ r.s.i) (h5 : r.n ≤ c.ts.length + 2) (h6 : r.l.length + 100 * s.i ≤ ac t + 100 * c.ts.length + kp t) : PoM c t s r :=
 ⟨⟨by omega, fun _ => h3⟩, h4, h5, by omega, by omega, fun _ _ => h6⟩
theorem PoM.mdd (h1 : 0 ≤ s.bad) (h2 : r.s.bad = s.bad) (h3 : r.s.i = c.ts.length) (h4 : s.i ≤ r.s.i) (h5 : r.n ≤ c.ts.length + 2) (h6 : r.l.length ≤ ac t + dl t) : PoM c t s r :=
 ⟨⟨by omega, fun _ => h3⟩, h4, h5, fun _ => ⟨h2, h6⟩, by omega, by omega⟩
theorem PoM.dd (h : PoM c t s r) (hb : 0 ≤ s.bad) : r.s.bad = s.bad ∧ r.s.i = c.ts.length ∧ r.n ≤ c.ts.length + 2 ∧ r.l.length ≤ ac t + dl t :=
 ⟨(h.d hb).1, h.gs.2 (by rw [(h.d hb).1]; exact hb), h.few, (h.d hb).2⟩
theorem PoM.ll (h : PoM c t s r) (hb : s.bad < 0) :
  (r.s.bad < 0 ∧ (s.i ≤ r.s.i ∧ r.s.i ≤ c.ts.length) ∧ r.n ≤ c.ts.length + 2 ∧ r.l.length + 100 * s.i ≤ ac t + 100 * r.s.i ∧ (lp t = false → s.i < r.s.i)) ∨ (0 ≤ r.s.bad ∧ (s.i ≤ r.s.i ∧ r.s.i = c.ts.length) ∧ r.n ≤ c.ts.length + 2 ∧ r.l.length + 100 * s.i ≤ ac t + 100 * c.ts.length + kp t) := by
 rcases Int.lt_or_le r.s.bad 0 with h1 | h1
 ·exact .inl ⟨h1, ⟨h.up, h.gs.1⟩, h.few, (h.l hb h1).1, fun e => (h.l hb h1).2.resolve_left (by rw [e]; decide)⟩
 ·exact .inr ⟨h1, ⟨h.up, h.gs.2 h1⟩, h.few, h.x hb h1⟩
end
def Wm (x : Option Mr) (K : Mr → Prop) : Prop := ∀ r, x = some r → K r
section
variable {K : Mr → Prop}
theorem Wm.rm {l : List LN} {s : Ss} (h : K ⟨l, 0, s⟩) : Wm (Go.Proofs.YtnkfodelgpidkaaGreatDoor.rm l s) K := by intro r e; unfold Go.Proofs.YtnkfodelgpidkaaGreatDoor.rm at e; injection e with e; subst e; exact h
theorem Wm.some {r : Mr} (h : K r) : Wm (Option.some r) K := by intro r' e; injection e with e; subst e; exact h
theorem Wm.bm {x : Option Mr} {k : Mr → Option Mr} (h : Wm x fun r => Wm (k r) K) : Wm (Go.Proofs.YtnkfodelgpidkaaGreatDoor.bm x k) K := by
 intro r e
 unfold Go.Proofs.YtnkfodelgpidkaaGreatDoor.bm at e
 cases x with
 | none => cases e
 | some z => exact h z rfl r e
theorem Wm.ite {p : Prop} [hp : Decidable p] {a b : Option Mr} (h : p → Wm a K) (g : ¬ p → Wm b K) : Wm (if p then a else b) K := by
 by_cases q : p
 ·rw [if_pos q]; exact h q
 ·rw [if_neg q]; exact g q
theorem Wm.imp {x : Option Mr} {L : Mr → Prop} (h : Wm x L) (g : ∀ r, L r → K r) : Wm x K := fun r e => g r (h r e)
end
theorem mk_len (k : Int) (x : List UInt8) (n : Nat) (kids : List LN) : (mkL k x n kids).length = kids.length + 1 := rfl
section
variable {c : Cr} {s : Ss} (hc : c.ok)
include hc
theorem stop_l (hg : s.i ≤ c.ts.length) (hb : s.bad < 0) : (stopS c s).i = c.ts.length ∧ 0 ≤ (stopS c s).bad := by
 have hp := (Cr.T_pos hc s.i).1
 unfold stopS
 refine ⟨rfl, ?_⟩
 show 0 ≤ (if s.bad < 0 then (c.T s.i).pos else s.bad)
 rw [if_pos hb]; exact hp
theorem stop_d (hg : s.i = c.ts.length) (hb : 0 ≤ s.bad) : (stopS c s).i = c.ts.length ∧ 0 ≤ (stopS c s).bad ∧ (stopS c s).bad = s.bad := by
 have e : (stopS c s).bad = s.bad := by
  unfold stopS
  show (if s.bad < 0 then (c.T s.i).pos else s.bad) = _
  rw [if_neg (by omega)]
 have := hc
 exact ⟨rfl, by omega, e⟩
theorem need_l {q : List UInt8} (hq : q ≠ []) (hg : s.i ≤ c.ts.length) (hb : s.bad < 0) : (s.i < c.ts.length ∧ (needS c s q).i = s.i + 1 ∧ (needS c s q).bad < 0) ∨ ((needS c s q).i = c.ts.length ∧ 0 ≤ (needS c s q).bad) := by
 unfold needS; split
 ·exact .inl ⟨isS_in hq ‹_›, rfl, hb⟩
 ·exact .inr (stop_l hc hg hb)
theorem need_d {q : List UInt8} (hq : q ≠ []) (hg : s.i = c.ts.length) (hb : 0 ≤ s.bad) : (needS c s q).i = c.ts.length ∧ 0 ≤ (needS c s q).bad ∧ (needS c s q).bad = s.bad := by
 have e : isS c s q = false := by
  cases h : isS c s q with
  | false => rfl
  | true => have := isS_in hq h; omega
 unfold needS; rw [e]; exact stop_d hc hg hb
theorem key_l (hg : s.i ≤ c.ts.length) (hb : s.bad < 0) : (s.i < c.ts.length ∧ ((keyS c s).2).i = s.i + 1 ∧ ((keyS c s).2).bad < 0) ∨ (((keyS c s).2).i = c.ts.length ∧ 0 ≤ ((keyS c s).2).bad) := by
 unfold keyS; split
 ·exact .inl ⟨kind_inR (c := c) (k := s.i) (by omega), rfl, hb⟩
 ·exact .inr (stop_l hc hg hb)
theorem key_d (hg : s.i = c.ts.length) (hb : 0 ≤ s.bad) : ((keyS c s).2).i = c.ts.length ∧ 0 ≤ ((keyS c s).2).bad ∧ ((keyS c s).2).bad = s.bad := by
 have e : (c.T s.i).kind = 0 := by rw [c.T_end (by omega)]
 unfold keyS; rw [if_neg (by rw [e]; decide)]; exact stop_d hc hg hb
end
theorem up_f (s : Ss) : s.up.i = s.i + 1 ∧ s.up.bad = s.bad := ⟨rfl, rfl⟩
section
variable {c : Cr} {k : Nat}
theorem fxR_in (h : fx (c.T k) ≠ []) : k < c.ts.length := by
 rcases Nat.lt_or_ge k c.ts.length with h1 | h1
 ·exact h1
 ·rw [c.T_end h1] at h; exact absurd rfl h
theorem setsR_in (h : setsL.contains (fx (c.T k)) = true) : k < c.ts.length := fxR_in fun e => by rw [e] at h; revert h; decide
theorem preR_in (h : prefixes.contains (fx (c.T k)) = true) : k < c.ts.length := fxR_in fun e => by rw [e] at h; revert h; decide
theorem stepR_in (h : steps.contains (fx (c.T k)) = true) : k < c.ts.length := fxR_in fun e => by rw [e] at h; revert h; decide
theorem levR_in {l : Int} (h : ¬ (levelI (fx (c.T k)) < l ∨ levelI (fx (c.T k)) = 0)) : k < c.ts.length := fxR_in fun e => h (.inr (by rw [e]; decide))
end
theorem p_element {c : Cr} (hc : c.ok) (hR : Rt c) {rec : MT → Ss → Option Mr} (IH : ∀ t s, okM c t s → s.i ≤ c.ts.length → (0 ≤ s.bad → s.i = c.ts.length) → Wm (rec t s) (PoM c t s))  (s : Ss) (hok : okM c .element s) (hg : s.i ≤ c.ts.length) (hd : 0 ≤ s.bad → s.i = c.ts.length) : Wm (bodyM c rec .element s) (PoM c .element s) := by
 simp only [bodyM]
 rcases Int.lt_or_le s.bad 0 with hb | hb
 ·refine Wm.ite (fun h1 => absurd ((hR _ (by decide) _).symm.trans h1) (by decide)) (fun h1 => ?_)
  refine (IH .statement s trivial (by omega) (by omega)).imp (fun r hr => ?_)
  rcases hr.ll (by omega) with ⟨f2, f3, f4, f5, f6⟩ | ⟨f2, f3, f4, f5⟩
  ·try simp only [ac, List.length_append, mk_len, List.length_nil, List.length_cons] at f5
   have f6 := f6 rfl
   refine PoM.mll ?_ ?_ ?_ ?_ ?_ ?_ ?_
   all_goals (try simp only [ac, dl, kp, lp, List.length_append, mk_len, List.length_nil, List.length_cons])
   all_goals first | omega | (right; omega) | (left; trivial) | trivial
  ·try simp only [ac, kp, List.length_append, mk_len, List.length_nil, List.length_cons] at f5
   refine PoM.mld ?_ ?_ ?_ ?_ ?_ ?_
   all_goals (try simp only [ac, dl, kp, lp, List.length_append, mk_len, List.length_nil, List.length_cons])
   all_goals first | omega | (right; omega) | (left; trivial) | trivial
 ·have hN := hd hb
  refine Wm.ite (fun h7 => absurd ((hR _ (by decide) _).symm.trans h7) (by decide)) (fun h7 => ?_)
  refine (IH .statement s trivial (by omega) (by omega)).imp (fun r hr => ?_)
  obtain ⟨f8, f9, f10, f11⟩ := hr.dd (by omega)
  try simp only [ac, dl, List.length_append, mk_len, List.length_nil, List.length_cons] at f11
  refine PoM.mdd ?_ ?_ ?_ ?_ ?_ ?_
  all_goals (try simp only [ac, dl, kp, lp, List.length_append, mk_len, List.length_nil, List.length_cons])
  all_goals first | omega | (right; omega) | (left; trivial) | trivial
theorem p_statement {c : Cr} (hc : c.ok) (hR : Rt c) {rec : MT → Ss → Option Mr} (IH : ∀ t s, okM c t s → s.i ≤ c.ts.length → (0 ≤ s.bad → s.i = c.ts.length) → Wm (rec t s) (PoM c t s))  (s : Ss) (hok : okM c .statement s) (hg : s.i ≤ c.ts.length) (hd : 0 ≤ s.bad → s.i = c.ts.length) : Wm (bodyM c rec .statement s) (PoM c .statement s) := by
 simp only [bodyM]
 rcases Int.lt_or_le s.bad 0 with hb | hb
 ·refine Wm.ite (fun h1 => absurd ((hR _ (by decide) _).symm.trans h1) (by decide)) (fun h1 => ?_)
  refine Wm.ite (fun h2 => ?_) (fun h2 => ?_)
  ·have f3 := (isS_in (by decide) h2)
   obtain ⟨f4, f5⟩ := up_f s
   refine Wm.rm ?_
   refine PoM.mll ?_ ?_ ?_ ?_ ?_ ?_ ?_
   all_goals (try simp only [ac, dl, kp, lp, List.length_append, mk_len, List.length_nil, List.length_cons])
   all_goals first | omega | (right; omega) | (left; trivial) | trivial
  ·refine Wm.ite (fun h6 => absurd ((hR _ (by decide) _).symm.trans h6) (by decide)) (fun h6 => ?_)
   refine Wm.ite (fun h7 => absurd ((hR _ (by decide) _).symm.trans h7) (by decide)) (fun h7 => ?_)
   refine Wm.ite (fun h8 => absurd ((hR _ (by decide) _).symm.trans h8) (by decide)) (fun h8 => ?_)
   refine Wm.ite (fun h9 => absurd ((hR _ (by decide) _).symm.trans h9) (by decide)) (fun h9 => ?_)
   refine Wm.ite (fun h10 => absurd ((hR _ (by decide) _).symm.trans h10) (by decide)) (fun h10 => ?_)
   refine Wm.ite (fun h11 => absurd ((hR _ (by decide) _).symm.trans h11) (by decide)) (fun h11 => ?_)
   refine Wm.ite (fun h12 => absurd ((hR _ (by decide) _).symm.trans h12) (by decide)) (fun h12 => ?_)
   refine (IH .short s trivial (by omega) (by omega)).imp (fun r hr => ?_)
   rcases hr.ll (by omega) with ⟨f13, f14, f15, f16, f17⟩ | ⟨f13, f14, f15, f16⟩
   ·try simp only [ac, List.length_append, mk_len, List.length_nil, List.length_cons] at f16
    have f17 := f17 rfl
    refine PoM.mll ?_ ?_ ?_ ?_ ?_ ?_ ?_
    all_goals (try simp only [ac, dl, kp, lp, List.length_append, mk_len, List.length_nil, List.length_cons])
    all_goals first | omega | (right; omega) | (left; trivial) | trivial
   ·try simp only [ac, kp, List.length_append, mk_len, List.length_nil, List.length_cons] at f16
    refine PoM.mld ?_ ?_ ?_ ?_ ?_ ?_
    all_goals (try simp only [ac, dl, kp, lp, List.length_append, mk_len, List.length_nil, List.length_cons])
    all_goals first | omega | (right; omega) | (left; trivial) | trivial
 ·have hN := hd hb
  refine Wm.ite (fun h18 => absurd ((hR _ (by decide) _).symm.trans h18) (by decide)) (fun h18 => ?_)
  refine Wm.ite (fun h19 => absurd (isS_in (by decide) h19) (by omega)) (fun h19 => ?_)
  refine Wm.ite (fun h20 => absurd ((hR _ (by decide) _).symm.trans h20) (by decide)) (fun h20 => ?_)
  refine Wm.ite (fun h21 => absurd ((hR _ (by decide) _).symm.trans h21) (by decide)) (fun h21 => ?_)
  refine Wm.ite (fun h22 => absurd ((hR _ (by decide) _).symm.trans h22) (by decide)) (fun h22 => ?_)
  refine Wm.ite (fun h23 => absurd ((hR _ (by decide) _).symm.trans h23) (by decide)) (fun h23 => ?_)
  refine Wm.ite (fun h24 => absurd ((hR _ (by decide) _).symm.trans h24) (by decide)) (fun h24 => ?_)
  refine Wm.ite (fun h25 => absurd ((hR _ (by decide) _).symm.trans h25) (by decide)) (fun h25 => ?_)
  refine Wm.ite (fun h26 => absurd ((hR _ (by decide) _).symm.trans h26) (by decide)) (fun h26 => ?_)
  refine (IH .short s trivial (by omega) (by omega)).imp (fun r hr => ?_)
  obtain ⟨f27, f28, f29, f30⟩ := hr.dd (by omega)
  try simp only [ac, dl, List.length_append, mk_len, List.length_nil, List.length_cons] at f30
  refine PoM.mdd ?_ ?_ ?_ ?_ ?_ ?_
  all_goals (try simp only [ac, dl, kp, lp, List.length_append, mk_len, List.length_nil, List.length_cons])
  all_goals first | omega | (right; omega) | (left; trivial) | trivial
theorem p_brackets {c : Cr} (hc : c.ok) (hR : Rt c) {rec : MT → Ss → Option Mr} (IH : ∀ t s, okM c t s → s.i ≤ c.ts.length → (0 ≤ s.bad → s.i = c.ts.length) → Wm (rec t s) (PoM c t s))  (s : Ss) (hok : okM c .brackets s) (hg : s.i ≤ c.ts.length) (hd : 0 ≤ s.bad → s.i = c.ts.length) : Wm (bodyM c rec .brackets s) (PoM c .brackets s) := by
 simp only [bodyM]
 rcases Int.lt_or_le s.bad 0 with hb | hb
 ·refine Wm.bm ?_
  rcases need_l hc (s := s) (q := [40]) (by decide) (by omega) (by omega) with ⟨f1, f2, f3⟩ | ⟨f4, f5⟩
  ·refine (IH .expr (needS c s [40]) trivial (by omega) (by omega)).imp (fun x hx => ?_)
   rcases hx.ll (by omega) with ⟨f6, f7, f8, f9, f10⟩ | ⟨f6, f7, f8, f9⟩
   ·try simp only [ac, List.length_append, mk_len, List.length_nil, List.length_cons] at f9
    have f10 := f10 rfl
    rcases need_l hc (s := x.s) (q := [41]) (by decide) (by omega) (by omega) with ⟨f11, f12, f13⟩ | ⟨f14, f15⟩
    ·refine Wm.rm ?_
     refine PoM.mll ?_ ?_ ?_ ?_ ?_ ?_ ?_
     all_goals (try simp only [ac, dl, kp, lp, List.length_append, mk_len, List.length_nil, List.length_cons])
     all_goals first | omega | (right; omega) | (left; trivial) | trivial
    ·refine Wm.rm ?_
     refine PoM.mld ?_ ?_ ?_ ?_ ?_ ?_
     all_goals (try simp only [ac, dl, kp, lp, List.length_append, mk_len, List.length_nil, List.length_cons])
     all_goals first | omega | (right; omega) | (left; trivial) | trivial
   ·try simp only [ac, kp, List.length_append, mk_len, List.length_nil, List.length_cons] at f9
    obtain ⟨f16, f17, f18⟩ := need_d hc (s := x.s) (q := [41]) (by decide) (by omega) (by omega)
    refine Wm.rm ?_
    refine PoM.mld ?_ ?_ ?_ ?_ ?_ ?_
    all_goals (try simp only [ac, dl, kp, lp, List.length_append, mk_len, List.length_nil, List.length_cons])
    all_goals first | omega | (right; omega) | (left; trivial) | trivial
  ·refine (IH .expr (needS c s [40]) trivial (by omega) (by omega)).imp (fun x hx => ?_)
   obtain ⟨f19, f20, f21, f22⟩ := hx.dd (by omega)
   try simp only [ac, dl, List.length_append, mk_len, List.length_nil, List.length_cons] at f22
   obtain ⟨f24, f25, f26⟩ := need_d hc (s := x.s) (q := [41]) (by decide) (by omega) (by omega)
   refine Wm.rm ?_
   refine PoM.mld ?_ ?_ ?_ ?_ ?_ ?_
   all_goals (try simp only [ac, dl, kp, lp, List.length_append, mk_len, List.length_nil, List.length_cons])
   all_goals first | omega | (right; omega) | (left; trivial) | trivial
 ·have hN := hd hb
  refine Wm.bm ?_
  obtain ⟨f27, f28, f29⟩ := need_d hc (s := s) (q := [40]) (by decide) (by omega) (by omega)
  refine (IH .expr (needS c s [40]) trivial (by omega) (by omega)).imp (fun x hx => ?_)
  obtain ⟨f30, f31, f32, f33⟩ := hx.dd (by omega)
  try simp only [ac, dl, List.length_append, mk_len, List.length_nil, List.length_cons] at f33
  obtain ⟨f35, f36, f37⟩ := need_d hc (s := x.s) (q := [41]) (by decide) (by omega) (by omega)
  refine Wm.rm ?_
  refine PoM.mdd ?_ ?_ ?_ ?_ ?_ ?_
  all_goals (try simp only [ac, dl, kp, lp, List.length_append, mk_len, List.length_nil, List.length_cons])
  all_goals first | omega | (right; omega) | (left; trivial) | trivial
theorem p_short {c : Cr} (hc : c.ok) (hR : Rt c) {rec : MT → Ss → Option Mr} (IH : ∀ t s, okM c t s → s.i ≤ c.ts.length → (0 ≤ s.bad → s.i = c.ts.length) → Wm (rec t s) (PoM c t s))  (s : Ss) (hok : okM c .short s) (hg : s.i ≤ c.ts.length) (hd : 0 ≤ s.bad → s.i = c.ts.length) : Wm (bodyM c rec .short s) (PoM c .short s) := by
 simp only [bodyM]
 rcases Int.lt_or_le s.bad 0 with hb | hb
 ·refine Wm.ite (fun h1 => absurd ((hR _ (by decide) _).symm.trans h1) (by decide)) (fun h1 => ?_)
  refine Wm.ite (fun h2 => absurd ((hR _ (by decide) _).symm.trans h2) (by decide)) (fun h2 => ?_)
  refine Wm.ite (fun h3 => absurd ((hR _ (by decide) _).symm.trans h3) (by decide)) (fun h3 => ?_)
  refine Wm.ite (fun h4 => absurd ((hR _ (by decide) _).symm.trans h4) (by decide)) (fun h4 => ?_)
  refine Wm.bm ?_
  refine (IH .expr s trivial (by omega) (by omega)).imp (fun x hx => ?_)
  rcases hx.ll (by omega) with ⟨f5, f6, f7, f8, f9⟩ | ⟨f5, f6, f7, f8⟩
  ·try simp only [ac, List.length_append, mk_len, List.length_nil, List.length_cons] at f8
   have f9 := f9 rfl
   rcases need_l hc (s := x.s) (q := [59]) (by decide) (by omega) (by omega) with ⟨f10, f11, f12⟩ | ⟨f13, f14⟩
   ·refine Wm.rm ?_
    refine PoM.mll ?_ ?_ ?_ ?_ ?_ ?_ ?_
    all_goals (try simp only [ac, dl, kp, lp, List.length_append, mk_len, List.length_nil, List.length_cons])
    all_goals first | omega | (right; omega) | (left; trivial) | trivial
   ·refine Wm.rm ?_
    refine PoM.mld ?_ ?_ ?_ ?_ ?_ ?_
    all_goals (try simp only [ac, dl, kp, lp, List.length_append, mk_len, List.length_nil, List.length_cons])
    all_goals first | omega | (right; omega) | (left; trivial) | trivial
  ·try simp only [ac, kp, List.length_append, mk_len, List.length_nil, List.length_cons] at f8
   obtain ⟨f15, f16, f17⟩ := need_d hc (s := x.s) (q := [59]) (by decide) (by omega) (by omega)
   refine Wm.rm ?_
   refine PoM.mld ?_ ?_ ?_ ?_ ?_ ?_
   all_goals (try simp only [ac, dl, kp, lp, List.length_append, mk_len, List.length_nil, List.length_cons])
   all_goals first | omega | (right; omega) | (left; trivial) | trivial
 ·have hN := hd hb
  refine Wm.ite (fun h18 => absurd ((hR _ (by decide) _).symm.trans h18) (by decide)) (fun h18 => ?_)
  refine Wm.ite (fun h19 => absurd ((hR _ (by decide) _).symm.trans h19) (by decide)) (fun h19 => ?_)
  refine Wm.ite (fun h20 => absurd ((hR _ (by decide) _).symm.trans h20) (by decide)) (fun h20 => ?_)
  refine Wm.ite (fun h21 => absurd ((hR _ (by decide) _).symm.trans h21) (by decide)) (fun h21 => ?_)
  refine Wm.bm ?_
  refine (IH .expr s trivial (by omega) (by omega)).imp (fun x hx => ?_)
  obtain ⟨f22, f23, f24, f25⟩ := hx.dd (by omega)
  try simp only [ac, dl, List.length_append, mk_len, List.length_nil, List.length_cons] at f25
  obtain ⟨f27, f28, f29⟩ := need_d hc (s := x.s) (q := [59]) (by decide) (by omega) (by omega)
  refine Wm.rm ?_
  refine PoM.mdd ?_ ?_ ?_ ?_ ?_ ?_
  all_goals (try simp only [ac, dl, kp, lp, List.length_append, mk_len, List.length_nil, List.length_cons])
  all_goals first | omega | (right; omega) | (left; trivial) | trivial
theorem p_expr {c : Cr} (hc : c.ok) (hR : Rt c) {rec : MT → Ss → Option Mr} (IH : ∀ t s, okM c t s → s.i ≤ c.ts.length → (0 ≤ s.bad → s.i = c.ts.length) → Wm (rec t s) (PoM c t s))  (s : Ss) (hok : okM c .expr s) (hg : s.i ≤ c.ts.length) (hd : 0 ≤ s.bad → s.i = c.ts.length) : Wm (bodyM c rec .expr s) (PoM c .expr s) := by
 simp only [bodyM]
 rcases Int.lt_or_le s.bad 0 with hb | hb
 ·refine Wm.bm ?_
  refine (IH .assign s trivial (by omega) (by omega)).imp (fun x hx => ?_)
  rcases hx.ll (by omega) with ⟨f1, f2, f3, f4, f5⟩ | ⟨f1, f2, f3, f4⟩
  ·try simp only [ac, List.length_append, mk_len, List.length_nil, List.length_cons] at f4
   have f5 := f5 rfl
   refine (IH (.exprL x.l) x.s trivial (by omega) (by omega)).imp (fun r hr => ?_)
   rcases hr.ll (by omega) with ⟨f6, f7, f8, f9, f10⟩ | ⟨f6, f7, f8, f9⟩
   ·try simp only [ac, List.length_append, mk_len, List.length_nil, List.length_cons] at f9
    skip
    refine PoM.mll ?_ ?_ ?_ ?_ ?_ ?_ ?_
    all_goals (try simp only [ac, dl, kp, lp, List.length_append, mk_len, List.length_nil, List.length_cons])
    all_goals first | omega | (right; omega) | (left; trivial) | trivial
   ·try simp only [ac, kp, List.length_append, mk_len, List.length_nil, List.length_cons] at f9
    refine PoM.mld ?_ ?_ ?_ ?_ ?_ ?_
    all_goals (try simp only [ac, dl, kp, lp, List.length_append, mk_len, List.length_nil, List.length_cons])
    all_goals first | omega | (right; omega) | (left; trivial) | trivial
  ·try simp only [ac, kp, List.length_append, mk_len, List.length_nil, List.length_cons] at f4
   refine (IH (.exprL x.l) x.s trivial (by omega) (by omega)).imp (fun r hr => ?_)
   obtain ⟨f11, f12, f13, f14⟩ := hr.dd (by omega)
   try simp only [ac, dl, List.length_append, mk_len, List.length_nil, List.length_cons] at f14
   refine PoM.mld ?_ ?_ ?_ ?_ ?_ ?_
   all_goals (try simp only [ac, dl, kp, lp, List.length_append, mk_len, List.length_nil, List.length_cons])
   all_goals first | omega | (right; omega) | (left; trivial) | trivial
 ·have hN := hd hb
  refine Wm.bm ?_
  refine (IH .assign s trivial (by omega) (by omega)).imp (fun x hx => ?_)
  obtain ⟨f16, f17, f18, f19⟩ := hx.dd (by omega)
  try simp only [ac, dl, List.length_append, mk_len, List.length_nil, List.length_cons] at f19
  refine (IH (.exprL x.l) x.s trivial (by omega) (by omega)).imp (fun r hr => ?_)
  obtain ⟨f21, f22, f23, f24⟩ := hr.dd (by omega)
  try simp only [ac, dl, List.length_append, mk_len, List.length_nil, List.length_cons] at f24
  refine PoM.mdd ?_ ?_ ?_ ?_ ?_ ?_
  all_goals (try simp only [ac, dl, kp, lp, List.length_append, mk_len, List.length_nil, List.length_cons])
  all_goals first | omega | (right; omega) | (left; trivial) | trivial
theorem p_exprL {c : Cr} (hc : c.ok) (hR : Rt c) {rec : MT → Ss → Option Mr} (IH : ∀ t s, okM c t s → s.i ≤ c.ts.length → (0 ≤ s.bad → s.i = c.ts.length) → Wm (rec t s) (PoM c t s)) (x : List LN) (s : Ss) (hok : okM c (.exprL x) s) (hg : s.i ≤ c.ts.length) (hd : 0 ≤ s.bad → s.i = c.ts.length) : Wm (bodyM c rec (.exprL x) s) (PoM c (.exprL x) s) := by
 simp only [bodyM]
 rcases Int.lt_or_le s.bad 0 with hb | hb
 ·refine Wm.ite (fun h1 => ?_) (fun h1 => ?_)
  ·have f2 := (isS_in (by decide) h1)
   refine Wm.bm ?_
   obtain ⟨f3, f4⟩ := up_f s
   refine (IH .assign s.up trivial (by omega) (by omega)).imp (fun y hy => ?_)
   rcases hy.ll (by omega) with ⟨f5, f6, f7, f8, f9⟩ | ⟨f5, f6, f7, f8⟩
   ·try simp only [ac, List.length_append, mk_len, List.length_nil, List.length_cons] at f8
    have f9 := f9 rfl
    refine (IH (.exprL (mkL 42 [] 2 (x ++ y.l))) y.s trivial (by omega) (by omega)).imp (fun r hr => ?_)
    rcases hr.ll (by omega) with ⟨f10, f11, f12, f13, f14⟩ | ⟨f10, f11, f12, f13⟩
    ·try simp only [ac, List.length_append, mk_len, List.length_nil, List.length_cons] at f13
     skip
     refine PoM.mll ?_ ?_ ?_ ?_ ?_ ?_ ?_
     all_goals (try simp only [ac, dl, kp, lp, List.length_append, mk_len, List.length_nil, List.length_cons])
     all_goals first | omega | (right; omega) | (left; trivial) | trivial
    ·try simp only [ac, kp, List.length_append, mk_len, List.length_nil, List.length_cons] at f13
     refine PoM.mld ?_ ?_ ?_ ?_ ?_ ?_
     all_goals (try simp only [ac, dl, kp, lp, List.length_append, mk_len, List.length_nil, List.length_cons])
     all_goals first | omega | (right; omega) | (left; trivial) | trivial
   ·try simp only [ac, kp, List.length_append, mk_len, List.length_nil, List.length_cons] at f8
    refine (IH (.exprL (mkL 42 [] 2 (x ++ y.l))) y.s trivial (by omega) (by omega)).imp (fun r hr => ?_)
    obtain ⟨f15, f16, f17, f18⟩ := hr.dd (by omega)
    try simp only [ac, dl, List.length_append, mk_len, List.length_nil, List.length_cons] at f18
    refine PoM.mld ?_ ?_ ?_ ?_ ?_ ?_
    all_goals (try simp only [ac, dl, kp, lp, List.length_append, mk_len, List.length_nil, List.length_cons])
    all_goals first | omega | (right; omega) | (left; trivial) | trivial
  ·refine Wm.rm ?_
   refine PoM.mll ?_ ?_ ?_ ?_ ?_ ?_ ?_
   all_goals (try simp only [ac, dl, kp, lp, List.length_append, mk_len, List.length_nil, List.length_cons])
   all_goals first | omega | (right; omega) | (left; trivial) | trivial
 ·have hN := hd hb
  refine Wm.ite (fun h20 => absurd (isS_in (by decide) h20) (by omega)) (fun h20 => ?_)
  refine Wm.rm ?_
  refine PoM.mdd ?_ ?_ ?_ ?_ ?_ ?_
  all_goals (try simp only [ac, dl, kp, lp, List.length_append, mk_len, List.length_nil, List.length_cons])
  all_goals first | omega | (right; omega) | (left; trivial) | trivial
theorem p_assign {c : Cr} (hc : c.ok) (hR : Rt c) {rec : MT → Ss → Option Mr} (IH : ∀ t s, okM c t s → s.i ≤ c.ts.length → (0 ≤ s.bad → s.i = c.ts.length) → Wm (rec t s) (PoM c t s))  (s : Ss) (hok : okM c .assign s) (hg : s.i ≤ c.ts.length) (hd : 0 ≤ s.bad → s.i = c.ts.length) : Wm (bodyM c rec .assign s) (PoM c .assign s) := by
 simp only [bodyM]
 rcases Int.lt_or_le s.bad 0 with hb | hb
 ·refine Wm.bm ?_
  refine (IH .cond s trivial (by omega) (by omega)).imp (fun x hx => ?_)
  rcases hx.ll (by omega) with ⟨f1, f2, f3, f4, f5⟩ | ⟨f1, f2, f3, f4⟩
  ·try simp only [ac, List.length_append, mk_len, List.length_nil, List.length_cons] at f4
   have f5 := f5 rfl
   refine Wm.ite (fun h6 => ?_) (fun h6 => ?_)
   ·have f7 := (setsR_in h6)
    refine Wm.ite (fun h8 => ?_) (fun h8 => ?_)
    ·refine Wm.bm ?_
     obtain ⟨f9, f10⟩ := up_f x.s
     refine (IH .assign x.s.up trivial (by omega) (by omega)).imp (fun y hy => ?_)
     rcases hy.ll (by omega) with ⟨f11, f12, f13, f14, f15⟩ | ⟨f11, f12, f13, f14⟩
     ·try simp only [ac, List.length_append, mk_len, List.length_nil, List.length_cons] at f14
      have f15 := f15 rfl
      refine Wm.rm ?_
      refine PoM.mll ?_ ?_ ?_ ?_ ?_ ?_ ?_
      all_goals (try simp only [ac, dl, kp, lp, List.length_append, mk_len, List.length_nil, List.length_cons])
      all_goals first | omega | (right; omega) | (left; trivial) | trivial
     ·try simp only [ac, kp, List.length_append, mk_len, List.length_nil, List.length_cons] at f14
      refine Wm.rm ?_
      refine PoM.mld ?_ ?_ ?_ ?_ ?_ ?_
      all_goals (try simp only [ac, dl, kp, lp, List.length_append, mk_len, List.length_nil, List.length_cons])
      all_goals first | omega | (right; omega) | (left; trivial) | trivial
    ·obtain ⟨f16, f17⟩ := stop_l hc (s := x.s) (by omega) (by omega)
     refine Wm.rm ?_
     refine PoM.mld ?_ ?_ ?_ ?_ ?_ ?_
     all_goals (try simp only [ac, dl, kp, lp, List.length_append, mk_len, List.length_nil, List.length_cons])
     all_goals first | omega | (right; omega) | (left; trivial) | trivial
   ·refine Wm.rm ?_
    refine PoM.mll ?_ ?_ ?_ ?_ ?_ ?_ ?_
    all_goals (try simp only [ac, dl, kp, lp, List.length_append, mk_len, List.length_nil, List.length_cons])
    all_goals first | omega | (right; omega) | (left; trivial) | trivial
  ·try simp only [ac, kp, List.length_append, mk_len, List.length_nil, List.length_cons] at f4
   refine Wm.ite (fun h18 => absurd (setsR_in h18) (by omega)) (fun h18 => ?_)
   refine Wm.rm ?_
   refine PoM.mld ?_ ?_ ?_ ?_ ?_ ?_
   all_goals (try simp only [ac, dl, kp, lp, List.length_append, mk_len, List.length_nil, List.length_cons])
   all_goals first | omega | (right; omega) | (left; trivial) | trivial
 ·have hN := hd hb
  refine Wm.bm ?_
  refine (IH .cond s trivial (by omega) (by omega)).imp (fun x hx => ?_)
  obtain ⟨f19, f20, f21, f22⟩ := hx.dd (by omega)
  try simp only [ac, dl, List.length_append, mk_len, List.length_nil, List.length_cons] at f22
  refine Wm.ite (fun h24 => absurd (setsR_in h24) (by omega)) (fun h24 => ?_)
  refine Wm.rm ?_
  refine PoM.mdd ?_ ?_ ?_ ?_ ?_ ?_
  all_goals (try simp only [ac, dl, kp, lp, List.length_append, mk_len, List.length_nil, List.length_cons])
  all_goals first | omega | (right; omega) | (left; trivial) | trivial
theorem p_cond {c : Cr} (hc : c.ok) (hR : Rt c) {rec : MT → Ss → Option Mr} (IH : ∀ t s, okM c t s → s.i ≤ c.ts.length → (0 ≤ s.bad → s.i = c.ts.length) → Wm (rec t s) (PoM c t s))  (s : Ss) (hok : okM c .cond s) (hg : s.i ≤ c.ts.length) (hd : 0 ≤ s.bad → s.i = c.ts.length) : Wm (bodyM c rec .cond s) (PoM c .cond s) := by
 simp only [bodyM]
 rcases Int.lt_or_le s.bad 0 with hb | hb
 ·refine Wm.bm ?_
  refine (IH (.binary 1) s trivial (by omega) (by omega)).imp (fun x hx => ?_)
  rcases hx.ll (by omega) with ⟨f1, f2, f3, f4, f5⟩ | ⟨f1, f2, f3, f4⟩
  ·try simp only [ac, List.length_append, mk_len, List.length_nil, List.length_cons] at f4
   have f5 := f5 rfl
   refine Wm.ite (fun h6 => absurd ((hR _ (by decide) _).symm.trans h6) (by decide)) (fun h6 => ?_)
   refine Wm.rm ?_
   refine PoM.mll ?_ ?_ ?_ ?_ ?_ ?_ ?_
   all_goals (try simp only [ac, dl, kp, lp, List.length_append, mk_len, List.length_nil, List.length_cons])
   all_goals first | omega | (right; omega) | (left; trivial) | trivial
  ·try simp only [ac, kp, List.length_append, mk_len, List.length_nil, List.length_cons] at f4
   refine Wm.ite (fun h7 => absurd ((hR _ (by decide) _).symm.trans h7) (by decide)) (fun h7 => ?_)
   refine Wm.rm ?_
   refine PoM.mld ?_ ?_ ?_ ?_ ?_ ?_
   all_goals (try simp only [ac, dl, kp, lp, List.length_append, mk_len, List.length_nil, List.length_cons])
   all_goals first | omega | (right; omega) | (left; trivial) | trivial
 ·have hN := hd hb
  refine Wm.bm ?_
  refine (IH (.binary 1) s trivial (by omega) (by omega)).imp (fun x hx => ?_)
  obtain ⟨f8, f9, f10, f11⟩ := hx.dd (by omega)
  try simp only [ac, dl, List.length_append, mk_len, List.length_nil, List.length_cons] at f11
  refine Wm.ite (fun h13 => absurd ((hR _ (by decide) _).symm.trans h13) (by decide)) (fun h13 => ?_)
  refine Wm.rm ?_
  refine PoM.mdd ?_ ?_ ?_ ?_ ?_ ?_
  all_goals (try simp only [ac, dl, kp, lp, List.length_append, mk_len, List.length_nil, List.length_cons])
  all_goals first | omega | (right; omega) | (left; trivial) | trivial
theorem p_binary {c : Cr} (hc : c.ok) (hR : Rt c) {rec : MT → Ss → Option Mr} (IH : ∀ t s, okM c t s → s.i ≤ c.ts.length → (0 ≤ s.bad → s.i = c.ts.length) → Wm (rec t s) (PoM c t s)) (least : Int) (s : Ss) (hok : okM c (.binary least) s) (hg : s.i ≤ c.ts.length) (hd : 0 ≤ s.bad → s.i = c.ts.length) : Wm (bodyM c rec (.binary least) s) (PoM c (.binary least) s) := by
 simp only [bodyM]
 rcases Int.lt_or_le s.bad 0 with hb | hb
 ·refine Wm.bm ?_
  refine (IH .unary s trivial (by omega) (by omega)).imp (fun x hx => ?_)
  rcases hx.ll (by omega) with ⟨f1, f2, f3, f4, f5⟩ | ⟨f1, f2, f3, f4⟩
  ·try simp only [ac, List.length_append, mk_len, List.length_nil, List.length_cons] at f4
   have f5 := f5 rfl
   refine (IH (.binL least x.l) x.s trivial (by omega) (by omega)).imp (fun r hr => ?_)
   rcases hr.ll (by omega) with ⟨f6, f7, f8, f9, f10⟩ | ⟨f6, f7, f8, f9⟩
   ·try simp only [ac, List.length_append, mk_len, List.length_nil, List.length_cons] at f9
    skip
    refine PoM.mll ?_ ?_ ?_ ?_ ?_ ?_ ?_
    all_goals (try simp only [ac, dl, kp, lp, List.length_append, mk_len, List.length_nil, List.length_cons])
    all_goals first | omega | (right; omega) | (left; trivial) | trivial
   ·try simp only [ac, kp, List.length_append, mk_len, List.length_nil, List.length_cons] at f9
    refine PoM.mld ?_ ?_ ?_ ?_ ?_ ?_
    all_goals (try simp only [ac, dl, kp, lp, List.length_append, mk_len, List.length_nil, List.length_cons])
    all_goals first | omega | (right; omega) | (left; trivial) | trivial
  ·try simp only [ac, kp, List.length_append, mk_len, List.length_nil, List.length_cons] at f4
   refine (IH (.binL least x.l) x.s trivial (by omega) (by omega)).imp (fun r hr => ?_)
   obtain ⟨f11, f12, f13, f14⟩ := hr.dd (by omega)
   try simp only [ac, dl, List.length_append, mk_len, List.length_nil, List.length_cons] at f14
   refine PoM.mld ?_ ?_ ?_ ?_ ?_ ?_
   all_goals (try simp only [ac, dl, kp, lp, List.length_append, mk_len, List.length_nil, List.length_cons])
   all_goals first | omega | (right; omega) | (left; trivial) | trivial
 ·have hN := hd hb
  refine Wm.bm ?_
  refine (IH .unary s trivial (by omega) (by omega)).imp (fun x hx => ?_)
  obtain ⟨f16, f17, f18, f19⟩ := hx.dd (by omega)
  try simp only [ac, dl, List.length_append, mk_len, List.length_nil, List.length_cons] at f19
  refine (IH (.binL least x.l) x.s trivial (by omega) (by omega)).imp (fun r hr => ?_)
  obtain ⟨f21, f22, f23, f24⟩ := hr.dd (by omega)
  try simp only [ac, dl, List.length_append, mk_len, List.length_nil, List.length_cons] at f24
  refine PoM.mdd ?_ ?_ ?_ ?_ ?_ ?_
  all_goals (try simp only [ac, dl, kp, lp, List.length_append, mk_len, List.length_nil, List.length_cons])
  all_goals first | omega | (right; omega) | (left; trivial) | trivial
theorem p_binL {c : Cr} (hc : c.ok) (hR : Rt c) {rec : MT → Ss → Option Mr} (IH : ∀ t s, okM c t s → s.i ≤ c.ts.length → (0 ≤ s.bad → s.i = c.ts.length) → Wm (rec t s) (PoM c t s)) (least : Int) (x : List LN) (s : Ss) (hok : okM c (.binL least x) s) (hg : s.i ≤ c.ts.length) (hd : 0 ≤ s.bad → s.i = c.ts.length) : Wm (bodyM c rec (.binL least x) s) (PoM c (.binL least x) s) := by
 simp only [bodyM]
 rcases Int.lt_or_le s.bad 0 with hb | hb
 ·refine Wm.ite (fun h1 => ?_) (fun h1 => absurd h1 (by omega))
  refine Wm.ite (fun h2 => ?_) (fun h2 => ?_)
  ·refine Wm.rm ?_
   refine PoM.mll ?_ ?_ ?_ ?_ ?_ ?_ ?_
   all_goals (try simp only [ac, dl, kp, lp, List.length_append, mk_len, List.length_nil, List.length_cons])
   all_goals first | omega | (right; omega) | (left; trivial) | trivial
  ·have f3 := levR_in h2
   refine Wm.bm ?_
   obtain ⟨f4, f5⟩ := up_f s
   refine (IH (.binary (levelI (fx (c.T s.i)) + 1)) s.up trivial (by omega) (by omega)).imp (fun y hy => ?_)
   rcases hy.ll (by omega) with ⟨f6, f7, f8, f9, f10⟩ | ⟨f6, f7, f8, f9⟩
   ·try simp only [ac, List.length_append, mk_len, List.length_nil, List.length_cons] at f9
    have f10 := f10 rfl
    refine (IH (.binL least (mkL (if levelI (fx (c.T s.i)) ≤ 2 then 39 else 38) (fx (c.T s.i)) 2 (x ++ y.l))) y.s trivial (by omega) (by omega)).imp (fun r hr => ?_)
    rcases hr.ll (by omega) with ⟨f11, f12, f13, f14, f15⟩ | ⟨f11, f12, f13, f14⟩
    ·try simp only [ac, List.length_append, mk_len, List.length_nil, List.length_cons] at f14
     skip
     refine PoM.mll ?_ ?_ ?_ ?_ ?_ ?_ ?_
     all_goals (try simp only [ac, dl, kp, lp, List.length_append, mk_len, List.length_nil, List.length_cons])
     all_goals first | omega | (right; omega) | (left; trivial) | trivial
    ·try simp only [ac, kp, List.length_append, mk_len, List.length_nil, List.length_cons] at f14
     refine PoM.mld ?_ ?_ ?_ ?_ ?_ ?_
     all_goals (try simp only [ac, dl, kp, lp, List.length_append, mk_len, List.length_nil, List.length_cons])
     all_goals first | omega | (right; omega) | (left; trivial) | trivial
   ·try simp only [ac, kp, List.length_append, mk_len, List.length_nil, List.length_cons] at f9
    refine (IH (.binL least (mkL (if levelI (fx (c.T s.i)) ≤ 2 then 39 else 38) (fx (c.T s.i)) 2 (x ++ y.l))) y.s trivial (by omega) (by omega)).imp (fun r hr => ?_)
    obtain ⟨f16, f17, f18, f19⟩ := hr.dd (by omega)
    try simp only [ac, dl, List.length_append, mk_len, List.length_nil, List.length_cons] at f19
    refine PoM.mld ?_ ?_ ?_ ?_ ?_ ?_
    all_goals (try simp only [ac, dl, kp, lp, List.length_append, mk_len, List.length_nil, List.length_cons])
    all_goals first | omega | (right; omega) | (left; trivial) | trivial
 ·have hN := hd hb
  refine Wm.ite (fun h21 => absurd h21 (by omega)) (fun h21 => ?_)
  refine Wm.rm ?_
  refine PoM.mdd ?_ ?_ ?_ ?_ ?_ ?_
  all_goals (try simp only [ac, dl, kp, lp, List.length_append, mk_len, List.length_nil, List.length_cons])
  all_goals first | omega | (right; omega) | (left; trivial) | trivial
theorem p_unary {c : Cr} (hc : c.ok) (hR : Rt c) {rec : MT → Ss → Option Mr} (IH : ∀ t s, okM c t s → s.i ≤ c.ts.length → (0 ≤ s.bad → s.i = c.ts.length) → Wm (rec t s) (PoM c t s))  (s : Ss) (hok : okM c .unary s) (hg : s.i ≤ c.ts.length) (hd : 0 ≤ s.bad → s.i = c.ts.length) : Wm (bodyM c rec .unary s) (PoM c .unary s) := by
 simp only [bodyM]
 rcases Int.lt_or_le s.bad 0 with hb | hb
 ·refine Wm.ite (fun h1 => ?_) (fun h1 => ?_)
  ·have f2 := (preR_in h1)
   refine Wm.bm ?_
   obtain ⟨f3, f4⟩ := up_f s
   refine (IH .unary s.up trivial (by omega) (by omega)).imp (fun x hx => ?_)
   rcases hx.ll (by omega) with ⟨f5, f6, f7, f8, f9⟩ | ⟨f5, f6, f7, f8⟩
   ·try simp only [ac, List.length_append, mk_len, List.length_nil, List.length_cons] at f8
    have f9 := f9 rfl
    refine Wm.rm ?_
    refine PoM.mll ?_ ?_ ?_ ?_ ?_ ?_ ?_
    all_goals (try simp only [ac, dl, kp, lp, List.length_append, mk_len, List.length_nil, List.length_cons])
    all_goals first | omega | (right; omega) | (left; trivial) | trivial
   ·try simp only [ac, kp, List.length_append, mk_len, List.length_nil, List.length_cons] at f8
    refine Wm.rm ?_
    refine PoM.mld ?_ ?_ ?_ ?_ ?_ ?_
    all_goals (try simp only [ac, dl, kp, lp, List.length_append, mk_len, List.length_nil, List.length_cons])
    all_goals first | omega | (right; omega) | (left; trivial) | trivial
  ·refine Wm.ite (fun h10 => ?_) (fun h10 => ?_)
   ·have f11 := (stepR_in h10)
    refine Wm.bm ?_
    obtain ⟨f12, f13⟩ := up_f s
    refine (IH .unary s.up trivial (by omega) (by omega)).imp (fun x hx => ?_)
    rcases hx.ll (by omega) with ⟨f14, f15, f16, f17, f18⟩ | ⟨f14, f15, f16, f17⟩
    ·try simp only [ac, List.length_append, mk_len, List.length_nil, List.length_cons] at f17
     have f18 := f18 rfl
     refine Wm.ite (fun h19 => ?_) (fun h19 => ?_)
     ·have f20 : (Ss.mk s.i x.s.bad).i = s.i ∧ (Ss.mk s.i x.s.bad).bad = x.s.bad := ⟨rfl, rfl⟩
      obtain ⟨f21, f22⟩ := stop_l hc (s := ⟨s.i, x.s.bad⟩) (by omega) (by omega)
      refine Wm.rm ?_
      refine PoM.mld ?_ ?_ ?_ ?_ ?_ ?_
      all_goals (try simp only [ac, dl, kp, lp, List.length_append, mk_len, List.length_nil, List.length_cons])
      all_goals first | omega | (right; omega) | (left; trivial) | trivial
     ·refine Wm.rm ?_
      refine PoM.mll ?_ ?_ ?_ ?_ ?_ ?_ ?_
      all_goals (try simp only [ac, dl, kp, lp, List.length_append, mk_len, List.length_nil, List.length_cons])
      all_goals first | omega | (right; omega) | (left; trivial) | trivial
    ·try simp only [ac, kp, List.length_append, mk_len, List.length_nil, List.length_cons] at f17
     refine Wm.ite (fun h23 => absurd h23.1 (by omega)) (fun h23 => ?_)
     refine Wm.rm ?_
     refine PoM.mld ?_ ?_ ?_ ?_ ?_ ?_
     all_goals (try simp only [ac, dl, kp, lp, List.length_append, mk_len, List.length_nil, List.length_cons])
     all_goals first | omega | (right; omega) | (left; trivial) | trivial
   ·refine Wm.bm ?_
    refine (IH .first s trivial (by omega) (by omega)).imp (fun f hf => ?_)
    rcases hf.ll (by omega) with ⟨f24, f25, f26, f27, f28⟩ | ⟨f24, f25, f26, f27⟩
    ·try simp only [ac, List.length_append, mk_len, List.length_nil, List.length_cons] at f27
     have f28 := f28 rfl
     refine Wm.bm ?_
     refine (IH (.behind f.l true) f.s trivial (by omega) (by omega)).imp (fun x hx => ?_)
     rcases hx.ll (by omega) with ⟨f29, f30, f31, f32, f33⟩ | ⟨f29, f30, f31, f32⟩
     ·try simp only [ac, List.length_append, mk_len, List.length_nil, List.length_cons] at f32
      skip
      refine Wm.ite (fun h34 => ?_) (fun h34 => ?_)
      ·have f35 := (stepR_in h34)
       refine Wm.ite (fun h36 => ?_) (fun h36 => ?_)
       ·obtain ⟨f37, f38⟩ := up_f x.s
        refine Wm.rm ?_
        refine PoM.mll ?_ ?_ ?_ ?_ ?_ ?_ ?_
        all_goals (try simp only [ac, dl, kp, lp, List.length_append, mk_len, List.length_nil, List.length_cons])
        all_goals first | omega | (right; omega) | (left; trivial) | trivial
       ·obtain ⟨f39, f40⟩ := stop_l hc (s := x.s) (by omega) (by omega)
        refine Wm.rm ?_
        refine PoM.mld ?_ ?_ ?_ ?_ ?_ ?_
        all_goals (try simp only [ac, dl, kp, lp, List.length_append, mk_len, List.length_nil, List.length_cons])
        all_goals first | omega | (right; omega) | (left; trivial) | trivial
      ·refine Wm.rm ?_
       refine PoM.mll ?_ ?_ ?_ ?_ ?_ ?_ ?_
       all_goals (try simp only [ac, dl, kp, lp, List.length_append, mk_len, List.length_nil, List.length_cons])
       all_goals first | omega | (right; omega) | (left; trivial) | trivial
     ·try simp only [ac, kp, List.length_append, mk_len, List.length_nil, List.length_cons] at f32
      refine Wm.ite (fun h41 => absurd (stepR_in h41) (by omega)) (fun h41 => ?_)
      refine Wm.rm ?_
      refine PoM.mld ?_ ?_ ?_ ?_ ?_ ?_
      all_goals (try simp only [ac, dl, kp, lp, List.length_append, mk_len, List.length_nil, List.length_cons])
      all_goals first | omega | (right; omega) | (left; trivial) | trivial
    ·try simp only [ac, kp, List.length_append, mk_len, List.length_nil, List.length_cons] at f27
     refine Wm.bm ?_
     refine (IH (.behind f.l true) f.s trivial (by omega) (by omega)).imp (fun x hx => ?_)
     obtain ⟨f42, f43, f44, f45⟩ := hx.dd (by omega)
     try simp only [ac, dl, List.length_append, mk_len, List.length_nil, List.length_cons] at f45
     refine Wm.ite (fun h47 => absurd (stepR_in h47) (by omega)) (fun h47 => ?_)
     refine Wm.rm ?_
     refine PoM.mld ?_ ?_ ?_ ?_ ?_ ?_
     all_goals (try simp only [ac, dl, kp, lp, List.length_append, mk_len, List.length_nil, List.length_cons])
     all_goals first | omega | (right; omega) | (left; trivial) | trivial
 ·have hN := hd hb
  refine Wm.ite (fun h48 => absurd (preR_in h48) (by omega)) (fun h48 => ?_)
  refine Wm.ite (fun h49 => absurd (stepR_in h49) (by omega)) (fun h49 => ?_)
  refine Wm.bm ?_
  refine (IH .first s trivial (by omega) (by omega)).imp (fun f hf => ?_)
  obtain ⟨f50, f51, f52, f53⟩ := hf.dd (by omega)
  try simp only [ac, dl, List.length_append, mk_len, List.length_nil, List.length_cons] at f53
  refine Wm.bm ?_
  refine (IH (.behind f.l true) f.s trivial (by omega) (by omega)).imp (fun x hx => ?_)
  obtain ⟨f55, f56, f57, f58⟩ := hx.dd (by omega)
  try simp only [ac, dl, List.length_append, mk_len, List.length_nil, List.length_cons] at f58
  refine Wm.ite (fun h60 => absurd (stepR_in h60) (by omega)) (fun h60 => ?_)
  refine Wm.rm ?_
  refine PoM.mdd ?_ ?_ ?_ ?_ ?_ ?_
  all_goals (try simp only [ac, dl, kp, lp, List.length_append, mk_len, List.length_nil, List.length_cons])
  all_goals first | omega | (right; omega) | (left; trivial) | trivial
theorem p_first {c : Cr} (hc : c.ok) (hR : Rt c) {rec : MT → Ss → Option Mr} (IH : ∀ t s, okM c t s → s.i ≤ c.ts.length → (0 ≤ s.bad → s.i = c.ts.length) → Wm (rec t s) (PoM c t s))  (s : Ss) (hok : okM c .first s) (hg : s.i ≤ c.ts.length) (hd : 0 ≤ s.bad → s.i = c.ts.length) : Wm (bodyM c rec .first s) (PoM c .first s) := by
 simp only [bodyM]
 rcases Int.lt_or_le s.bad 0 with hb | hb
 ·refine Wm.ite (fun h1 => absurd ((hR _ (by decide) _).symm.trans h1) (by decide)) (fun h1 => ?_)
  refine (IH .primary s trivial (by omega) (by omega)).imp (fun r hr => ?_)
  rcases hr.ll (by omega) with ⟨f2, f3, f4, f5, f6⟩ | ⟨f2, f3, f4, f5⟩
  ·try simp only [ac, List.length_append, mk_len, List.length_nil, List.length_cons] at f5
   have f6 := f6 rfl
   refine PoM.mll ?_ ?_ ?_ ?_ ?_ ?_ ?_
   all_goals (try simp only [ac, dl, kp, lp, List.length_append, mk_len, List.length_nil, List.length_cons])
   all_goals first | omega | (right; omega) | (left; trivial) | trivial
  ·try simp only [ac, kp, List.length_append, mk_len, List.length_nil, List.length_cons] at f5
   refine PoM.mld ?_ ?_ ?_ ?_ ?_ ?_
   all_goals (try simp only [ac, dl, kp, lp, List.length_append, mk_len, List.length_nil, List.length_cons])
   all_goals first | omega | (right; omega) | (left; trivial) | trivial
 ·have hN := hd hb
  refine Wm.ite (fun h7 => absurd ((hR _ (by decide) _).symm.trans h7) (by decide)) (fun h7 => ?_)
  refine (IH .primary s trivial (by omega) (by omega)).imp (fun r hr => ?_)
  obtain ⟨f8, f9, f10, f11⟩ := hr.dd (by omega)
  try simp only [ac, dl, List.length_append, mk_len, List.length_nil, List.length_cons] at f11
  refine PoM.mdd ?_ ?_ ?_ ?_ ?_ ?_
  all_goals (try simp only [ac, dl, kp, lp, List.length_append, mk_len, List.length_nil, List.length_cons])
  all_goals first | omega | (right; omega) | (left; trivial) | trivial
theorem p_behind {c : Cr} (hc : c.ok) (hR : Rt c) {rec : MT → Ss → Option Mr} (IH : ∀ t s, okM c t s → s.i ≤ c.ts.length → (0 ≤ s.bad → s.i = c.ts.length) → Wm (rec t s) (PoM c t s)) (x : List LN) (calls : Bool) (s : Ss) (hok : okM c (.behind x calls) s) (hg : s.i ≤ c.ts.length) (hd : 0 ≤ s.bad → s.i = c.ts.length) : Wm (bodyM c rec (.behind x calls) s) (PoM c (.behind x calls) s) := by
 simp only [bodyM]
 rcases Int.lt_or_le s.bad 0 with hb | hb
 ·refine Wm.ite (fun h1 => ?_) (fun h1 => absurd h1 (by omega))
  refine Wm.ite (fun h2 => ?_) (fun h2 => ?_)
  ·have f3 := (isS_in (by decide) h2)
   obtain ⟨f4, f5⟩ := up_f s
   rcases key_l hc (s := s.up) (by omega) (by omega) with ⟨f6, f7, f8⟩ | ⟨f9, f10⟩
   ·refine (IH (.behind (mkL 32 (keyS c s.up).1 1 x) calls) (keyS c s.up).2 trivial (by omega) (by omega)).imp (fun r hr => ?_)
    rcases hr.ll (by omega) with ⟨f11, f12, f13, f14, f15⟩ | ⟨f11, f12, f13, f14⟩
    ·try simp only [ac, List.length_append, mk_len, List.length_nil, List.length_cons] at f14
     skip
     refine PoM.mll ?_ ?_ ?_ ?_ ?_ ?_ ?_
     all_goals (try simp only [ac, dl, kp, lp, List.length_append, mk_len, List.length_nil, List.length_cons])
     all_goals first | omega | (right; omega) | (left; trivial) | trivial
    ·try simp only [ac, kp, List.length_append, mk_len, List.length_nil, List.length_cons] at f14
     refine PoM.mld ?_ ?_ ?_ ?_ ?_ ?_
     all_goals (try simp only [ac, dl, kp, lp, List.length_append, mk_len, List.length_nil, List.length_cons])
     all_goals first | omega | (right; omega) | (left; trivial) | trivial
   ·refine (IH (.behind (mkL 32 (keyS c s.up).1 1 x) calls) (keyS c s.up).2 trivial (by omega) (by omega)).imp (fun r hr => ?_)
    obtain ⟨f16, f17, f18, f19⟩ := hr.dd (by omega)
    try simp only [ac, dl, List.length_append, mk_len, List.length_nil, List.length_cons] at f19
    refine PoM.mld ?_ ?_ ?_ ?_ ?_ ?_
    all_goals (try simp only [ac, dl, kp, lp, List.length_append, mk_len, List.length_nil, List.length_cons])
    all_goals first | omega | (right; omega) | (left; trivial) | trivial
  ·refine Wm.ite (fun h21 => ?_) (fun h21 => ?_)
   ·have f22 := (isS_in (by decide) h21)
    refine Wm.bm ?_
    obtain ⟨f23, f24⟩ := up_f s
    refine (IH .expr s.up trivial (by omega) (by omega)).imp (fun y hy => ?_)
    rcases hy.ll (by omega) with ⟨f25, f26, f27, f28, f29⟩ | ⟨f25, f26, f27, f28⟩
    ·try simp only [ac, List.length_append, mk_len, List.length_nil, List.length_cons] at f28
     have f29 := f29 rfl
     rcases need_l hc (s := y.s) (q := [93]) (by decide) (by omega) (by omega) with ⟨f30, f31, f32⟩ | ⟨f33, f34⟩
     ·refine (IH (.behind (mkL 33 [] 2 (x ++ y.l)) calls) (needS c y.s [93]) trivial (by omega) (by omega)).imp (fun r hr => ?_)
      rcases hr.ll (by omega) with ⟨f35, f36, f37, f38, f39⟩ | ⟨f35, f36, f37, f38⟩
      ·try simp only [ac, List.length_append, mk_len, List.length_nil, List.length_cons] at f38
       skip
       refine PoM.mll ?_ ?_ ?_ ?_ ?_ ?_ ?_
       all_goals (try simp only [ac, dl, kp, lp, List.length_append, mk_len, List.length_nil, List.length_cons])
       all_goals first | omega | (right; omega) | (left; trivial) | trivial
      ·try simp only [ac, kp, List.length_append, mk_len, List.length_nil, List.length_cons] at f38
       refine PoM.mld ?_ ?_ ?_ ?_ ?_ ?_
       all_goals (try simp only [ac, dl, kp, lp, List.length_append, mk_len, List.length_nil, List.length_cons])
       all_goals first | omega | (right; omega) | (left; trivial) | trivial
     ·refine (IH (.behind (mkL 33 [] 2 (x ++ y.l)) calls) (needS c y.s [93]) trivial (by omega) (by omega)).imp (fun r hr => ?_)
      obtain ⟨f40, f41, f42, f43⟩ := hr.dd (by omega)
      try simp only [ac, dl, List.length_append, mk_len, List.length_nil, List.length_cons] at f43
      refine PoM.mld ?_ ?_ ?_ ?_ ?_ ?_
      all_goals (try simp only [ac, dl, kp, lp, List.length_append, mk_len, List.length_nil, List.length_cons])
      all_goals first | omega | (right; omega) | (left; trivial) | trivial
    ·try simp only [ac, kp, List.length_append, mk_len, List.length_nil, List.length_cons] at f28
     obtain ⟨f45, f46, f47⟩ := need_d hc (s := y.s) (q := [93]) (by decide) (by omega) (by omega)
     refine (IH (.behind (mkL 33 [] 2 (x ++ y.l)) calls) (needS c y.s [93]) trivial (by omega) (by omega)).imp (fun r hr => ?_)
     obtain ⟨f48, f49, f50, f51⟩ := hr.dd (by omega)
     try simp only [ac, dl, List.length_append, mk_len, List.length_nil, List.length_cons] at f51
     refine PoM.mld ?_ ?_ ?_ ?_ ?_ ?_
     all_goals (try simp only [ac, dl, kp, lp, List.length_append, mk_len, List.length_nil, List.length_cons])
     all_goals first | omega | (right; omega) | (left; trivial) | trivial
   ·refine Wm.ite (fun h53 => ?_) (fun h53 => ?_)
    ·have f54 := (isS_in (by decide) h53.2)
     refine Wm.bm ?_
     obtain ⟨f55, f56⟩ := up_f s
     refine (IH (.list [41]) s.up (by first | exact ho | (show _ ≠ _; decide)) (by omega) (by omega)).imp (fun l hl => ?_)
     rcases hl.ll (by omega) with ⟨f57, f58, f59, f60, f61⟩ | ⟨f57, f58, f59, f60⟩
     ·try simp only [ac, List.length_append, mk_len, List.length_nil, List.length_cons] at f60
      have f61 := f61 rfl
      refine (IH (.behind (mkL 34 [] (1 + l.n) (x ++ l.l)) calls) l.s trivial (by omega) (by omega)).imp (fun r hr => ?_)
      rcases hr.ll (by omega) with ⟨f62, f63, f64, f65, f66⟩ | ⟨f62, f63, f64, f65⟩
      ·try simp only [ac, List.length_append, mk_len, List.length_nil, List.length_cons] at f65
       skip
       refine PoM.mll ?_ ?_ ?_ ?_ ?_ ?_ ?_
       all_goals (try simp only [ac, dl, kp, lp, List.length_append, mk_len, List.length_nil, List.length_cons])
       all_goals first | omega | (right; omega) | (left; trivial) | trivial
      ·try simp only [ac, kp, List.length_append, mk_len, List.length_nil, List.length_cons] at f65
       refine PoM.mld ?_ ?_ ?_ ?_ ?_ ?_
       all_goals (try simp only [ac, dl, kp, lp, List.length_append, mk_len, List.length_nil, List.length_cons])
       all_goals first | omega | (right; omega) | (left; trivial) | trivial
     ·try simp only [ac, kp, List.length_append, mk_len, List.length_nil, List.length_cons] at f60
      refine (IH (.behind (mkL 34 [] (1 + l.n) (x ++ l.l)) calls) l.s trivial (by omega) (by omega)).imp (fun r hr => ?_)
      obtain ⟨f67, f68, f69, f70⟩ := hr.dd (by omega)
      try simp only [ac, dl, List.length_append, mk_len, List.length_nil, List.length_cons] at f70
      refine PoM.mld ?_ ?_ ?_ ?_ ?_ ?_
      all_goals (try simp only [ac, dl, kp, lp, List.length_append, mk_len, List.length_nil, List.length_cons])
      all_goals first | omega | (right; omega) | (left; trivial) | trivial
    ·refine Wm.rm ?_
     refine PoM.mll ?_ ?_ ?_ ?_ ?_ ?_ ?_
     all_goals (try simp only [ac, dl, kp, lp, List.length_append, mk_len, List.length_nil, List.length_cons])
     all_goals first | omega | (right; omega) | (left; trivial) | trivial
 ·have hN := hd hb
  refine Wm.ite (fun h72 => absurd h72 (by omega)) (fun h72 => ?_)
  refine Wm.rm ?_
  refine PoM.mdd ?_ ?_ ?_ ?_ ?_ ?_
  all_goals (try simp only [ac, dl, kp, lp, List.length_append, mk_len, List.length_nil, List.length_cons])
  all_goals first | omega | (right; omega) | (left; trivial) | trivial
theorem p_list {c : Cr} (hc : c.ok) (hR : Rt c) {rec : MT → Ss → Option Mr} (IH : ∀ t s, okM c t s → s.i ≤ c.ts.length → (0 ≤ s.bad → s.i = c.ts.length) → Wm (rec t s) (PoM c t s)) (stop : List UInt8) (s : Ss) (hok : okM c (.list stop) s) (hg : s.i ≤ c.ts.length) (hd : 0 ≤ s.bad → s.i = c.ts.length) : Wm (bodyM c rec (.list stop) s) (PoM c (.list stop) s) := by
 have ho : stop ≠ [] := hok
 simp only [bodyM]
 rcases Int.lt_or_le s.bad 0 with hb | hb
 ·refine Wm.ite (fun h1 => ?_) (fun h1 => ?_)
  ·have f2 := (isS_in ho h1)
   obtain ⟨f3, f4⟩ := up_f s
   refine Wm.rm ?_
   refine PoM.mll ?_ ?_ ?_ ?_ ?_ ?_ ?_
   all_goals (try simp only [ac, dl, kp, lp, List.length_append, mk_len, List.length_nil, List.length_cons])
   all_goals first | omega | (right; omega) | (left; trivial) | trivial
  ·refine (IH (.listL stop [] 0) s ⟨ho, by omega⟩ (by omega) (by omega)).imp (fun r hr => ?_)
   rcases hr.ll (by omega) with ⟨f5, f6, f7, f8, f9⟩ | ⟨f5, f6, f7, f8⟩
   ·try simp only [ac, List.length_append, mk_len, List.length_nil, List.length_cons] at f8
    have f9 := f9 rfl
    refine PoM.mll ?_ ?_ ?_ ?_ ?_ ?_ ?_
    all_goals (try simp only [ac, dl, kp, lp, List.length_append, mk_len, List.length_nil, List.length_cons])
    all_goals first | omega | (right; omega) | (left; trivial) | trivial
   ·try simp only [ac, kp, List.length_append, mk_len, List.length_nil, List.length_cons] at f8
    refine PoM.mld ?_ ?_ ?_ ?_ ?_ ?_
    all_goals (try simp only [ac, dl, kp, lp, List.length_append, mk_len, List.length_nil, List.length_cons])
    all_goals first | omega | (right; omega) | (left; trivial) | trivial
 ·have hN := hd hb
  refine Wm.ite (fun h10 => absurd (isS_in ho h10) (by omega)) (fun h10 => ?_)
  refine (IH (.listL stop [] 0) s ⟨ho, by omega⟩ (by omega) (by omega)).imp (fun r hr => ?_)
  obtain ⟨f11, f12, f13, f14⟩ := hr.dd (by omega)
  try simp only [ac, dl, List.length_append, mk_len, List.length_nil, List.length_cons] at f14
  refine PoM.mdd ?_ ?_ ?_ ?_ ?_ ?_
  all_goals (try simp only [ac, dl, kp, lp, List.length_append, mk_len, List.length_nil, List.length_cons])
  all_goals first | omega | (right; omega) | (left; trivial) | trivial
theorem p_listL {c : Cr} (hc : c.ok) (hR : Rt c) {rec : MT → Ss → Option Mr} (IH : ∀ t s, okM c t s → s.i ≤ c.ts.length → (0 ≤ s.bad → s.i = c.ts.length) → Wm (rec t s) (PoM c t s)) (stop : List UInt8) (out : List LN) (n : Nat) (s : Ss) (hok : okM c (.listL stop out n) s) (hg : s.i ≤ c.ts.length) (hd : 0 ≤ s.bad → s.i = c.ts.length) : Wm (bodyM c rec (.listL stop out n) s) (PoM c (.listL stop out n) s) := by
 obtain ⟨ho, hn⟩ : stop ≠ [] ∧ (s.bad < 0 → n ≤ s.i) := hok
 simp only [bodyM]
 rcases Int.lt_or_le s.bad 0 with hb | hb
 ·have hn := hn hb
  refine Wm.ite (fun h1 => ?_) (fun h1 => absurd h1 (by omega))
  refine Wm.bm ?_
  refine (IH .assign s trivial (by omega) (by omega)).imp (fun x hx => ?_)
  rcases hx.ll (by omega) with ⟨f2, f3, f4, f5, f6⟩ | ⟨f2, f3, f4, f5⟩
  ·try simp only [ac, List.length_append, mk_len, List.length_nil, List.length_cons] at f5
   have f6 := f6 rfl
   refine Wm.ite (fun h7 => ?_) (fun h7 => ?_)
   ·have f8 := (isS_in ho h7)
    obtain ⟨f9, f10⟩ := up_f x.s
    refine Wm.some ?_
    refine PoM.mll ?_ ?_ ?_ ?_ ?_ ?_ ?_
    all_goals (try simp only [ac, dl, kp, lp, List.length_append, mk_len, List.length_nil, List.length_cons])
    all_goals first | omega | (right; omega) | (left; trivial) | trivial
   ·rcases need_l hc (s := x.s) (q := [44]) (by decide) (by omega) (by omega) with ⟨f11, f12, f13⟩ | ⟨f14, f15⟩
    ·refine (IH (.listL stop (out ++ x.l) (n + 1)) (needS c x.s [44]) ⟨ho, by omega⟩ (by omega) (by omega)).imp (fun r hr => ?_)
     rcases hr.ll (by omega) with ⟨f16, f17, f18, f19, f20⟩ | ⟨f16, f17, f18, f19⟩
     ·try simp only [ac, List.length_append, mk_len, List.length_nil, List.length_cons] at f19
      have f20 := f20 rfl
      refine PoM.mll ?_ ?_ ?_ ?_ ?_ ?_ ?_
      all_goals (try simp only [ac, dl, kp, lp, List.length_append, mk_len, List.length_nil, List.length_cons])
      all_goals first | omega | (right; omega) | (left; trivial) | trivial
     ·try simp only [ac, kp, List.length_append, mk_len, List.length_nil, List.length_cons] at f19
      refine PoM.mld ?_ ?_ ?_ ?_ ?_ ?_
      all_goals (try simp only [ac, dl, kp, lp, List.length_append, mk_len, List.length_nil, List.length_cons])
      all_goals first | omega | (right; omega) | (left; trivial) | trivial
    ·refine (IH (.listL stop (out ++ x.l) (n + 1)) (needS c x.s [44]) ⟨ho, by omega⟩ (by omega) (by omega)).imp (fun r hr => ?_)
     obtain ⟨f21, f22, f23, f24⟩ := hr.dd (by omega)
     try simp only [ac, dl, List.length_append, mk_len, List.length_nil, List.length_cons] at f24
     refine PoM.mld ?_ ?_ ?_ ?_ ?_ ?_
     all_goals (try simp only [ac, dl, kp, lp, List.length_append, mk_len, List.length_nil, List.length_cons])
     all_goals first | omega | (right; omega) | (left; trivial) | trivial
  ·try simp only [ac, kp, List.length_append, mk_len, List.length_nil, List.length_cons] at f5
   refine Wm.ite (fun h26 => absurd (isS_in ho h26) (by omega)) (fun h26 => ?_)
   obtain ⟨f27, f28, f29⟩ := need_d hc (s := x.s) (q := [44]) (by decide) (by omega) (by omega)
   refine (IH (.listL stop (out ++ x.l) (n + 1)) (needS c x.s [44]) ⟨ho, by omega⟩ (by omega) (by omega)).imp (fun r hr => ?_)
   obtain ⟨f30, f31, f32, f33⟩ := hr.dd (by omega)
   try simp only [ac, dl, List.length_append, mk_len, List.length_nil, List.length_cons] at f33
   refine PoM.mld ?_ ?_ ?_ ?_ ?_ ?_
   all_goals (try simp only [ac, dl, kp, lp, List.length_append, mk_len, List.length_nil, List.length_cons])
   all_goals first | omega | (right; omega) | (left; trivial) | trivial
 ·have hN := hd hb
  refine Wm.ite (fun h35 => absurd h35 (by omega)) (fun h35 => ?_)
  refine Wm.rm ?_
  refine PoM.mdd ?_ ?_ ?_ ?_ ?_ ?_
  all_goals (try simp only [ac, dl, kp, lp, List.length_append, mk_len, List.length_nil, List.length_cons])
  all_goals first | omega | (right; omega) | (left; trivial) | trivial
theorem p_primary {c : Cr} (hc : c.ok) (hR : Rt c) {rec : MT → Ss → Option Mr} (IH : ∀ t s, okM c t s → s.i ≤ c.ts.length → (0 ≤ s.bad → s.i = c.ts.length) → Wm (rec t s) (PoM c t s))  (s : Ss) (hok : okM c .primary s) (hg : s.i ≤ c.ts.length) (hd : 0 ≤ s.bad → s.i = c.ts.length) : Wm (bodyM c rec .primary s) (PoM c .primary s) := by
 simp only [bodyM]
 rcases Int.lt_or_le s.bad 0 with hb | hb
 ·refine Wm.ite (fun h1 => absurd ((hR _ (by decide) _).symm.trans h1) (by decide)) (fun h1 => ?_)
  refine Wm.ite (fun h2 => absurd ((hR _ (by decide) _).symm.trans h2) (by decide)) (fun h2 => ?_)
  refine Wm.ite (fun h3 => absurd ((hR _ (by decide) _).symm.trans h3) (by decide)) (fun h3 => ?_)
  refine Wm.ite (fun h4 => absurd ((hR _ (by decide) _).symm.trans h4) (by decide)) (fun h4 => ?_)
  refine Wm.ite (fun h5 => ?_) (fun h5 => ?_)
  ·have f6 := (isS_in (by decide) h5)
   refine (IH .brackets s trivial (by omega) (by omega)).imp (fun r hr => ?_)
   rcases hr.ll (by omega) with ⟨f7, f8, f9, f10, f11⟩ | ⟨f7, f8, f9, f10⟩
   ·try simp only [ac, List.length_append, mk_len, List.length_nil, List.length_cons] at f10
    have f11 := f11 rfl
    refine PoM.mll ?_ ?_ ?_ ?_ ?_ ?_ ?_
    all_goals (try simp only [ac, dl, kp, lp, List.length_append, mk_len, List.length_nil, List.length_cons])
    all_goals first | omega | (right; omega) | (left; trivial) | trivial
   ·try simp only [ac, kp, List.length_append, mk_len, List.length_nil, List.length_cons] at f10
    refine PoM.mld ?_ ?_ ?_ ?_ ?_ ?_
    all_goals (try simp only [ac, dl, kp, lp, List.length_append, mk_len, List.length_nil, List.length_cons])
    all_goals first | omega | (right; omega) | (left; trivial) | trivial
  ·refine Wm.ite (fun h12 => ?_) (fun h12 => ?_)
   ·have f13 := (isS_in (by decide) h12)
    refine Wm.bm ?_
    obtain ⟨f14, f15⟩ := up_f s
    refine (IH (.list [93]) s.up (by first | exact ho | (show _ ≠ _; decide)) (by omega) (by omega)).imp (fun l hl => ?_)
    rcases hl.ll (by omega) with ⟨f16, f17, f18, f19, f20⟩ | ⟨f16, f17, f18, f19⟩
    ·try simp only [ac, List.length_append, mk_len, List.length_nil, List.length_cons] at f19
     have f20 := f20 rfl
     refine Wm.rm ?_
     refine PoM.mll ?_ ?_ ?_ ?_ ?_ ?_ ?_
     all_goals (try simp only [ac, dl, kp, lp, List.length_append, mk_len, List.length_nil, List.length_cons])
     all_goals first | omega | (right; omega) | (left; trivial) | trivial
    ·try simp only [ac, kp, List.length_append, mk_len, List.length_nil, List.length_cons] at f19
     refine Wm.rm ?_
     refine PoM.mld ?_ ?_ ?_ ?_ ?_ ?_
     all_goals (try simp only [ac, dl, kp, lp, List.length_append, mk_len, List.length_nil, List.length_cons])
     all_goals first | omega | (right; omega) | (left; trivial) | trivial
   ·refine Wm.ite (fun h21 => absurd ((hR _ (by decide) _).symm.trans h21) (by decide)) (fun h21 => ?_)
    refine Wm.ite (fun h22 => absurd ((hR _ (by decide) _).symm.trans h22) (by decide)) (fun h22 => ?_)
    refine Wm.ite (fun h23 => ?_) (fun h23 => ?_)
    ·have f24 := (kind_inR (c := c) (k := s.i) (by rw [h23]; decide))
     obtain ⟨f25, f26⟩ := up_f s
     refine Wm.rm ?_
     refine PoM.mll ?_ ?_ ?_ ?_ ?_ ?_ ?_
     all_goals (try simp only [ac, dl, kp, lp, List.length_append, mk_len, List.length_nil, List.length_cons])
     all_goals first | omega | (right; omega) | (left; trivial) | trivial
    ·refine Wm.ite (fun h27 => ?_) (fun h27 => ?_)
     ·have f28 := (kind_inR (c := c) (k := s.i) (by rw [h27]; decide))
      obtain ⟨f29, f30⟩ := up_f s
      refine Wm.rm ?_
      refine PoM.mll ?_ ?_ ?_ ?_ ?_ ?_ ?_
      all_goals (try simp only [ac, dl, kp, lp, List.length_append, mk_len, List.length_nil, List.length_cons])
      all_goals first | omega | (right; omega) | (left; trivial) | trivial
     ·refine Wm.ite (fun h31 => ?_) (fun h31 => ?_)
      ·have f32 := (kind_inR (c := c) (k := s.i) (by rw [h31]; decide))
       obtain ⟨f33, f34⟩ := up_f s
       refine Wm.rm ?_
       refine PoM.mll ?_ ?_ ?_ ?_ ?_ ?_ ?_
       all_goals (try simp only [ac, dl, kp, lp, List.length_append, mk_len, List.length_nil, List.length_cons])
       all_goals first | omega | (right; omega) | (left; trivial) | trivial
      ·obtain ⟨f35, f36⟩ := stop_l hc (s := s) (by omega) (by omega)
       refine Wm.rm ?_
       refine PoM.mld ?_ ?_ ?_ ?_ ?_ ?_
       all_goals (try simp only [ac, dl, kp, lp, List.length_append, mk_len, List.length_nil, List.length_cons])
       all_goals first | omega | (right; omega) | (left; trivial) | trivial
 ·have hN := hd hb
  refine Wm.ite (fun h37 => absurd ((hR _ (by decide) _).symm.trans h37) (by decide)) (fun h37 => ?_)
  refine Wm.ite (fun h38 => absurd ((hR _ (by decide) _).symm.trans h38) (by decide)) (fun h38 => ?_)
  refine Wm.ite (fun h39 => absurd ((hR _ (by decide) _).symm.trans h39) (by decide)) (fun h39 => ?_)
  refine Wm.ite (fun h40 => absurd ((hR _ (by decide) _).symm.trans h40) (by decide)) (fun h40 => ?_)
  refine Wm.ite (fun h41 => absurd (isS_in (by decide) h41) (by omega)) (fun h41 => ?_)
  refine Wm.ite (fun h42 => absurd (isS_in (by decide) h42) (by omega)) (fun h42 => ?_)
  refine Wm.ite (fun h43 => absurd ((hR _ (by decide) _).symm.trans h43) (by decide)) (fun h43 => ?_)
  refine Wm.ite (fun h44 => absurd ((hR _ (by decide) _).symm.trans h44) (by decide)) (fun h44 => ?_)
  refine Wm.ite (fun h45 => absurd (kind_inR (c := c) (k := s.i) (by rw [h45]; decide)) (by omega)) (fun h45 => ?_)
  refine Wm.ite (fun h46 => absurd (kind_inR (c := c) (k := s.i) (by rw [h46]; decide)) (by omega)) (fun h46 => ?_)
  refine Wm.ite (fun h47 => absurd (kind_inR (c := c) (k := s.i) (by rw [h47]; decide)) (by omega)) (fun h47 => ?_)
  obtain ⟨f48, f49, f50⟩ := stop_d hc (s := s) (by omega) (by omega)
  refine Wm.rm ?_
  refine PoM.mdd ?_ ?_ ?_ ?_ ?_ ?_
  all_goals (try simp only [ac, dl, kp, lp, List.length_append, mk_len, List.length_nil, List.length_cons])
  all_goals first | omega | (right; omega) | (left; trivial) | trivial
theorem p_progL {c : Cr} (hc : c.ok) (hR : Rt c) {rec : MT → Ss → Option Mr} (IH : ∀ t s, okM c t s → s.i ≤ c.ts.length → (0 ≤ s.bad → s.i = c.ts.length) → Wm (rec t s) (PoM c t s)) (out : List LN) (n : Nat) (s : Ss) (hok : okM c (.progL out n) s) (hg : s.i ≤ c.ts.length) (hd : 0 ≤ s.bad → s.i = c.ts.length) : Wm (bodyM c rec (.progL out n) s) (PoM c (.progL out n) s) := by
 have hn : (s.bad < 0 → n ≤ s.i) ∧ n ≤ c.ts.length + 1 := hok
 simp only [bodyM]
 rcases Int.lt_or_le s.bad 0 with hb | hb
 ·have hn := hn.1 hb
  refine Wm.ite (fun h1 => ?_) (fun h1 => ?_)
  ·refine Wm.bm ?_
   refine (IH .element s trivial (by omega) (by omega)).imp (fun r hr => ?_)
   rcases hr.ll (by omega) with ⟨f2, f3, f4, f5, f6⟩ | ⟨f2, f3, f4, f5⟩
   ·try simp only [ac, List.length_append, mk_len, List.length_nil, List.length_cons] at f5
    have f6 := f6 rfl
    refine (IH (.progL (out ++ r.l) (n + 1)) r.s (by show _ ∧ _; omega) (by omega) (by omega)).imp (fun r hr => ?_)
    rcases hr.ll (by omega) with ⟨f7, f8, f9, f10, f11⟩ | ⟨f7, f8, f9, f10⟩
    ·try simp only [ac, List.length_append, mk_len, List.length_nil, List.length_cons] at f10
     skip
     refine PoM.mll ?_ ?_ ?_ ?_ ?_ ?_ ?_
     all_goals (try simp only [ac, dl, kp, lp, List.length_append, mk_len, List.length_nil, List.length_cons])
     all_goals first | omega | (right; omega) | (left; trivial) | trivial
    ·try simp only [ac, kp, List.length_append, mk_len, List.length_nil, List.length_cons] at f10
     refine PoM.mld ?_ ?_ ?_ ?_ ?_ ?_
     all_goals (try simp only [ac, dl, kp, lp, List.length_append, mk_len, List.length_nil, List.length_cons])
     all_goals first | omega | (right; omega) | (left; trivial) | trivial
   ·try simp only [ac, kp, List.length_append, mk_len, List.length_nil, List.length_cons] at f5
    refine (IH (.progL (out ++ r.l) (n + 1)) r.s (by show _ ∧ _; omega) (by omega) (by omega)).imp (fun r hr => ?_)
    obtain ⟨f12, f13, f14, f15⟩ := hr.dd (by omega)
    try simp only [ac, dl, List.length_append, mk_len, List.length_nil, List.length_cons] at f15
    refine PoM.mld ?_ ?_ ?_ ?_ ?_ ?_
    all_goals (try simp only [ac, dl, kp, lp, List.length_append, mk_len, List.length_nil, List.length_cons])
    all_goals first | omega | (right; omega) | (left; trivial) | trivial
  ·refine Wm.some ?_
   refine PoM.mll ?_ ?_ ?_ ?_ ?_ ?_ ?_
   all_goals (try simp only [ac, dl, kp, lp, List.length_append, mk_len, List.length_nil, List.length_cons])
   all_goals first | omega | (right; omega) | (left; trivial) | trivial
 ·have hn := hn.2
  have hN := hd hb
  refine Wm.ite (fun h17 => absurd h17.1 (by omega)) (fun h17 => ?_)
  refine Wm.some ?_
  refine PoM.mdd ?_ ?_ ?_ ?_ ?_ ?_
  all_goals (try simp only [ac, dl, kp, lp, List.length_append, mk_len, List.length_nil, List.length_cons])
  all_goals first | omega | (right; omega) | (left; trivial) | trivial
theorem post_all {c : Cr} (hc : c.ok) (hR : Rt c) : ∀ (n : Nat) (t : MT) (s : Ss), okM c t s → s.i ≤ c.ts.length → (0 ≤ s.bad → s.i = c.ts.length) → Wm (M c n t s) (PoM c t s)
 | 0, _, _, _, _, _ => fun _ h => by cases h
 | n + 1, t, s, hok, hg, hd => by
  show Wm (bodyM c (M c n) t s) _
  cases t with
  | element => exact p_element hc hR (post_all hc hR n)  s hok hg hd
  | statement => exact p_statement hc hR (post_all hc hR n)  s hok hg hd
  | brackets => exact p_brackets hc hR (post_all hc hR n)  s hok hg hd
  | short => exact p_short hc hR (post_all hc hR n)  s hok hg hd
  | expr => exact p_expr hc hR (post_all hc hR n)  s hok hg hd
  | exprL a => exact p_exprL hc hR (post_all hc hR n) a s hok hg hd
  | assign => exact p_assign hc hR (post_all hc hR n)  s hok hg hd
  | cond => exact p_cond hc hR (post_all hc hR n)  s hok hg hd
  | binary a => exact p_binary hc hR (post_all hc hR n) a s hok hg hd
  | binL a b => exact p_binL hc hR (post_all hc hR n) a b s hok hg hd
  | unary => exact p_unary hc hR (post_all hc hR n)  s hok hg hd
  | first => exact p_first hc hR (post_all hc hR n)  s hok hg hd
  | behind a b => exact p_behind hc hR (post_all hc hR n) a b s hok hg hd
  | list a => exact p_list hc hR (post_all hc hR n) a s hok hg hd
  | listL a b d => exact p_listL hc hR (post_all hc hR n) a b d s hok hg hd
  | primary => exact p_primary hc hR (post_all hc hR n)  s hok hg hd
  | progL a b => exact p_progL hc hR (post_all hc hR n) a b s hok hg hd
  | _ => exact hok.elim
theorem MD.post {c : Cr} (hc : c.ok) (hR : Rt c) {t : MT} {s : Ss} {r : Mr} (h : MD c t s r) (hok : okM c t s) (hg : Gs c s) : PoM c t s r := by
 obtain ⟨n, h⟩ := h
 exact post_all hc hR n t s hok hg.1 hg.2 r (h n (Nat.le_refl _))
end Go.Proofs.YtnkfodelgpidkaaGreatDoor
namespace Go.Proofs.YtnkfodelgpidkaaGreatDoor
open Go.RowKit
theorem NO.off {w w' : World} {B b : Nat} {v : Value} {L : List LN} (h : NO w B v L) (o : Off b w w') (hb : b < B) : NO w' B v L := own_off h o hb
structure S3 (c : Cr) (w0 : World) (s : Ss) (w : World) : Prop where
 lt : c.b < w0.heap.size
 st : St2 c w0 s w
 gs : Gs c s
 rt : Rt c
structure Nx (c : Cr) (s s' : Ss) : Prop where
 gs : Gs c s'
 live : s.bad < 0 → 0 ≤ s'.bad ∨ s.i < s'.i
 dead : 0 ≤ s.bad → 0 ≤ s'.bad
structure Nle (c : Cr) (s s' : Ss) : Prop where
 gs : Gs c s'
 live : s.bad < 0 → 0 ≤ s'.bad ∨ s.i ≤ s'.i
 dead : 0 ≤ s.bad → 0 ≤ s'.bad
section
variable {c : Cr} {s s1 s2 : Ss} {t : MT} {r : Mr}
theorem Nx.le (h : Nx c s s1) : Nle c s s1 := ⟨h.gs, fun hb => (h.live hb).imp id Nat.le_of_lt, h.dead⟩
theorem Nle.refl (h : Gs c s) : Nle c s s := ⟨h, fun _ => .inr (Nat.le_refl _), id⟩
theorem Nle.nx (h : Nle c s s1) (g : Nx c s1 s2) : Nx c s s2 := ⟨g.gs, fun hb => by
  rcases Int.lt_or_le s1.bad 0 with h1 | h1
  · have := h.live hb; have := g.live h1; omega
  · exact .inl (g.dead h1), fun hb => g.dead (h.dead hb)⟩
theorem Nx.nle (h : Nx c s s1) (g : Nle c s1 s2) : Nx c s s2 := ⟨g.gs, fun hb => by
  rcases Int.lt_or_le s1.bad 0 with h1 | h1
  · have := h.live hb; have := g.live h1; omega
  · exact .inl (g.dead h1), fun hb => g.dead (h.dead hb)⟩
theorem Nx.nx (h : Nx c s s1) (g : Nx c s1 s2) : Nx c s s2 := h.nle g.le
theorem nx_stop (hc : c.ok) (h : Gs c s) : Nx c s (stopS c s) := by
 rcases Int.lt_or_le s.bad 0 with hb | hb
 ·obtain ⟨h1, h2⟩ := stop_l hc h.1 hb
  exact ⟨⟨by omega, fun _ => h1⟩, fun _ => .inl h2, fun _ => h2⟩
 ·obtain ⟨h1, h2, h3⟩ := stop_d hc (h.2 hb) hb
  exact ⟨⟨by omega, fun _ => h1⟩, fun _ => .inl h2, fun _ => h2⟩
theorem nx_of {s' : Ss} (hb : s.bad < 0) (h : (s.i < c.ts.length ∧ s'.i = s.i + 1 ∧ s'.bad < 0) ∨ (s'.i = c.ts.length ∧ 0 ≤ s'.bad)) : Nx c s s' := by
 rcases h with ⟨h1, h2, h3⟩ | ⟨h1, h2⟩
 ·exact ⟨⟨by omega, fun h => by omega⟩, fun _ => .inr (by omega), fun h => by omega⟩
 ·exact ⟨⟨by omega, fun _ => h1⟩, fun _ => .inl h2, fun _ => h2⟩
theorem nx_of_d {s' : Ss} (h : s'.i = c.ts.length ∧ 0 ≤ s'.bad ∧ s'.bad = s.bad) : Nx c s s' := ⟨⟨by omega, fun _ => h.1⟩, fun _ => .inl h.2.1, fun _ => h.2.1⟩
theorem nx_need (hc : c.ok) (q : List UInt8) (hq : q ≠ []) (h : Gs c s) : Nx c s (needS c s q) := by
 rcases Int.lt_or_le s.bad 0 with hb | hb
 ·exact nx_of hb (need_l hc hq h.1 hb)
 ·exact nx_of_d (need_d hc hq (h.2 hb) hb)
theorem nx_key (hc : c.ok) (h : Gs c s) : Nx c s (keyS c s).2 := by
 rcases Int.lt_or_le s.bad 0 with hb | hb
 ·exact nx_of hb (key_l hc h.1 hb)
 ·exact nx_of_d (key_d hc (h.2 hb) hb)
theorem Gs.live (h : Gs c s) (hi : s.i < c.ts.length) : s.bad < 0 := by
 rcases Int.lt_or_le s.bad 0 with hb | hb
 ·exact hb
 ·have := h.2 hb; omega
theorem nx_up (h : Gs c s) (hi : s.i < c.ts.length) : Nx c s s.up :=
 ⟨⟨by show s.i + 1 ≤ _; omega, fun hb => by have := h.live hi; have : 0 ≤ s.bad := hb; omega⟩, fun _ => .inr (by show s.i < s.i + 1; omega), id⟩
theorem PoM.nx (h : PoM c t s r) (hl : lp t = false) : Nx c s r.s := ⟨h.gs, fun hb => by
  rcases h.ll hb with h1 | h1
  · exact .inr (h1.2.2.2.2 hl)
  · exact .inl h1.1, fun hb => by rw [(h.d hb).1]; exact hb⟩
theorem PoM.le (h : PoM c t s r) : Nle c s r.s := ⟨h.gs, fun hb => by
  rcases h.ll hb with h1 | h1
  · exact .inr h1.2.1.1
  · exact .inl h1.1, fun hb => by rw [(h.d hb).1]; exact hb⟩
theorem PoM.len (h : PoM c t s r) (hc : c.ok) : r.l.length ≤ ac t + 500100 := by
 have hf := hc.few
 have h1 : dl t ≤ 4 := by cases t <;> simp [dl]
 have h2 : kp t ≤ 80 := by cases t <;> simp [kp]
 rcases Int.lt_or_le s.bad 0 with hb | hb
 ·rcases h.ll hb with h3 | h3 <;> omega
 ·have := (h.d hb).2; omega
end
theorem PoM.tri {c : Cr} {s : Ss} {t : MT} {r : Mr} (h : PoM c t s r) : (0 ≤ s.bad ∧ 0 ≤ r.s.bad ∧ r.l.length ≤ ac t + dl t) ∨ (s.bad < 0 ∧ r.s.bad < 0 ∧ s.i ≤ r.s.i ∧ r.l.length + 100 * s.i ≤ ac t + 100 * r.s.i ∧ (lp t = true ∨ s.i < r.s.i)) ∨ (s.bad < 0 ∧ 0 ≤ r.s.bad ∧ r.l.length + 100 * s.i ≤ ac t + 100 * c.ts.length + kp t) := by
 rcases Int.lt_or_le s.bad 0 with hb | hb
 ·rcases Int.lt_or_le r.s.bad 0 with h1 | h1
  ·exact .inr (.inl ⟨hb, h1, h.up, (h.l hb h1).1, (h.l hb h1).2⟩)
  ·exact .inr (.inr ⟨hb, h1, h.x hb h1⟩)
 ·exact .inl ⟨hb, by rw [(h.d hb).1]; exact hb, (h.d hb).2⟩
def rkL : MT → Nat
 | .primary => 2
 | .first | .tryM => 3
 | .unary => 4
 | .binary _ => 5
 | .cond => 6
 | .assign => 7
 | .expr => 8
 | .list _ | .maybe _ | .short => 9
 | .statement => 10
 | .element => 11
 | _ => 1
def rkD : MT → Nat
 | .first | .tryM => 2
 | .unary => 3
 | .binary _ => 4
 | .cond => 5
 | .assign => 6
 | .expr => 7
 | .brackets | .maybe _ | .short => 8
 | .statement => 9
 | .element => 10
 | .loop => 11
 | _ => 1
def mu (c : Cr) (t : MT) (s : Ss) : Nat := if s.bad < 0 then (c.ts.length - s.i + 1) * 100 + rkL t else rkD t
theorem rk_few (t : MT) : rkL t ≤ 50 ∧ rkD t ≤ 50 := by cases t <;> simp [rkL, rkD]
section
variable {c : Cr} {s s' : Ss} {t t' : MT}
theorem mu_nx (h : Nx c s s') (hd : 0 ≤ s.bad → rkD t' < rkD t) : mu c t' s' < mu c t s := by
 have h1 := rk_few t
 have h2 := rk_few t'
 have h3 := h.gs.1
 unfold mu
 rcases Int.lt_or_le s.bad 0 with hb | hb
 ·rw [if_pos hb]
  rcases Int.lt_or_le s'.bad 0 with hb' | hb'
  ·rw [if_pos hb']; have := h.live hb; omega
  ·rw [if_neg (by omega)]; omega
 ·rw [if_neg (by have := h.dead hb; omega), if_neg (by omega)]; exact hd hb
theorem mu_same (hl : rkL t' < rkL t) (hd : 0 ≤ s.bad → rkD t' < rkD t) : mu c t' s < mu c t s := by
 unfold mu
 rcases Int.lt_or_le s.bad 0 with hb | hb
 ·rw [if_pos hb, if_pos hb]; omega
 ·rw [if_neg (by omega), if_neg (by omega)]; exact hd hb
theorem mu_le (h : Nle c s s') (hl : rkL t' < rkL t) (hd : 0 ≤ s.bad → rkD t' < rkD t) : mu c t' s' < mu c t s := by
 have h1 := rk_few t
 have h2 := rk_few t'
 have h3 := h.gs.1
 unfold mu
 rcases Int.lt_or_le s.bad 0 with hb | hb
 ·rw [if_pos hb]
  rcases Int.lt_or_le s'.bad 0 with hb' | hb'
  ·rw [if_pos hb']; have := h.live hb; omega
  ·rw [if_neg (by omega)]; omega
 ·rw [if_neg (by have := h.dead hb; omega), if_neg (by omega)]; exact hd hb
end
def Rm (c : Cr) (t : MT) (s : Ss) (w : World) (B : Nat) (e : Ending) (w' : World) : Prop := ∃ r v, MD c t s r ∧ e = .returned v ∧ St2 c w r.s w' ∧ NO w' B v r.l
def Rl (c : Cr) (t : MT) (s : Ss) (w : World) (B : Nat) (e : Ending) (w' : World) : Prop := ∃ r v, MD c t s r ∧ e = .returned (.tuple #[v, .int .i64 (r.n : Int)]) ∧ St2 c w r.s w' ∧ NO w' B v r.l
def Cm (c : Cr) (t : MT) (s : Ss) (f : Nat) (args : Array Value) : Prop := ∀ w, Sd c w s → Calls Tryz.prog f args w (Rm c t s w w.heap.size)
def Ct (c : Cr) : MT → Ss → Prop
 | .element, s => Cm c .element s 30 #[.pointer (some ⟨c.b, 0, none⟩)]
 | .statement, s => Cm c .statement s 53 #[.pointer (some ⟨c.b, 0, none⟩)]
 | .brackets, s => Cm c .brackets s 105 #[.pointer (some ⟨c.b, 0, none⟩)]
 | .short, s => Cm c .short s 108 #[.pointer (some ⟨c.b, 0, none⟩)]
 | .expr, s => Cm c .expr s 169 #[.pointer (some ⟨c.b, 0, none⟩)]
 | .assign, s => Cm c .assign s 168 #[.pointer (some ⟨c.b, 0, none⟩)]
 | .cond, s => Cm c .cond s 202 #[.pointer (some ⟨c.b, 0, none⟩)]
 | .unary, s => Cm c .unary s 232 #[.pointer (some ⟨c.b, 0, none⟩)]
 | .first, s => Cm c .first s 244 #[.pointer (some ⟨c.b, 0, none⟩)]
 | .primary, s => Cm c .primary s 250 #[.pointer (some ⟨c.b, 0, none⟩)]
 | .binary l, s => 1 ≤ l → l ≤ 11 → Cm c (.binary l) s 221 #[.pointer (some ⟨c.b, 0, none⟩), .int .i64 l]
 | .behind x true, s => x.length ≤ 600000 → ∀ w B v, Sd c w s → NO w B v x → c.b < B → B ≤ w.heap.size → Calls Tryz.prog 243 #[.pointer (some ⟨c.b, 0, none⟩), v, .bool true] w (Rm c (.behind x true) s w B)
 | .list stop, s => stop ≠ [] → ∀ w, Sd c w s → Calls Tryz.prog 249 #[.pointer (some ⟨c.b, 0, none⟩), .string (bs stop)] w (Rl c (.list stop) s w w.heap.size)
 | _, _ => True
def Ih (c : Cr) (t : MT) (s : Ss) : Prop := ∀ t' s', Gs c s' → mu c t' s' < mu c t s → Ct c t' s'
section
variable {c : Cr} {s s' : Ss} {w0 w w' : World}
theorem S3.init (h : Sd c w s) (hg : Gs c s) (hR : Rt c) : S3 c w s w := ⟨h.lt, St2.refl h, hg, hR⟩
theorem S3.below (h : S3 c w0 s w) (hb : Below w.heap.size w w') : S3 c w0 s w' := ⟨h.lt, h.st.below hb, h.gs, h.rt⟩
theorem S3.next (h : S3 c w0 s w) (g : St2 c w s' w') (hg : Gs c s') : S3 c w0 s' w' := ⟨h.lt, h.st.trans g, hg, h.rt⟩
theorem S3.size (h : S3 c w0 s w) : w0.heap.size ≤ w.heap.size := h.st.2.size
theorem S3.ltb (h : S3 c w0 s w) : c.b < w.heap.size := h.st.1.lt
theorem n_need (q : List UInt8) (hq : q ≠ []) (h : S3 c w0 s w) : Calls Tryz.prog 100 #[.pointer (some ⟨c.b, 0, none⟩), .string (bs q)] w fun e w' => e = .returned (.tuple #[]) ∧ S3 c w0 (needS c s q) w' ∧ Off c.b w w' :=
 (dneed_any c s (bs q) hq w h.st.1).mono fun e w' hr => ⟨hr.1, h.next hr.2 (nx_need h.st.1.ok q hq h.gs).gs, hr.2.2⟩
theorem n_stop (h : S3 c w0 s w) : Calls Tryz.prog 102 #[.pointer (some ⟨c.b, 0, none⟩)] w fun e w' => e = .returned (.tuple #[]) ∧ S3 c w0 (stopS c s) w' ∧ Off c.b w w' :=
 (dstop_any c s w h.st.1).mono fun e w' hr => ⟨hr.1, h.next hr.2 (nx_stop h.st.1.ok h.gs).gs, hr.2.2⟩
theorem n_is (q : List UInt8) (hq : q ≠ []) (h : S3 c w0 s w) : Calls Tryz.prog 97 #[.pointer (some ⟨c.b, 0, none⟩), .string (bs q)] w fun e w' => e = .returned (.bool (isS c s q)) ∧ S3 c w0 s w' ∧ Below w.heap.size w w' :=
 (dis_any c s (bs q) hq w h.st.1).mono fun e w' hr => ⟨hr.1, h.below hr.2, hr.2⟩
theorem n_yes (q : List UInt8) (hq : q ≠ []) (h : S3 c w0 s w) (hy : isS c s q = true) : Calls Tryz.prog 51 #[.pointer (some ⟨c.b, 0, none⟩), .string (bs q)] w fun e w' => e = .returned (.bool true) ∧ S3 c w0 s.up w' ∧ Off c.b w w' :=
 (deat_yes c s (bs q) hq w h.st.1 hy).mono fun e w' hr => ⟨hr.1, h.next hr.2 (nx_up h.gs (isS_in hq hy)).gs, hr.2.2⟩
theorem n_no (q : List UInt8) (hq : q ≠ []) (h : S3 c w0 s w) (hy : isS c s q = false) : Calls Tryz.prog 51 #[.pointer (some ⟨c.b, 0, none⟩), .string (bs q)] w fun e w' => e = .returned (.bool false) ∧ S3 c w0 s w' ∧ Off c.b w w' :=
 (deat_no c s (bs q) hq w h.st.1 hy).mono fun e w' hr => ⟨hr.1, h.next hr.2 h.gs, hr.2.2⟩
theorem n_key (h : S3 c w0 s w) : Calls Tryz.prog 248 #[.pointer (some ⟨c.b, 0, none⟩)] w fun e w' => e = .returned (.string (bs (keyS c s).1)) ∧ S3 c w0 (keyS c s).2 w' ∧ Off c.b w w' :=
 (dkey_any c s w h.st.1).mono fun e w' hr => ⟨hr.1, h.next hr.2 (nx_key h.st.1.ok h.gs).gs, hr.2.2⟩
theorem n_kind (h : S3 c w0 s w) : Calls Tryz.prog 98 #[.pointer (some ⟨c.b, 0, none⟩)] w fun e w' => e = .returned (.int .i64 (c.T s.i).kind) ∧ S3 c w0 s w' ∧ Below w.heap.size w w' :=
 (dkind_any c s w h.st.1).mono fun e w' hr => ⟨hr.1, h.below hr.2, hr.2⟩
theorem n_here (h : S3 c w0 s w) : Calls Tryz.prog 203 #[.pointer (some ⟨c.b, 0, none⟩)] w fun e w' => e = .returned (.string (bs (fx (c.T s.i)))) ∧ S3 c w0 s w' ∧ Below w.heap.size w w' :=
 (dhere_any c s w h.st.1).mono fun e w' hr => ⟨hr.1, h.below hr.2, hr.2⟩
theorem n_run {t : MT} {f : Nat} {args : Array Value} (hl : lp t = false) (ha : ac t = 0) (hok : okM c t s) (h : S3 c w0 s w) (H : Cm c t s f args) :
  Calls Tryz.prog f args w fun e w' => ∃ r v, e = .returned v ∧ MD c t s r ∧ S3 c w0 r.s w' ∧ Nx c s r.s ∧ NO w' w.heap.size v r.l ∧ r.l.length ≤ 500100 ∧ Off c.b w w' ∧ PoM c t s r :=
 (H w h.st.1).mono fun e w' hr => by
  obtain ⟨r, v, hm, rfl, hS, hN⟩ := hr
  have hp := hm.post h.st.1.ok h.rt hok h.gs
  exact ⟨r, v, rfl, hm, h.next hS hp.gs, hp.nx hl, hN, by have := hp.len h.st.1.ok; omega, hS.2, hp⟩
end
theorem propS_no {c : Cr} {s : Ss} (h1 : ¬ (c.T s.i).kind = 1) (h2 : ¬ (c.T s.i).kind = 2) (h4 : ¬ (c.T s.i).kind = 4) (h3 : ¬ (c.T s.i).kind = 3) : propS c s = ([], stopS c s) := by unfold propS; rw [if_neg (by omega), if_neg h3]
theorem tg_eq (L : List LN) : tgL L = tgM L := by cases L <;> rfl
section
variable {c : Cr} {s s' : Ss} {w0 w w' : World}
theorem n_hereX {X : List UInt8} (h : S3 c w0 s w) (hX : fx (c.T s.i) = X) : Calls Tryz.prog 203 #[.pointer (some ⟨c.b, 0, none⟩)] w fun e w' => e = .returned (.string (bs X)) ∧ S3 c w0 s w' ∧ Below w.heap.size w w' := by
 subst hX; exact n_here h
theorem n_kindX {X : Int} (h : S3 c w0 s w) (hX : (c.T s.i).kind = X) : Calls Tryz.prog 98 #[.pointer (some ⟨c.b, 0, none⟩)] w fun e w' => e = .returned (.int .i64 X) ∧ S3 c w0 s w' ∧ Below w.heap.size w w' := by
 subst hX; exact n_kind h
theorem n_target {v : Value} {L : List LN} (hl : L.length ≤ 10000000) {B : Nat} (h : S3 c w0 s w) (hv : NO w B v L) : Calls Tryz.prog 205 #[v] w fun e w' => e = .returned (.bool (tgM L)) ∧ S3 c w0 s w' ∧ Below w.heap.size w w' :=
 (dtarget_any v L B w hv hl).mono fun e w' hr => ⟨by rw [← tg_eq]; exact hr.1, h.below hr.2, hr.2⟩
theorem S3.inc (h : S3 c w0 s w) (hi : s.i < c.ts.length) : S3 c w0 s.up (w.setCell ⟨c.b, 1, none⟩ (.int .i64 ((s.i : Int) + 1))) := by
 have h1 := h.st.1.setI (j := s.i + 1) (by omega)
 rw [show ((s.i + 1 : Nat) : Int) = (s.i : Int) + 1 from by omega] at h1
 exact ⟨h.lt, ⟨h1, h.st.2.set 1 _⟩, (nx_up h.gs hi).gs, h.rt⟩
theorem S3.back {i : Nat} (h : S3 c w0 s w) (hi : i ≤ c.ts.length) (hb : s.bad < 0) : S3 c w0 ⟨i, s.bad⟩ (w.setCell ⟨c.b, 1, none⟩ (.int .i64 (i : Int))) :=
 ⟨h.lt, ⟨h.st.1.setI hi, h.st.2.set 1 _⟩, ⟨hi, fun hb' => by have : 0 ≤ s.bad := hb'; omega⟩, h.rt⟩
theorem NO.setI {B : Nat} {v : Value} {L : List LN} (h : NO w B v L) (hb : c.b < B) (u : Value) {k : Nat} : NO (w.setCell ⟨c.b, k, none⟩ u) B v L := own_far h hb u
theorem n_behind (x : List LN) (calls : Bool) (h : S3 c w0 s w) (H : Ct c (.behind x true) s) (hx : x.length ≤ 600000) {v : Value} {B : Nat} (hv : NO w B v x) (hb : c.b < B) (hB : B ≤ w.heap.size) :
  Calls Tryz.prog 243 #[.pointer (some ⟨c.b, 0, none⟩), v, .bool true] w fun e w' => ∃ r v, e = .returned v ∧ MD c (.behind x true) s r ∧ S3 c w0 r.s w' ∧ Nle c s r.s ∧ NO w' B v r.l ∧ r.l.length ≤ 1100200 ∧ Off c.b w w' ∧ PoM c (.behind x true) s r :=
 (H hx w B v h.st.1 hv hb hB).mono fun e w' hr => by
  obtain ⟨r, v, hm, rfl, hS, hN⟩ := hr
  have hp := hm.post h.st.1.ok h.rt trivial h.gs
  exact ⟨r, v, rfl, hm, h.next hS hp.gs, hp.le, hN, by have := hp.len h.st.1.ok; simp only [ac] at this; omega, hS.2, hp⟩
theorem n_list (stop : List UInt8) (hs : stop ≠ []) (h : S3 c w0 s w) (H : Ct c (.list stop) s) :
  Calls Tryz.prog 249 #[.pointer (some ⟨c.b, 0, none⟩), .string (bs stop)] w fun e w' => ∃ r v, e = .returned (.tuple #[v, .int .i64 (r.n : Int)]) ∧ MD c (.list stop) s r ∧ S3 c w0 r.s w' ∧ Nx c s r.s ∧ NO w' w.heap.size v r.l ∧ r.l.length ≤ 500100 ∧ Off c.b w w' ∧ PoM c (.list stop) s r :=
 (H hs w h.st.1).mono fun e w' hr => by
  obtain ⟨r, v, hm, rfl, hS, hN⟩ := hr
  have hp := hm.post h.st.1.ok h.rt hs h.gs
  exact ⟨r, v, rfl, hm, h.next hS hp.gs, hp.nx rfl, hN, by have := hp.len h.st.1.ok; have e : ac (.list stop) = 0 := rfl; rw [e, Nat.zero_add] at this; exact this, hS.2, hp⟩
end
theorem NO.bitsAt {w : World} {B : Nat} {v : Value} {l : LN} {r : List LN} (h : NO w B v (l :: r)) : ∃ g cp, v = .slice (some ⟨g, 0, none⟩) (r.length + 1) cp ∧ B ≤ g ∧ g < w.heap.size ∧ w.cell? ⟨g, 4, none⟩ = some (.int .u64 l.bits) ∧ w.frozen? ⟨g, 4, none⟩ = false ∧ ∀ u, NO (w.setCell ⟨g, 4, none⟩ (.int .u64 u)) B v ({ l with bits := u } :: r) := by
 obtain ⟨h1, h2⟩ := id h
 rcases h2 with ⟨_, h0⟩ | ⟨g, cp, cur, rfl, hb, hg, hc, hm, hs, ht⟩
 ·cases h0
 ·have hsz : 4 < cur.size := by rw [hs]; simp only [List.length_cons] at hc; omega
  obtain ⟨g', hg', hglt, hcell⟩ := (NRow.own h).get (by simp)
  injection hg' with e; injection e with e _ _; subst e
  obtain ⟨_, _, _, _, c4⟩ := hcell 0 (by simp)
  refine ⟨g, cp, rfl, hb, hglt, by simpa using c4, by simp [World.frozen?, hg], fun u => ?_⟩
  have hq : 4 < (l :: r).length * 5 := by simp only [List.length_cons]; omega
  have := own_cell_set h hq (.int .u64 u)
  exact this
def ml (c : Cr) (s : Ss) : Nat := if s.bad < 0 then c.ts.length + 1 - s.i else 0
theorem ml_nx {c : Cr} {s s' : Ss} (h : Nx c s s') (hb : s.bad < 0) (hi : s.i ≤ c.ts.length) : ml c s' < ml c s := by
 have h3 := h.gs.1
 unfold ml
 rw [if_pos hb]
 rcases Int.lt_or_le s'.bad 0 with hb' | hb'
 ·rw [if_pos hb']; have := h.live hb; omega
 ·rw [if_neg (by omega)]; omega
theorem Nle.lv {c : Cr} {s S : Ss} (h : Nle c s S) (hS : S.bad < 0) : s.bad < 0 := by
 rcases Int.lt_or_le s.bad 0 with hb | hb
 ·exact hb
 ·have := h.dead hb; omega
section
variable {c : Cr} {s s' : Ss} {w0 w w' : World}
theorem n_make (k : Int) (x : List UInt8) (n : Nat) (n' : Int) (hn' : n' = (n : Int)) (hn : n ≤ 10000000) {v : Value} {L : List LN} (hl : L.length ≤ 10000000) {B : Nat} (h : S3 c w0 s w) (hv : NO w B v L) :
  Calls Tryz.prog 31 #[.int .i64 k, .string (bs x), .int .i64 n', v] w fun e w' => ∃ v', e = .returned v' ∧ NO w' w.heap.size v' (mkL k x n L) ∧ S3 c w0 s w' ∧ Below w.heap.size w w' := by
 subst hn'
 exact (dmake_any k x n hn v L hl B w hv).mono fun e w' ⟨v', h1, h2, h3⟩ => ⟨v', h1, h2, h.below h3, h3⟩
theorem n_join {va vb : Value} {A B : List LN} (hA : A.length ≤ 4000000) (hB : B.length ≤ 4000000) {Ba Bb : Nat} (h : S3 c w0 s w) (ha : NO w Ba va A) (hb : NO w Bb vb B) :
  Calls Tryz.prog 29 #[va, vb] w fun e w' => ∃ v', e = .returned v' ∧ NO w' w.heap.size v' (A ++ B) ∧ S3 c w0 s w' ∧ Below w.heap.size w w' :=
 (djoin_any va vb A B hA hB Ba Bb w ha hb).mono fun e w' ⟨v', h1, h2, h3⟩ => ⟨v', h1, h2, h.below h3, h3⟩
theorem n_closed (v : Value) (h : S3 c w0 s w) : Calls Tryz.prog 103 #[.pointer (some ⟨c.b, 0, none⟩), v] w fun e w' => e = .returned v ∧ S3 c w0 (needS c s [59]) w' ∧ Off c.b w w' := by
 have G0 := Lib.hid h
 clear h
 go_enter Tryz.func103, Tryz.ntmps103
 go_wp2_with fail
 refine (n_need [59] (by decide) G0.out).mono ?_; rintro e w1 ⟨rfl, hG, hO⟩
 have G1 := Lib.hid hG
 have HO := Lib.hid hO
 clear hG hO
 go_wp2_with fail
 go_ret
 exact ⟨rfl, G1.out, HO.out⟩
end
end Go.Proofs.YtnkfodelgpidkaaGreatDoor
