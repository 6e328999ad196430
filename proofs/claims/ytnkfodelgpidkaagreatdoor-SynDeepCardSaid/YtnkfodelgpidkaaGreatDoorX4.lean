/- Part of a proof that the program keeps SynDeep: contracts of its functions and of the document's. -/
import Derived.Test.YtnkfodelgpidkaaGreatDoorX2
import Derived.Test.YtnkfodelgpidkaaGreatDoorW6
set_option maxRecDepth 100000
set_option maxHeartbeats 4000000
set_option linter.unusedVariables false
set_option linter.unusedSimpArgs false
namespace Go.Proofs.YtnkfodelgpidkaaGreatDoor
def Ev (e : Nat → Option Mr) (K : Mr → Prop) : Prop := ∃ r, K r ∧ ∃ n, ∀ m, n ≤ m → e m = some r
section
variable {K L : Mr → Prop} {c : Cr} {t : MT} {s : Ss} {e : Nat → Option Mr}
theorem Ev.rm {l : List LN} (h : K ⟨l, 0, s⟩) : Ev (fun _ => Go.Proofs.YtnkfodelgpidkaaGreatDoor.rm l s) K := ⟨_, h, 0, fun _ _ => rfl⟩
theorem Ev.some {r : Mr} (h : K r) : Ev (fun _ => Option.some r) K := ⟨_, h, 0, fun _ _ => rfl⟩
theorem Ev.to (h : Ev (fun m => M c m t s) K) : ∃ r, MD c t s r ∧ K r := by obtain ⟨r, k, n, h⟩ := h; exact ⟨r, ⟨n, h⟩, k⟩
theorem Ev.me (h : Ev (fun m => bodyM c (M c m) t s) K) : Ev (fun m => M c m t s) K := by
 obtain ⟨r, k, h⟩ := h
 exact ⟨r, k, MD.mk h⟩
theorem Ev.bm {k : Nat → Mr → Option Mr} (h : Ev e L) (g : ∀ r, L r → Ev (fun m => k m r) K) : Ev (fun m => Go.Proofs.YtnkfodelgpidkaaGreatDoor.bm (e m) (k m)) K := by
 obtain ⟨r, hr, n, h⟩ := h
 obtain ⟨r', hr', n', h'⟩ := g r hr
 refine ⟨r', hr', n + n', fun m hm => ?_⟩
 show Go.Proofs.YtnkfodelgpidkaaGreatDoor.bm (e m) (k m) = _
 rw [h m (by omega)]; exact h' m (by omega)
theorem Ev.bq {N : Nat} {p : Int} {k : Nat → Mr → Option Mr} (h : Ev e fun r => r.s = ⟨N, p⟩) (g : ∀ r, r.s = ⟨N, p⟩ → Ev (fun m => k m r) fun r => r.s = ⟨N, p⟩) : Ev (fun m => Go.Proofs.YtnkfodelgpidkaaGreatDoor.bm (e m) (k m)) fun r => r.s = ⟨N, p⟩ := h.bm g
theorem Ev.imp (h : Ev e L) (g : ∀ r, L r → K r) : Ev e K := by
 obtain ⟨r, hr, h⟩ := h
 exact ⟨r, g r hr, h⟩
theorem bm_assoc (x : Option Mr) (f g : Mr → Option Mr) : Go.Proofs.YtnkfodelgpidkaaGreatDoor.bm (Go.Proofs.YtnkfodelgpidkaaGreatDoor.bm x f) g = Go.Proofs.YtnkfodelgpidkaaGreatDoor.bm x fun y => Go.Proofs.YtnkfodelgpidkaaGreatDoor.bm (f y) g := by cases x <;> rfl
theorem Ev.bb {f : Nat → Mr → Option Mr} {k : Nat → Mr → Option Mr} (h : Ev (fun m => Go.Proofs.YtnkfodelgpidkaaGreatDoor.bm (e m) (f m)) L) (g : ∀ r, L r → Ev (fun m => k m r) K) : Ev (fun m => Go.Proofs.YtnkfodelgpidkaaGreatDoor.bm (e m) fun y => Go.Proofs.YtnkfodelgpidkaaGreatDoor.bm (f m y) (k m)) K := by
 have := Ev.bm h g
 simp only [bm_assoc] at this
 exact this
end
/- Where the reader has stopped. -/
section
variable {c : Cr} {p : Int} {i : Nat} {q : List UInt8}
theorem up_mk (i : Nat) (p : Int) : (⟨i, p⟩ : Ss).up = ⟨i + 1, p⟩ := rfl
theorem fx_dead (c : Cr) : fx (c.T c.ts.length) = [] := by rw [c.T_end (Nat.le_refl _)]; rfl
theorem kind_dead (c : Cr) : (c.T c.ts.length).kind = 0 := by rw [c.T_end (Nat.le_refl _)]
theorem isS_dead (c : Cr) (p : Int) (a : UInt8) (q : List UInt8) : isS c ⟨c.ts.length, p⟩ (a :: q) = false := by unfold isS; rw [fx_dead]; rfl
theorem stop_dead (c : Cr) (hp : 0 ≤ p) : stopS c ⟨c.ts.length, p⟩ = ⟨c.ts.length, p⟩ := by unfold stopS; rw [if_neg (by show ¬ p < 0; omega)]
theorem need_dead (c : Cr) (hp : 0 ≤ p) (a : UInt8) (q : List UInt8) : needS c ⟨c.ts.length, p⟩ (a :: q) = ⟨c.ts.length, p⟩ := by unfold needS; rw [isS_dead, stop_dead c hp]; rfl
theorem name_dead (c : Cr) (hp : 0 ≤ p) : nameS c ⟨c.ts.length, p⟩ = ([], ⟨c.ts.length, p⟩) := by unfold nameS; rw [if_neg (by show ¬ (c.T c.ts.length).kind = 1; rw [kind_dead]; decide), stop_dead c hp]
theorem key_dead (c : Cr) (hp : 0 ≤ p) : keyS c ⟨c.ts.length, p⟩ = ([], ⟨c.ts.length, p⟩) := by unfold keyS; rw [if_neg (by show ¬ ((c.T c.ts.length).kind = 1 ∨ (c.T c.ts.length).kind = 2); rw [kind_dead]; decide), stop_dead c hp]
theorem prop_dead (c : Cr) (hp : 0 ≤ p) : propS c ⟨c.ts.length, p⟩ = ([], ⟨c.ts.length, p⟩) := by rw [propS_no (by show ¬ (c.T c.ts.length).kind = 1; rw [kind_dead]; decide) (by show ¬ (c.T c.ts.length).kind = 2; rw [kind_dead]; decide) (by show ¬ (c.T c.ts.length).kind = 4; rw [kind_dead]; decide) (by show ¬ (c.T c.ts.length).kind = 3; rw [kind_dead]; decide), stop_dead c hp]
theorem neg_dead (hp : 0 ≤ p) : (p < 0) = False := eq_false (by omega)
theorem neg_live : ((-1 : Int) < 0) = True := eq_true (by decide)
theorem lev_nil : levelI [] = 0 := rfl
theorem sets_nil : setsL.contains [] = false := rfl
theorem pref_nil : prefixes.contains [] = false := rfl
theorem step_nil : steps.contains [] = false := rfl
/- Where it goes on. -/
theorem rneed_yes (h : isS c ⟨i, -1⟩ q = true) : needS c ⟨i, -1⟩ q = ⟨i + 1, -1⟩ := by unfold needS; rw [h]; rfl
theorem rneed_no (h : isS c ⟨i, -1⟩ q = false) : needS c ⟨i, -1⟩ q = ⟨c.ts.length, (c.T i).pos⟩ := by unfold needS; rw [h]; rfl
theorem stop_live (c : Cr) (i : Nat) : stopS c ⟨i, -1⟩ = ⟨c.ts.length, (c.T i).pos⟩ := rfl
theorem key_yes (h : (c.T i).kind = 1 ∨ (c.T i).kind = 2) : keyS c ⟨i, -1⟩ = ((c.T i).text, ⟨i + 1, -1⟩) := by unfold keyS; rw [if_pos h]
theorem key_no (h : ¬ ((c.T i).kind = 1 ∨ (c.T i).kind = 2)) : keyS c ⟨i, -1⟩ = ([], ⟨c.ts.length, (c.T i).pos⟩) := by unfold keyS; rw [if_neg h]; rfl
theorem isS_ne {s : Ss} {a b : List UInt8} (h : isS c s a = true) (hab : (a == b) = false) : isS c s b = false := by
 unfold isS at h ⊢
 rw [eq_of_beq h]; exact hab
theorem isS_kind {a : UInt8} (h2 : (c.T i).kind ≠ 2) (h5 : (c.T i).kind ≠ 5) (p : Int) : isS c ⟨i, p⟩ (a :: q) = false := by
 unfold isS fx
 show ((if (c.T i).kind = 2 ∨ (c.T i).kind = 5 then (c.T i).text else []) == a :: q) = false
 rw [if_neg (by omega)]; rfl
theorem fx_text {t : Tk} (h : fx t ≠ []) : fx t = t.text := by
 unfold fx at h ⊢
 split
 ·rfl
 ·rw [if_neg ‹_›] at h; exact absurd rfl h
theorem rfx_in (h : fx (c.T i) ≠ []) : i < c.ts.length := by
 rcases Nat.lt_or_ge i c.ts.length with h1 | h1
 ·exact h1
 ·rw [c.T_end h1] at h; exact absurd rfl h
end
def okD : MT → Bool
 | .maybe stop | .list stop => !stop.isEmpty
 | _ => true
def rkQ : MT → Nat
 | .primary => 1
 | .first => 2
 | .unary => 3
 | .binary _ => 4
 | .cond => 5
 | .assign => 6
 | .expr => 7
 | .maybe _ | .brackets | .short => 8
 | .statement => 9
 | .element | .loop => 10
 | .funB _ _ _ _ => 1
 | .parL _ _ _ _ => 2
 | .function _ => 3
 | .list _ | .object | .decls | .block => 1
 | .tryM => 2
 | _ => 0
theorem dead_le (c : Cr) {p : Int} (hp : 0 ≤ p) : ∀ (n : Nat) (t : MT), okD t = true → rkQ t < n → Ev (fun m => M c m t ⟨c.ts.length, p⟩) fun r => r.s = ⟨c.ts.length, p⟩
  | 0, _, _, hn => absurd hn (Nat.not_lt_zero _)
  | n + 1, t, hk, hn => by
    have IH : ∀ t', okD t' = true → rkQ t' < rkQ t → Ev (fun m => M c m t' ⟨c.ts.length, p⟩) fun r => r.s = ⟨c.ts.length, p⟩ := fun t' hk' hl => dead_le c hp n t' hk' (by omega)
    clear hn
    have hstop : ∀ stop : List UInt8, stop.isEmpty = false → isS c ⟨c.ts.length, p⟩ stop = false ∧ needS c ⟨c.ts.length, p⟩ stop = ⟨c.ts.length, p⟩ := fun stop h => by
      cases stop with
      | nil => cases h
      | cons a q => exact ⟨isS_dead c p a q, need_dead c hp a q⟩
    cases t
    case maybe stop =>
      have h := hstop stop (by simpa [okD] using hk)
      refine Ev.me ?_
      simp only [bodyM, h.1, Bool.false_eq_true, if_false]
      refine Ev.bm (IH .expr rfl (by simp only [rkQ]; decide)) ?_
      intro r hr
      simp only [hr, h.2]
      exact Ev.rm rfl
    case list stop =>
      have h := hstop stop (by simpa [okD] using hk)
      refine Ev.me ?_
      simp only [bodyM, h.1, Bool.false_eq_true, if_false]
      exact IH _ rfl (by simp only [rkQ]; decide)
    all_goals
      refine Ev.me ?_
      simp only [bodyM, isS_dead, need_dead c hp, name_dead c hp, key_dead c hp, prop_dead c hp, stop_dead c hp, fx_dead, kind_dead, neg_dead hp, lev_nil, sets_nil, pref_nil, step_nil, Bool.false_eq_true, if_false, and_false, false_and, or_true, if_true, show ¬ ((0 : Int) = 1) by decide, show ¬ ((0 : Int) = 3) by decide, show ¬ ((0 : Int) = 4) by decide, or_false]
      repeat' (first
        | exact Ev.rm rfl
        | exact Ev.some rfl
        | exact IH _ rfl (by simp only [rkQ]; decide)
        | split
        | (refine Ev.bm (IH _ rfl (by simp only [rkQ]; decide)) ?_
           intro r hr
           simp only [hr, isS_dead, need_dead c hp, name_dead c hp, key_dead c hp, prop_dead c hp, stop_dead c hp, fx_dead, kind_dead, neg_dead hp, lev_nil, sets_nil, pref_nil, step_nil, Bool.false_eq_true, if_false, and_false, false_and, or_true, if_true])
        | (intro r hr; simp only [hr, isS_dead, need_dead c hp, name_dead c hp, key_dead c hp, prop_dead c hp, stop_dead c hp, fx_dead, kind_dead, neg_dead hp, lev_nil, sets_nil, pref_nil, step_nil, Bool.false_eq_true, if_false, and_false, false_and, or_true, if_true])
        | refine Ev.bm (L := fun r => r.s = ⟨c.ts.length, p⟩) ?_ ?_)
theorem dead_all (c : Cr) {p : Int} (hp : 0 ≤ p) (t : MT) (hk : okD t = true) : Ev (fun m => M c m t ⟨c.ts.length, p⟩) fun r => r.s = ⟨c.ts.length, p⟩ := dead_le c hp _ t hk (Nat.lt_succ_self _)
/- What a reading of the grammar tells. -/
def WW (c : Cr) (x : Rs) (P : Tr → Nat → Prop) (e : Int → Prop) : Prop := ∀ r, x = some r → match r with
 | .ok (t, R1) => ∃ j, j ≤ c.ts.length ∧ R1 = c.R j ∧ P t j
 | .error p => 0 ≤ p ∧ e p
theorem R_tl (c : Cr) (k : Nat) : (c.R k).tail = c.R (k + 1) := tail_drop _ _
theorem hd_R (c : Cr) (k : Nat) : hd c.E (c.R k) = c.T k := rfl
theorem isF_R (c : Cr) (q : List UInt8) (k : Nat) : isF c.E q (c.R k) = isS c ⟨k, -1⟩ q := rfl
section
variable {c : Cr} {x : Rs} {P P' : Tr → Nat → Prop} {e e' : Int → Prop} {i : Nat} {q : List UInt8}
theorem WW.imp (h : WW c x P' e') (g : ∀ t j, j ≤ c.ts.length → P' t j → P t j) (g' : ∀ p, 0 ≤ p → e' p → e p) : WW c x P e := by
 intro r hr
 have := h r hr
 rcases r with p | ⟨t, R1⟩
 ·exact ⟨this.1, g' _ this.1 this.2⟩
 ·obtain ⟨j, h1, h2, h3⟩ := this
  exact ⟨j, h1, h2, g _ _ h1 h3⟩
theorem WW.bnd {k : Tr → List Tk → Rs} (h : WW c x P' e') (g : ∀ t j, j ≤ c.ts.length → P' t j → WW c (k t (c.R j)) P e) (g' : ∀ p, 0 ≤ p → e' p → e p) : WW c (Go.Proofs.YtnkfodelgpidkaaGreatDoor.bnd x k) P e := by
 intro r hr
 unfold Go.Proofs.YtnkfodelgpidkaaGreatDoor.bnd at hr
 cases x with
 | none => cases hr
 | some z =>
  have := h z rfl
  rcases z with p | ⟨t, R1⟩
  ·injection hr with hr; subst hr
   exact ⟨this.1, g' _ this.1 this.2⟩
  ·obtain ⟨j, h1, rfl, h3⟩ := this
   exact g t j h1 h3 r hr
theorem WW.ret {t : Tr} (hi : i ≤ c.ts.length) (h : P t i) : WW c (Go.Proofs.YtnkfodelgpidkaaGreatDoor.ret t (c.R i)) P e := by
 intro r hr
 injection hr with hr; subst hr
 exact ⟨i, hi, rfl, h⟩
theorem WW.bad (hc : c.ok) (h : 0 ≤ (c.T i).pos → e (c.T i).pos) : WW c (Go.Proofs.YtnkfodelgpidkaaGreatDoor.bad c.E (c.R i)) P e := by
 intro r hr
 injection hr with hr; subst hr
 exact ⟨(Cr.T_pos hc i).1, h (Cr.T_pos hc i).1⟩
theorem WW.ite {p : Prop} [Decidable p] {y : Rs} (h : p → WW c x P e) (g : ¬ p → WW c y P e) : WW c (if p then x else y) P e := by
 split; exact h ‹_›; exact g ‹_›
theorem WW.iteB {b : Bool} {y : Rs} (h : b = true → WW c x P e) (g : b = false → WW c y P e) : WW c (if b = true then x else y) P e := by
 cases b
 ·rw [if_neg (by decide)]; exact g rfl
 ·rw [if_pos rfl]; exact h rfl
theorem WW.need {k : List Tk → Rs} (hc : c.ok) (hq : q ≠ []) (h : isS c ⟨i, -1⟩ q = true → i + 1 ≤ c.ts.length → WW c (k (c.R (i + 1))) P e) (g : isS c ⟨i, -1⟩ q = false → 0 ≤ (c.T i).pos → e (c.T i).pos) : WW c (Go.Proofs.YtnkfodelgpidkaaGreatDoor.need c.E q (c.R i) k) P e := by
 unfold Go.Proofs.YtnkfodelgpidkaaGreatDoor.need
 rw [isF_R, R_tl]
 exact WW.iteB (fun a => h a (isS_in hq a)) fun a => WW.bad hc fun hp => g a hp
theorem WW.key {k : List UInt8 → List Tk → Rs} (hc : c.ok) (h : (c.T i).kind = 1 ∨ (c.T i).kind = 2 → i + 1 ≤ c.ts.length → WW c (k (c.T i).text (c.R (i + 1))) P e) (g : ¬ ((c.T i).kind = 1 ∨ (c.T i).kind = 2) → 0 ≤ (c.T i).pos → e (c.T i).pos) : WW c (keyK c.E (c.R i) k) P e := by
 unfold keyK
 rw [hd_R, R_tl]
 exact WW.ite (fun a => h a (kind_inR (by omega))) fun a => WW.bad hc fun hp => g a hp
end
end Go.Proofs.YtnkfodelgpidkaaGreatDoor
namespace Go.Proofs.YtnkfodelgpidkaaGreatDoor
def aft (c : Cr) (stop : List UInt8) (out : List LN) (n : Nat) (s : Ss) : Nat → Option Mr := fun m => if isS c s stop = true then some ⟨out, n, s.up⟩ else M c m (.listL stop out n) (needS c s [44])
structure TokF (c : Cr) : Prop where
 bits : ∀ i, (c.T i).kind ≠ 3 → (c.T i).bits = 0
 text : ∀ i, (c.T i).kind = 3 → (c.T i).text = []
def stpQ (stop : List UInt8) : Prop := stop = [41] ∨ stop = [93]
def prd (c : Cr) : NT → Nat → Prop
 | .list stop it, _ => it = .assign ∧ stpQ stop
 | .row it, _ => it = .assign
 | .rowMore it, _ => it = .assign
 | .binary l, _ => 1 ≤ l
 | .binMore l _, _ => 1 ≤ l
 | .postfx, i => prefixes.contains (fx (c.T i)) = false ∧ steps.contains (fx (c.T i)) = false
 | .fixedPrimary, i => (c.T i).kind ≠ 1 ∧ (c.T i).kind ≠ 3 ∧ (c.T i).kind ≠ 4
 | .part _, i => isS c ⟨i, -1⟩ [46] = true ∨ isS c ⟨i, -1⟩ [91] = true
 | .called _, i => isS c ⟨i, -1⟩ [40] = true
 | .element, _ | .statement, _ | .expr, _ | .exprMore _, _ | .assign, _ | .cond, _ | .unary, _ | .member, _ | .memMore _, _ | .primaryOrNew, _ | .primary, _ | .bracketed, _ | .program, _ => True
 | _, _ => False
def eE (c : Cr) : NT → Nat → Nat → Option Mr
 | .element, i => fun m => M c m .element ⟨i, -1⟩
 | .statement, i => fun m => M c m .statement ⟨i, -1⟩
 | .expr, i => fun m => M c m .expr ⟨i, -1⟩
 | .exprMore x, i => fun m => M c m (.exprL (layT x)) ⟨i, -1⟩
 | .assign, i => fun m => M c m .assign ⟨i, -1⟩
 | .cond, i => fun m => M c m .cond ⟨i, -1⟩
 | .unary, i | .postfx, i => fun m => M c m .unary ⟨i, -1⟩
 | .binary l, i => fun m => M c m (.binary l) ⟨i, -1⟩
 | .binMore l x, i => fun m => M c m (.binL l (layT x)) ⟨i, -1⟩
 | .member, i => fun m => bm (M c m .first ⟨i, -1⟩) fun f => M c m (.behind f.l true) f.s
 | .memMore x, i => fun m => M c m (.behind (layT x) true) ⟨i, -1⟩
 | .primaryOrNew, i => fun m => M c m .first ⟨i, -1⟩
 | .primary, i | .fixedPrimary, i => fun m => M c m .primary ⟨i, -1⟩
 | .bracketed, i => fun m => M c m .brackets ⟨i, -1⟩
 | _, _ => fun m => none
def Cok (c : Cr) : NT → Nat → Tr → Nat → Prop
 | .list stop _, i, t, j => Ev (fun m => M c m (.list stop) ⟨i, -1⟩) fun r => r = ⟨layTs t.kids, t.kids.length, ⟨j, -1⟩⟩
 | .row _, i, t, j => isS c ⟨j, -1⟩ [44] = false ∧ ∀ stop out n K, stpQ stop → Ev (aft c stop (out ++ layTs t.kids) (n + t.kids.length) ⟨j, -1⟩) K → Ev (fun m => M c m (.listL stop out n) ⟨i, -1⟩) K
 | .rowMore _, i, t, j => isS c ⟨j, -1⟩ [44] = false ∧ ∀ stop out n K, stpQ stop → Ev (aft c stop (out ++ layTs t.kids) (n + t.kids.length) ⟨j, -1⟩) K → Ev (aft c stop out n ⟨i, -1⟩) K
 | .program, i, t, j => ∀ out n, Ev (fun m => M c m (.progL out n) ⟨i, -1⟩) fun r => r = ⟨out ++ layTs t.kids, n + t.kids.length, ⟨j, -1⟩⟩
 | .part x, i, t, j => ∀ K, Ev (fun m => M c m (.behind (layT t) true) ⟨j, -1⟩) K → Ev (fun m => M c m (.behind (layT x) true) ⟨i, -1⟩) K
 | .called x, i, t, j => Ev (fun m => M c m (.list [41]) ⟨i + 1, -1⟩) fun r => layT x ++ r.l = layTs t.kids ∧ 1 + r.n = t.kids.length ∧ r.s = ⟨j, -1⟩
 | nt, i, t, j => Ev (eE c nt i) fun r => r = ⟨layT t, 0, ⟨j, -1⟩⟩
def Cer (c : Cr) : NT → Nat → Int → Prop
 | .list stop _, i, p => Ev (fun m => M c m (.list stop) ⟨i, -1⟩) fun r => r.s = ⟨c.ts.length, p⟩
 | .row _, i, p => ∀ stop out n, stpQ stop → Ev (fun m => M c m (.listL stop out n) ⟨i, -1⟩) fun r => r.s = ⟨c.ts.length, p⟩
 | .rowMore _, i, p => ∀ stop out n, stpQ stop → Ev (aft c stop out n ⟨i, -1⟩) fun r => r.s = ⟨c.ts.length, p⟩
 | .program, i, p => ∀ out n, Ev (fun m => M c m (.progL out n) ⟨i, -1⟩) fun r => r.s = ⟨c.ts.length, p⟩
 | .part x, i, p => Ev (fun m => M c m (.behind (layT x) true) ⟨i, -1⟩) fun r => r.s = ⟨c.ts.length, p⟩
 | .called x, i, p => Ev (fun m => M c m (.list [41]) ⟨i + 1, -1⟩) fun r => r.s = ⟨c.ts.length, p⟩
 | nt, i, p => Ev (eE c nt i) fun r => r.s = ⟨c.ts.length, p⟩
def Ihq (c : Cr) (m : Nat) : Prop := ∀ nt i, i ≤ c.ts.length → prd c nt i → WW c (Q c.E m nt (c.R i)) (Cok c nt i) (Cer c nt i)
def Srd (c : Cr) (m : Nat) (nt : NT) (i : Nat) : Prop := WW c (body c.E (Q c.E m) nt (c.R i)) (Cok c nt i) (Cer c nt i)
theorem lay_nd (k : Int) (x : List UInt8) (l : List Tr) : layT (nd k x l) = mkL k x l.length (layTs l) := by rw [nd, layT]; rfl
theorem lay0 (k : Int) (x : List UInt8) : layT (nd k x []) = mkL k x 0 [] := by rw [lay_nd]; rfl
theorem lay1 (k : Int) (x : List UInt8) (a : Tr) : layT (nd k x [a]) = mkL k x 1 (layT a) := by rw [lay_nd]; simp [layTs]
theorem lay2 (k : Int) (x : List UInt8) (a b : Tr) : layT (nd k x [a, b]) = mkL k x 2 (layT a ++ layT b) := by rw [lay_nd]; simp [layTs]
theorem lay3 (k : Int) (x : List UInt8) (a b d : Tr) : layT (nd k x [a, b, d]) = mkL k x 3 (layT a ++ layT b ++ layT d) := by rw [lay_nd]; simp [layTs]
theorem tg_lay (t : Tr) : tgM (layT t) = targetB t := by cases t; rw [layT]; rfl
theorem zb : (∀ (i : Nat) (p : Int), (⟨i, p⟩ : Ss).up = ⟨i + 1, p⟩) ∧ (((-1 : Int) < 0) = True) ∧ (∀ (h : Decidable True) (a b : Option Mr), @ite _ True h a b = a) ∧ (∀ (h : Decidable False) (a b : Option Mr), @ite _ False h a b = b) ∧ ((false = true) = False) ∧ ((true = false) = False) ∧ (∀ p, (True ∧ p) = p) ∧ (∀ p, (p ∧ True) = p) ∧ (∀ p, (False ∧ p) = False) ∧ (∀ p, (p ∧ False) = False) ∧ (∀ p, (True ∨ p) = True) ∧ (∀ p, (p ∨ True) = True) ∧ (∀ p, (False ∨ p) = p) ∧ (∀ p, (p ∨ False) = p) ∧ (∀ t, tgM (layT t) = targetB t) ∧ (∀ (c : Cr) (i : Nat), stopS c ⟨i, -1⟩ = ⟨c.ts.length, (c.T i).pos⟩) :=
 ⟨fun _ _ => rfl, neg_live, fun _ _ _ => if_pos trivial, fun _ _ _ => if_neg id, by simp, by simp, by simp, by simp, by simp, by simp, by simp, by simp, by simp, by simp, tg_lay, stop_live⟩
theorem zd (c : Cr) {p : Int} (hp : 0 ≤ p) : (∀ a q, isS c ⟨c.ts.length, p⟩ (a :: q) = false) ∧ (∀ a q, needS c ⟨c.ts.length, p⟩ (a :: q) = ⟨c.ts.length, p⟩) ∧ nameS c ⟨c.ts.length, p⟩ = ([], ⟨c.ts.length, p⟩) ∧ keyS c ⟨c.ts.length, p⟩ = ([], ⟨c.ts.length, p⟩) ∧ propS c ⟨c.ts.length, p⟩ = ([], ⟨c.ts.length, p⟩) ∧ stopS c ⟨c.ts.length, p⟩ = ⟨c.ts.length, p⟩ ∧ fx (c.T c.ts.length) = [] ∧ (c.T c.ts.length).kind = 0 ∧ (p < 0) = False ∧ levelI [] = 0 ∧ setsL.contains [] = false ∧ prefixes.contains [] = false ∧ steps.contains [] = false :=
 ⟨isS_dead c p, need_dead c hp, name_dead c hp, key_dead c hp, prop_dead c hp, stop_dead c hp, fx_dead c, kind_dead c, neg_dead hp, rfl, rfl, rfl, rfl⟩
end Go.Proofs.YtnkfodelgpidkaaGreatDoor
namespace Go.Proofs.YtnkfodelgpidkaaGreatDoor
section
variable {c : Cr} {m i : Nat}
theorem s_element (hc : c.ok) (hR : Rt c) (IH : Ihq c m) (hi : i ≤ c.ts.length) (h0 : prd c .element i) : Srd c m .element i := by
 show WW c (body c.E (Q c.E m) .element (c.R i)) (fun t j => Ev (fun m => M c m .element ⟨i, -1⟩) fun r => r = ⟨layT t, 0, ⟨j, -1⟩⟩) (fun p => Ev (fun m => M c m .element ⟨i, -1⟩) fun r => r.s = ⟨c.ts.length, p⟩)
 simp only [body, isF_R, hd_R, R_tl]
 refine WW.iteB (fun a1 => absurd ((hR _ (by decide) _).symm.trans a1) (by decide)) (fun a1 => ?_)
 try simp only [isF_R, hd_R, R_tl]
 refine WW.imp (IH .statement (i) hi trivial) (fun x j g y => ?_) (fun p hp y => ?_)
 ·refine Ev.me ?_
  try simp only [bodyM, eE, zb, a1]
  first | exact y | (simp only [← lay1, ← lay2, ← lay3]; exact y)
 ·refine Ev.me ?_
  try simp only [bodyM, eE, zb, a1, zd c hp]
  repeat' (first | exact Ev.rm rfl | exact Ev.some rfl | exact dead_all c hp _ rfl | exact y | (simp only [← lay1, ← lay2, ← lay3]; exact y) | (refine Ev.bm (dead_all c hp _ rfl) ?_; intro r hr; simp only [hr, bodyM, zb, zd c hp]) | (intro r hr; simp only [hr, bodyM, zb, zd c hp]) | refine Ev.bq ?_ ?_)
theorem s_statement (hc : c.ok) (hR : Rt c) (IH : Ihq c m) (hi : i ≤ c.ts.length) (h0 : prd c .statement i) : Srd c m .statement i := by
 show WW c (body c.E (Q c.E m) .statement (c.R i)) (fun t j => Ev (fun m => M c m .statement ⟨i, -1⟩) fun r => r = ⟨layT t, 0, ⟨j, -1⟩⟩) (fun p => Ev (fun m => M c m .statement ⟨i, -1⟩) fun r => r.s = ⟨c.ts.length, p⟩)
 simp only [body, isF_R, hd_R, R_tl]
 refine WW.iteB (fun a1 => absurd ((hR _ (by decide) _).symm.trans a1) (by decide)) (fun a1 => ?_)
 try simp only [isF_R, hd_R, R_tl]
 refine WW.iteB (fun a2 => absurd ((hR _ (by decide) _).symm.trans a2) (by decide)) (fun a2 => ?_)
 try simp only [isF_R, hd_R, R_tl]
 refine WW.iteB (fun a3 => ?_) (fun a3 => ?_)
 ·try simp only [isF_R, hd_R, R_tl]
  refine WW.need hc (by decide) (fun a4 g4 => ?_) (fun a4 hp => ?_)
  ·try simp only [isF_R, hd_R, R_tl]
   refine WW.ret g4 ?_
   refine Ev.me ?_
   try simp only [bodyM, eE, zb, a1, a2, a3, rneed_yes a4, a4]
   first | exact Ev.rm rfl | exact Ev.rm (by simp [layT, layTs, mkL])
  ·exact absurd (a3.symm.trans a4) (by decide)
 ·try simp only [isF_R, hd_R, R_tl]
  refine WW.iteB (fun a5 => absurd ((hR _ (by decide) _).symm.trans a5) (by decide)) (fun a5 => ?_)
  try simp only [isF_R, hd_R, R_tl]
  refine WW.iteB (fun a6 => absurd ((hR _ (by decide) _).symm.trans a6) (by decide)) (fun a6 => ?_)
  try simp only [isF_R, hd_R, R_tl]
  refine WW.iteB (fun a7 => absurd ((hR _ (by decide) _).symm.trans a7) (by decide)) (fun a7 => ?_)
  try simp only [isF_R, hd_R, R_tl]
  refine WW.iteB (fun a8 => absurd ((hR _ (by decide) _).symm.trans a8) (by decide)) (fun a8 => ?_)
  try simp only [isF_R, hd_R, R_tl]
  refine WW.iteB (fun a9 => absurd ((hR _ (by decide) _).symm.trans a9) (by decide)) (fun a9 => ?_)
  try simp only [isF_R, hd_R, R_tl]
  refine WW.iteB (fun a10 => absurd ((hR _ (by decide) _).symm.trans a10) (by decide)) (fun a10 => ?_)
  try simp only [isF_R, hd_R, R_tl]
  refine WW.iteB (fun a11 => absurd ((hR _ (by decide) _).symm.trans a11) (by decide)) (fun a11 => ?_)
  try simp only [isF_R, hd_R, R_tl]
  refine WW.iteB (fun a12 => absurd ((hR _ (by decide) _).symm.trans a12) (by decide)) (fun a12 => ?_)
  try simp only [isF_R, hd_R, R_tl]
  refine WW.iteB (fun a13 => absurd ((hR _ (by decide) _).symm.trans a13) (by decide)) (fun a13 => ?_)
  try simp only [isF_R, hd_R, R_tl]
  refine WW.iteB (fun a14 => absurd ((hR _ (by decide) _).symm.trans a14) (by decide)) (fun a14 => ?_)
  try simp only [isF_R, hd_R, R_tl]
  refine WW.bnd (IH .expr (i) hi trivial) (fun x15 j15 g15 y15 => ?_) (fun p hp y15 => ?_)
  ·try simp only [isF_R, hd_R, R_tl]
   refine WW.need hc (by decide) (fun a16 g16 => ?_) (fun a16 hp => ?_)
   ·try simp only [isF_R, hd_R, R_tl]
    refine WW.ret g16 ?_
    refine Ev.me ?_
    try simp only [bodyM, eE, zb, a1, a2, a3, a5, a6, a7, a8, a9, a10, a11, a12, a13, a14, rneed_yes a16, a16]
    refine Ev.me ?_
    try simp only [bodyM, eE, zb, a1, a2, a3, a5, a6, a7, a8, a9, a10, a11, a12, a13, a14, rneed_yes a16, a16]
    refine Ev.bm y15 ?_
    intro r hr
    try simp only [hr, bodyM, eE, zb, a1, a2, a3, a5, a6, a7, a8, a9, a10, a11, a12, a13, a14, rneed_yes a16, a16]
    first | exact Ev.rm rfl | exact Ev.rm (by simp [layT, layTs, mkL])
   ·refine Ev.me ?_
    try simp only [bodyM, eE, zb, a1, a2, a3, a5, a6, a7, a8, a9, a10, a11, a12, a13, a14, rneed_no a16, a16, zd c hp]
    refine Ev.me ?_
    try simp only [bodyM, eE, zb, a1, a2, a3, a5, a6, a7, a8, a9, a10, a11, a12, a13, a14, rneed_no a16, a16, zd c hp]
    refine Ev.bm y15 ?_
    intro r hr
    try simp only [hr, bodyM, eE, zb, a1, a2, a3, a5, a6, a7, a8, a9, a10, a11, a12, a13, a14, rneed_no a16, a16, zd c hp]
    repeat' (first | exact Ev.rm rfl | exact Ev.some rfl | exact dead_all c hp _ rfl | (refine Ev.bm (dead_all c hp _ rfl) ?_; intro r hr; simp only [hr, bodyM, zb, zd c hp]) | (intro r hr; simp only [hr, bodyM, zb, zd c hp]) | refine Ev.bq ?_ ?_)
  ·refine Ev.me ?_
   try simp only [bodyM, eE, zb, a1, a2, a3, a5, a6, a7, a8, a9, a10, a11, a12, a13, a14, zd c hp]
   refine Ev.me ?_
   try simp only [bodyM, eE, zb, a1, a2, a3, a5, a6, a7, a8, a9, a10, a11, a12, a13, a14, zd c hp]
   refine Ev.bm y15 ?_
   intro r hr
   try simp only [hr, bodyM, eE, zb, a1, a2, a3, a5, a6, a7, a8, a9, a10, a11, a12, a13, a14, zd c hp]
   repeat' (first | exact Ev.rm rfl | exact Ev.some rfl | exact dead_all c hp _ rfl | (refine Ev.bm (dead_all c hp _ rfl) ?_; intro r hr; simp only [hr, bodyM, zb, zd c hp]) | (intro r hr; simp only [hr, bodyM, zb, zd c hp]) | refine Ev.bq ?_ ?_)
theorem s_expr (hc : c.ok) (hR : Rt c) (IH : Ihq c m) (hi : i ≤ c.ts.length) (h0 : prd c .expr i) : Srd c m .expr i := by
 show WW c (body c.E (Q c.E m) .expr (c.R i)) (fun t j => Ev (fun m => M c m .expr ⟨i, -1⟩) fun r => r = ⟨layT t, 0, ⟨j, -1⟩⟩) (fun p => Ev (fun m => M c m .expr ⟨i, -1⟩) fun r => r.s = ⟨c.ts.length, p⟩)
 simp only [body, isF_R, hd_R, R_tl]
 refine WW.bnd (IH .assign (i) hi trivial) (fun x1 j1 g1 y1 => ?_) (fun p hp y1 => ?_)
 ·try simp only [isF_R, hd_R, R_tl]
  refine WW.imp (IH (.exprMore x1) (j1) g1 trivial) (fun x j g y => ?_) (fun p hp y => ?_)
  ·refine Ev.me ?_
   try simp only [bodyM, eE, zb]
   refine Ev.bm y1 ?_
   intro r hr
   try simp only [hr, bodyM, eE, zb]
   first | exact y | (simp only [← lay1, ← lay2, ← lay3]; exact y)
  ·refine Ev.me ?_
   try simp only [bodyM, eE, zb, zd c hp]
   refine Ev.bm y1 ?_
   intro r hr
   try simp only [hr, bodyM, eE, zb, zd c hp]
   repeat' (first | exact Ev.rm rfl | exact Ev.some rfl | exact dead_all c hp _ rfl | exact y | (simp only [← lay1, ← lay2, ← lay3]; exact y) | (refine Ev.bm (dead_all c hp _ rfl) ?_; intro r hr; simp only [hr, bodyM, zb, zd c hp]) | (intro r hr; simp only [hr, bodyM, zb, zd c hp]) | refine Ev.bq ?_ ?_)
 ·refine Ev.me ?_
  try simp only [bodyM, eE, zb, zd c hp]
  refine Ev.bm y1 ?_
  intro r hr
  try simp only [hr, bodyM, eE, zb, zd c hp]
  repeat' (first | exact Ev.rm rfl | exact Ev.some rfl | exact dead_all c hp _ rfl | (refine Ev.bm (dead_all c hp _ rfl) ?_; intro r hr; simp only [hr, bodyM, zb, zd c hp]) | (intro r hr; simp only [hr, bodyM, zb, zd c hp]) | refine Ev.bq ?_ ?_)
theorem s_exprMore (hc : c.ok) (hR : Rt c) (x : Tr) (IH : Ihq c m) (hi : i ≤ c.ts.length) (h0 : prd c (.exprMore x) i) : Srd c m (.exprMore x) i := by
 show WW c (body c.E (Q c.E m) (.exprMore x) (c.R i)) (fun t j => Ev (fun m => M c m (.exprL (layT x)) ⟨i, -1⟩) fun r => r = ⟨layT t, 0, ⟨j, -1⟩⟩) (fun p => Ev (fun m => M c m (.exprL (layT x)) ⟨i, -1⟩) fun r => r.s = ⟨c.ts.length, p⟩)
 simp only [body, isF_R, hd_R, R_tl]
 refine WW.iteB (fun a1 => ?_) (fun a1 => ?_)
 ·try simp only [isF_R, hd_R, R_tl]
  refine WW.bnd (IH .assign (i + 1) (isS_in (s := ⟨i, -1⟩) (by decide) a1) trivial) (fun x2 j2 g2 y2 => ?_) (fun p hp y2 => ?_)
  ·try simp only [isF_R, hd_R, R_tl]
   refine WW.imp (IH (.exprMore (nd 42 [] [x, x2])) (j2) g2 trivial) (fun x j g y => ?_) (fun p hp y => ?_)
   ·refine Ev.me ?_
    try simp only [bodyM, eE, zb, a1]
    refine Ev.bm y2 ?_
    intro r hr
    try simp only [hr, bodyM, eE, zb, a1]
    first | exact y | (simp only [← lay1, ← lay2, ← lay3]; exact y)
   ·refine Ev.me ?_
    try simp only [bodyM, eE, zb, a1, zd c hp]
    refine Ev.bm y2 ?_
    intro r hr
    try simp only [hr, bodyM, eE, zb, a1, zd c hp]
    repeat' (first | exact Ev.rm rfl | exact Ev.some rfl | exact dead_all c hp _ rfl | exact y | (simp only [← lay1, ← lay2, ← lay3]; exact y) | (refine Ev.bm (dead_all c hp _ rfl) ?_; intro r hr; simp only [hr, bodyM, zb, zd c hp]) | (intro r hr; simp only [hr, bodyM, zb, zd c hp]) | refine Ev.bq ?_ ?_)
  ·refine Ev.me ?_
   try simp only [bodyM, eE, zb, a1, zd c hp]
   refine Ev.bm y2 ?_
   intro r hr
   try simp only [hr, bodyM, eE, zb, a1, zd c hp]
   repeat' (first | exact Ev.rm rfl | exact Ev.some rfl | exact dead_all c hp _ rfl | (refine Ev.bm (dead_all c hp _ rfl) ?_; intro r hr; simp only [hr, bodyM, zb, zd c hp]) | (intro r hr; simp only [hr, bodyM, zb, zd c hp]) | refine Ev.bq ?_ ?_)
 ·try simp only [isF_R, hd_R, R_tl]
  refine WW.ret hi ?_
  refine Ev.me ?_
  try simp only [bodyM, eE, zb, a1]
  first | exact Ev.rm rfl | exact Ev.rm (by simp [layT, layTs, mkL])
theorem s_assign (hc : c.ok) (hR : Rt c) (IH : Ihq c m) (hi : i ≤ c.ts.length) (h0 : prd c .assign i) : Srd c m .assign i := by
 show WW c (body c.E (Q c.E m) .assign (c.R i)) (fun t j => Ev (fun m => M c m .assign ⟨i, -1⟩) fun r => r = ⟨layT t, 0, ⟨j, -1⟩⟩) (fun p => Ev (fun m => M c m .assign ⟨i, -1⟩) fun r => r.s = ⟨c.ts.length, p⟩)
 simp only [body, isF_R, hd_R, R_tl]
 refine WW.bnd (IH .cond (i) hi trivial) (fun x1 j1 g1 y1 => ?_) (fun p hp y1 => ?_)
 ·try simp only [isF_R, hd_R, R_tl]
  refine WW.iteB (fun a2 => ?_) (fun a2 => ?_)
  ·try simp only [isF_R, hd_R, R_tl]
   have f3 : fx (c.T (j1)) ≠ [] := fun e => by rw [e] at a2; exact absurd a2 (by decide)
   have t3 := fx_text f3
   have g3 := rfx_in f3
   refine WW.iteB (fun a4 => ?_) (fun a4 => ?_)
   ·try simp only [isF_R, hd_R, R_tl]
    refine WW.bnd (IH .assign (j1 + 1) g3 trivial) (fun x5 j5 g5 y5 => ?_) (fun p hp y5 => ?_)
    ·try simp only [isF_R, hd_R, R_tl]
     refine WW.ret g5 ?_
     refine Ev.me ?_
     try simp only [bodyM, eE, zb, a2, a4]
     refine Ev.bm y1 ?_
     intro r hr
     try simp only [hr, bodyM, eE, zb, a2, a4]
     refine Ev.bm y5 ?_
     intro r hr
     try simp only [hr, bodyM, eE, zb, a2, a4]
     try simp only [t3]
     first | exact Ev.rm rfl | exact Ev.rm (by simp [layT, layTs, mkL])
    ·refine Ev.me ?_
     try simp only [bodyM, eE, zb, a2, a4, zd c hp]
     refine Ev.bm y1 ?_
     intro r hr
     try simp only [hr, bodyM, eE, zb, a2, a4, zd c hp]
     refine Ev.bm y5 ?_
     intro r hr
     try simp only [hr, bodyM, eE, zb, a2, a4, zd c hp]
     repeat' (first | exact Ev.rm rfl | exact Ev.some rfl | exact dead_all c hp _ rfl | (refine Ev.bm (dead_all c hp _ rfl) ?_; intro r hr; simp only [hr, bodyM, zb, zd c hp]) | (intro r hr; simp only [hr, bodyM, zb, zd c hp]) | refine Ev.bq ?_ ?_)
   ·try simp only [isF_R, hd_R, R_tl]
    refine WW.bad hc (fun hp => ?_)
    refine Ev.me ?_
    try simp only [bodyM, eE, zb, a2, a4, zd c hp]
    refine Ev.bm y1 ?_
    intro r hr
    try simp only [hr, bodyM, eE, zb, a2, a4, zd c hp]
    repeat' (first | exact Ev.rm rfl | exact Ev.some rfl | exact dead_all c hp _ rfl | (refine Ev.bm (dead_all c hp _ rfl) ?_; intro r hr; simp only [hr, bodyM, zb, zd c hp]) | (intro r hr; simp only [hr, bodyM, zb, zd c hp]) | refine Ev.bq ?_ ?_)
  ·try simp only [isF_R, hd_R, R_tl]
   refine WW.ret g1 ?_
   refine Ev.me ?_
   try simp only [bodyM, eE, zb, a2]
   refine Ev.bm y1 ?_
   intro r hr
   try simp only [hr, bodyM, eE, zb, a2]
   first | exact Ev.rm rfl | exact Ev.rm (by simp [layT, layTs, mkL])
 ·refine Ev.me ?_
  try simp only [bodyM, eE, zb, zd c hp]
  refine Ev.bm y1 ?_
  intro r hr
  try simp only [hr, bodyM, eE, zb, zd c hp]
  repeat' (first | exact Ev.rm rfl | exact Ev.some rfl | exact dead_all c hp _ rfl | (refine Ev.bm (dead_all c hp _ rfl) ?_; intro r hr; simp only [hr, bodyM, zb, zd c hp]) | (intro r hr; simp only [hr, bodyM, zb, zd c hp]) | refine Ev.bq ?_ ?_)
theorem s_cond (hc : c.ok) (hR : Rt c) (IH : Ihq c m) (hi : i ≤ c.ts.length) (h0 : prd c .cond i) : Srd c m .cond i := by
 show WW c (body c.E (Q c.E m) .cond (c.R i)) (fun t j => Ev (fun m => M c m .cond ⟨i, -1⟩) fun r => r = ⟨layT t, 0, ⟨j, -1⟩⟩) (fun p => Ev (fun m => M c m .cond ⟨i, -1⟩) fun r => r.s = ⟨c.ts.length, p⟩)
 simp only [body, isF_R, hd_R, R_tl]
 refine WW.bnd (IH (.binary 1) (i) hi (Int.le_refl 1)) (fun x1 j1 g1 y1 => ?_) (fun p hp y1 => ?_)
 ·try simp only [isF_R, hd_R, R_tl]
  refine WW.iteB (fun a2 => absurd ((hR _ (by decide) _).symm.trans a2) (by decide)) (fun a2 => ?_)
  try simp only [isF_R, hd_R, R_tl]
  refine WW.ret g1 ?_
  refine Ev.me ?_
  try simp only [bodyM, eE, zb, a2]
  refine Ev.bm y1 ?_
  intro r hr
  try simp only [hr, bodyM, eE, zb, a2]
  first | exact Ev.rm rfl | exact Ev.rm (by simp [layT, layTs, mkL])
 ·refine Ev.me ?_
  try simp only [bodyM, eE, zb, zd c hp]
  refine Ev.bm y1 ?_
  intro r hr
  try simp only [hr, bodyM, eE, zb, zd c hp]
  repeat' (first | exact Ev.rm rfl | exact Ev.some rfl | exact dead_all c hp _ rfl | (refine Ev.bm (dead_all c hp _ rfl) ?_; intro r hr; simp only [hr, bodyM, zb, zd c hp]) | (intro r hr; simp only [hr, bodyM, zb, zd c hp]) | refine Ev.bq ?_ ?_)
theorem s_binary (hc : c.ok) (hR : Rt c) (l : Int) (IH : Ihq c m) (hi : i ≤ c.ts.length) (h0 : prd c (.binary l) i) : Srd c m (.binary l) i := by
 show WW c (body c.E (Q c.E m) (.binary l) (c.R i)) (fun t j => Ev (fun m => M c m (.binary l) ⟨i, -1⟩) fun r => r = ⟨layT t, 0, ⟨j, -1⟩⟩) (fun p => Ev (fun m => M c m (.binary l) ⟨i, -1⟩) fun r => r.s = ⟨c.ts.length, p⟩)
 simp only [body, isF_R, hd_R, R_tl]
 refine WW.bnd (IH .unary (i) hi trivial) (fun x1 j1 g1 y1 => ?_) (fun p hp y1 => ?_)
 ·try simp only [isF_R, hd_R, R_tl]
  refine WW.imp (IH (.binMore l x1) (j1) g1 h0) (fun x j g y => ?_) (fun p hp y => ?_)
  ·refine Ev.me ?_
   try simp only [bodyM, eE, zb]
   refine Ev.bm y1 ?_
   intro r hr
   try simp only [hr, bodyM, eE, zb]
   first | exact y | (simp only [← lay1, ← lay2, ← lay3]; exact y)
  ·refine Ev.me ?_
   try simp only [bodyM, eE, zb, zd c hp]
   refine Ev.bm y1 ?_
   intro r hr
   try simp only [hr, bodyM, eE, zb, zd c hp]
   repeat' (first | exact Ev.rm rfl | exact Ev.some rfl | exact dead_all c hp _ rfl | exact y | (simp only [← lay1, ← lay2, ← lay3]; exact y) | (refine Ev.bm (dead_all c hp _ rfl) ?_; intro r hr; simp only [hr, bodyM, zb, zd c hp]) | (intro r hr; simp only [hr, bodyM, zb, zd c hp]) | refine Ev.bq ?_ ?_)
 ·refine Ev.me ?_
  try simp only [bodyM, eE, zb, zd c hp]
  refine Ev.bm y1 ?_
  intro r hr
  try simp only [hr, bodyM, eE, zb, zd c hp]
  repeat' (first | exact Ev.rm rfl | exact Ev.some rfl | exact dead_all c hp _ rfl | (refine Ev.bm (dead_all c hp _ rfl) ?_; intro r hr; simp only [hr, bodyM, zb, zd c hp]) | (intro r hr; simp only [hr, bodyM, zb, zd c hp]) | refine Ev.bq ?_ ?_)
theorem s_unary (hc : c.ok) (hR : Rt c) (IH : Ihq c m) (hi : i ≤ c.ts.length) (h0 : prd c .unary i) : Srd c m .unary i := by
 show WW c (body c.E (Q c.E m) .unary (c.R i)) (fun t j => Ev (fun m => M c m .unary ⟨i, -1⟩) fun r => r = ⟨layT t, 0, ⟨j, -1⟩⟩) (fun p => Ev (fun m => M c m .unary ⟨i, -1⟩) fun r => r.s = ⟨c.ts.length, p⟩)
 simp only [body, isF_R, hd_R, R_tl]
 refine WW.iteB (fun a1 => ?_) (fun a1 => ?_)
 ·try simp only [isF_R, hd_R, R_tl]
  have f2 : fx (c.T (i)) ≠ [] := fun e => by rw [e] at a1; exact absurd a1 (by decide)
  have t2 := fx_text f2
  have g2 := rfx_in f2
  refine WW.bnd (IH .unary (i + 1) g2 trivial) (fun x3 j3 g3 y3 => ?_) (fun p hp y3 => ?_)
  ·try simp only [isF_R, hd_R, R_tl]
   refine WW.ret g3 ?_
   refine Ev.me ?_
   try simp only [bodyM, eE, zb, a1]
   refine Ev.bm y3 ?_
   intro r hr
   try simp only [hr, bodyM, eE, zb, a1]
   try simp only [t2]
   first | exact Ev.rm rfl | exact Ev.rm (by simp [layT, layTs, mkL])
  ·refine Ev.me ?_
   try simp only [bodyM, eE, zb, a1, zd c hp]
   refine Ev.bm y3 ?_
   intro r hr
   try simp only [hr, bodyM, eE, zb, a1, zd c hp]
   repeat' (first | exact Ev.rm rfl | exact Ev.some rfl | exact dead_all c hp _ rfl | (refine Ev.bm (dead_all c hp _ rfl) ?_; intro r hr; simp only [hr, bodyM, zb, zd c hp]) | (intro r hr; simp only [hr, bodyM, zb, zd c hp]) | refine Ev.bq ?_ ?_)
 ·try simp only [isF_R, hd_R, R_tl]
  refine WW.iteB (fun a4 => ?_) (fun a4 => ?_)
  ·try simp only [isF_R, hd_R, R_tl]
   have f5 : fx (c.T (i)) ≠ [] := fun e => by rw [e] at a4; exact absurd a4 (by decide)
   have t5 := fx_text f5
   have g5 := rfx_in f5
   refine WW.bnd (IH .unary (i + 1) g5 trivial) (fun x6 j6 g6 y6 => ?_) (fun p hp y6 => ?_)
   ·try simp only [isF_R, hd_R, R_tl]
    refine WW.iteB (fun a7 => ?_) (fun a7 => ?_)
    ·try simp only [isF_R, hd_R, R_tl]
     refine WW.ret g6 ?_
     refine Ev.me ?_
     try simp only [bodyM, eE, zb, a1, a4, a7]
     refine Ev.bm y6 ?_
     intro r hr
     try simp only [hr, bodyM, eE, zb, a1, a4, a7]
     try simp only [t5]
     first | exact Ev.rm rfl | exact Ev.rm (by simp [layT, layTs, mkL])
    ·try simp only [isF_R, hd_R, R_tl]
     refine WW.bad hc (fun hp => ?_)
     refine Ev.me ?_
     try simp only [bodyM, eE, zb, a1, a4, a7, zd c hp]
     refine Ev.bm y6 ?_
     intro r hr
     try simp only [hr, bodyM, eE, zb, a1, a4, a7, zd c hp]
     repeat' (first | exact Ev.rm rfl | exact Ev.some rfl | exact dead_all c hp _ rfl | (refine Ev.bm (dead_all c hp _ rfl) ?_; intro r hr; simp only [hr, bodyM, zb, zd c hp]) | (intro r hr; simp only [hr, bodyM, zb, zd c hp]) | refine Ev.bq ?_ ?_)
   ·refine Ev.me ?_
    try simp only [bodyM, eE, zb, a1, a4, zd c hp]
    refine Ev.bm y6 ?_
    intro r hr
    try simp only [hr, bodyM, eE, zb, a1, a4, zd c hp]
    repeat' (first | exact Ev.rm rfl | exact Ev.some rfl | exact dead_all c hp _ rfl | (refine Ev.bm (dead_all c hp _ rfl) ?_; intro r hr; simp only [hr, bodyM, zb, zd c hp]) | (intro r hr; simp only [hr, bodyM, zb, zd c hp]) | refine Ev.bq ?_ ?_)
  ·try simp only [isF_R, hd_R, R_tl]
   refine WW.imp (IH .postfx (i) hi ⟨a1, a4⟩) (fun x j g y => ?_) (fun p hp y => ?_)
   ·try simp only [bodyM, eE, zb, a1, a4]
    first | exact y | (simp only [← lay1, ← lay2, ← lay3]; exact y)
   ·try simp only [bodyM, eE, zb, a1, a4, zd c hp]
    repeat' (first | exact Ev.rm rfl | exact Ev.some rfl | exact dead_all c hp _ rfl | exact y | (simp only [← lay1, ← lay2, ← lay3]; exact y) | (refine Ev.bm (dead_all c hp _ rfl) ?_; intro r hr; simp only [hr, bodyM, zb, zd c hp]) | (intro r hr; simp only [hr, bodyM, zb, zd c hp]) | refine Ev.bq ?_ ?_)
theorem s_bracketed (hc : c.ok) (hR : Rt c) (IH : Ihq c m) (hi : i ≤ c.ts.length) (h0 : prd c .bracketed i) : Srd c m .bracketed i := by
 show WW c (body c.E (Q c.E m) .bracketed (c.R i)) (fun t j => Ev (fun m => M c m .brackets ⟨i, -1⟩) fun r => r = ⟨layT t, 0, ⟨j, -1⟩⟩) (fun p => Ev (fun m => M c m .brackets ⟨i, -1⟩) fun r => r.s = ⟨c.ts.length, p⟩)
 simp only [body, isF_R, hd_R, R_tl]
 refine WW.need hc (by decide) (fun a1 g1 => ?_) (fun a1 hp => ?_)
 ·try simp only [isF_R, hd_R, R_tl]
  refine WW.bnd (IH .expr (i + 1) g1 trivial) (fun x2 j2 g2 y2 => ?_) (fun p hp y2 => ?_)
  ·try simp only [isF_R, hd_R, R_tl]
   refine WW.need hc (by decide) (fun a3 g3 => ?_) (fun a3 hp => ?_)
   ·try simp only [isF_R, hd_R, R_tl]
    refine WW.ret g3 ?_
    refine Ev.me ?_
    try simp only [bodyM, eE, zb, rneed_yes a1, a1, rneed_yes a3, a3]
    refine Ev.bm y2 ?_
    intro r hr
    try simp only [hr, bodyM, eE, zb, rneed_yes a1, a1, rneed_yes a3, a3]
    first | exact Ev.rm rfl | exact Ev.rm (by simp [layT, layTs, mkL])
   ·refine Ev.me ?_
    try simp only [bodyM, eE, zb, rneed_yes a1, a1, rneed_no a3, a3, zd c hp]
    refine Ev.bm y2 ?_
    intro r hr
    try simp only [hr, bodyM, eE, zb, rneed_yes a1, a1, rneed_no a3, a3, zd c hp]
    repeat' (first | exact Ev.rm rfl | exact Ev.some rfl | exact dead_all c hp _ rfl | (refine Ev.bm (dead_all c hp _ rfl) ?_; intro r hr; simp only [hr, bodyM, zb, zd c hp]) | (intro r hr; simp only [hr, bodyM, zb, zd c hp]) | refine Ev.bq ?_ ?_)
  ·refine Ev.me ?_
   try simp only [bodyM, eE, zb, rneed_yes a1, a1, zd c hp]
   refine Ev.bm y2 ?_
   intro r hr
   try simp only [hr, bodyM, eE, zb, rneed_yes a1, a1, zd c hp]
   repeat' (first | exact Ev.rm rfl | exact Ev.some rfl | exact dead_all c hp _ rfl | (refine Ev.bm (dead_all c hp _ rfl) ?_; intro r hr; simp only [hr, bodyM, zb, zd c hp]) | (intro r hr; simp only [hr, bodyM, zb, zd c hp]) | refine Ev.bq ?_ ?_)
 ·refine Ev.me ?_
  try simp only [bodyM, eE, zb, rneed_no a1, a1, zd c hp]
  repeat' (first | exact Ev.rm rfl | exact Ev.some rfl | exact dead_all c hp _ rfl | (refine Ev.bm (dead_all c hp _ rfl) ?_; intro r hr; simp only [hr, bodyM, zb, zd c hp]) | (intro r hr; simp only [hr, bodyM, zb, zd c hp]) | refine Ev.bq ?_ ?_)
theorem s_member (hc : c.ok) (hR : Rt c) (IH : Ihq c m) (hi : i ≤ c.ts.length) (h0 : prd c .member i) : Srd c m .member i := by
 show WW c (body c.E (Q c.E m) .member (c.R i)) (fun t j => Ev (eE c .member i) fun r => r = ⟨layT t, 0, ⟨j, -1⟩⟩) (fun p => Ev (eE c .member i) fun r => r.s = ⟨c.ts.length, p⟩)
 simp only [body, isF_R, hd_R, R_tl]
 refine WW.bnd (IH .primaryOrNew (i) hi trivial) (fun x1 j1 g1 y1 => ?_) (fun p hp y1 => ?_)
 ·try simp only [isF_R, hd_R, R_tl]
  refine WW.imp (IH (.memMore x1) (j1) g1 trivial) (fun x j g y => ?_) (fun p hp y => ?_)
  ·try simp only [bodyM, eE, zb]
   refine Ev.bm y1 ?_
   intro r hr
   try simp only [hr, bodyM, eE, zb]
   first | exact y | (simp only [← lay1, ← lay2, ← lay3]; exact y)
  ·try simp only [bodyM, eE, zb, zd c hp]
   refine Ev.bm y1 ?_
   intro r hr
   try simp only [hr, bodyM, eE, zb, zd c hp]
   repeat' (first | exact Ev.rm rfl | exact Ev.some rfl | exact dead_all c hp _ rfl | exact y | (simp only [← lay1, ← lay2, ← lay3]; exact y) | (refine Ev.bm (dead_all c hp _ rfl) ?_; intro r hr; simp only [hr, bodyM, zb, zd c hp]) | (intro r hr; simp only [hr, bodyM, zb, zd c hp]) | refine Ev.bq ?_ ?_)
 ·try simp only [bodyM, eE, zb, zd c hp]
  refine Ev.bm y1 ?_
  intro r hr
  try simp only [hr, bodyM, eE, zb, zd c hp]
  repeat' (first | exact Ev.rm rfl | exact Ev.some rfl | exact dead_all c hp _ rfl | (refine Ev.bm (dead_all c hp _ rfl) ?_; intro r hr; simp only [hr, bodyM, zb, zd c hp]) | (intro r hr; simp only [hr, bodyM, zb, zd c hp]) | refine Ev.bq ?_ ?_)
theorem s_primaryOrNew (hc : c.ok) (hR : Rt c) (IH : Ihq c m) (hi : i ≤ c.ts.length) (h0 : prd c .primaryOrNew i) : Srd c m .primaryOrNew i := by
 show WW c (body c.E (Q c.E m) .primaryOrNew (c.R i)) (fun t j => Ev (fun m => M c m .first ⟨i, -1⟩) fun r => r = ⟨layT t, 0, ⟨j, -1⟩⟩) (fun p => Ev (fun m => M c m .first ⟨i, -1⟩) fun r => r.s = ⟨c.ts.length, p⟩)
 simp only [body, isF_R, hd_R, R_tl]
 refine WW.iteB (fun a1 => absurd ((hR _ (by decide) _).symm.trans a1) (by decide)) (fun a1 => ?_)
 try simp only [isF_R, hd_R, R_tl]
 refine WW.imp (IH .primary (i) hi trivial) (fun x j g y => ?_) (fun p hp y => ?_)
 ·refine Ev.me ?_
  try simp only [bodyM, eE, zb, a1]
  first | exact y | (simp only [← lay1, ← lay2, ← lay3]; exact y)
 ·refine Ev.me ?_
  try simp only [bodyM, eE, zb, a1, zd c hp]
  repeat' (first | exact Ev.rm rfl | exact Ev.some rfl | exact dead_all c hp _ rfl | exact y | (simp only [← lay1, ← lay2, ← lay3]; exact y) | (refine Ev.bm (dead_all c hp _ rfl) ?_; intro r hr; simp only [hr, bodyM, zb, zd c hp]) | (intro r hr; simp only [hr, bodyM, zb, zd c hp]) | refine Ev.bq ?_ ?_)
end
end Go.Proofs.YtnkfodelgpidkaaGreatDoor
namespace Go.Proofs.YtnkfodelgpidkaaGreatDoor
section
variable {c : Cr} {m i : Nat}
theorem stpQ_ne {stop : List UInt8} (h : stpQ stop) : ∃ a q, stop = a :: q ∧ ([44] == a :: q) = false := by rcases h with rfl | rfl <;> exact ⟨_, _, rfl, rfl⟩
theorem ww_item (hc : c.ok) (IH : Ihq c m) (hi : i ≤ c.ts.length) :
  WW c (Q c.E m .assign (c.R i)) (fun t j => ∀ stop out n K, stpQ stop → Ev (aft c stop (out ++ layT t) (n + 1) ⟨j, -1⟩) K → Ev (fun m => M c m (.listL stop out n) ⟨i, -1⟩) K) (fun p => ∀ stop out n, stpQ stop → Ev (fun m => M c m (.listL stop out n) ⟨i, -1⟩) fun r => r.s = ⟨c.ts.length, p⟩) := by
 refine WW.imp (IH .assign i hi trivial) (fun t j g y => ?_) (fun p hp y => ?_)
 ·intro stop out n K hz h
  refine Ev.me ?_
  simp only [bodyM, neg_live, if_true]
  refine Ev.bm y ?_
  intro r hr
  simp only [hr]
  exact h
 ·intro stop out n hz
  refine Ev.me ?_
  simp only [bodyM, neg_live, if_true]
  refine Ev.bm y ?_
  intro r hr
  obtain ⟨a, q, rfl, _⟩ := stpQ_ne hz
  simp only [hr, isS_dead, need_dead c hp, Bool.false_eq_true, if_false]
  exact dead_all c hp _ rfl
theorem aft_comma {stop : List UInt8} {out : List LN} {n j : Nat} {K : Mr → Prop} (hz : stpQ stop) (a : isS c ⟨j, -1⟩ [44] = true) (k : Ev (fun m => M c m (.listL stop out n) ⟨j + 1, -1⟩) K) : Ev (aft c stop out n ⟨j, -1⟩) K := by
 obtain ⟨b, q, rfl, hb⟩ := stpQ_ne hz
 unfold aft
 simp only [isS_ne a hb, rneed_yes a, Bool.false_eq_true, if_false]; exact k
theorem s_rowMore (hc : c.ok) (it : NT) (IH : Ihq c m) (hi : i ≤ c.ts.length) (h0 : prd c (.rowMore it) i) : Srd c m (.rowMore it) i := by
 obtain rfl : it = .assign := h0
 show WW c (body c.E (Q c.E m) (.rowMore .assign) (c.R i)) (fun t j => isS c ⟨j, -1⟩ [44] = false ∧ ∀ stop out n K, stpQ stop → Ev (aft c stop (out ++ layTs t.kids) (n + t.kids.length) ⟨j, -1⟩) K → Ev (aft c stop out n ⟨i, -1⟩) K) (fun p => ∀ stop out n, stpQ stop → Ev (aft c stop out n ⟨i, -1⟩) fun r => r.s = ⟨c.ts.length, p⟩)
 simp only [body, isF_R, R_tl]
 refine WW.iteB (fun a1 => ?_) (fun a1 => ?_)
 ·refine WW.bnd (ww_item hc IH (isS_in (s := ⟨i, -1⟩) (by decide) a1)) (fun x j g y => ?_) (fun p hp y => ?_)
  ·refine WW.bnd (IH (.rowMore .assign) j g rfl) (fun l k g2 y2 => ?_) (fun p hp y2 => ?_)
   ·refine WW.ret g2 ?_
    obtain ⟨y2, y3⟩ := y2
    refine ⟨y2, fun stop out n K hz h => aft_comma hz a1 (y stop out n K hz (y3 stop _ _ K hz ?_))⟩
    have h : Ev (aft c stop (out ++ layTs (x :: l.kids)) (n + (x :: l.kids).length) ⟨k, -1⟩) K := h
    rw [layTs, ← List.append_assoc, List.length_cons, ← Nat.add_assoc, Nat.add_right_comm] at h
    exact h
   ·intro stop out n hz
    exact aft_comma hz a1 (y stop out n _ hz (y2 stop _ _ hz))
  ·intro stop out n hz
   exact aft_comma hz a1 (y stop out n hz)
 ·refine WW.ret hi ⟨a1, fun stop out n K hz h => ?_⟩
  have h : Ev (aft c stop (out ++ []) (n + 0) ⟨i, -1⟩) K := h
  rw [List.append_nil] at h
  exact h
theorem s_row (hc : c.ok) (it : NT) (IH : Ihq c m) (hi : i ≤ c.ts.length) (h0 : prd c (.row it) i) : Srd c m (.row it) i := by
 obtain rfl : it = .assign := h0
 show WW c (body c.E (Q c.E m) (.row .assign) (c.R i)) (fun t j => isS c ⟨j, -1⟩ [44] = false ∧ ∀ stop out n K, stpQ stop → Ev (aft c stop (out ++ layTs t.kids) (n + t.kids.length) ⟨j, -1⟩) K → Ev (fun m => M c m (.listL stop out n) ⟨i, -1⟩) K) (fun p => ∀ stop out n, stpQ stop → Ev (fun m => M c m (.listL stop out n) ⟨i, -1⟩) fun r => r.s = ⟨c.ts.length, p⟩)
 simp only [body]
 refine WW.bnd (ww_item hc IH hi) (fun x j g y => ?_) (fun p hp y => ?_)
 ·refine WW.bnd (IH (.rowMore .assign) j g rfl) (fun l k g2 y2 => ?_) (fun p hp y2 => ?_)
  ·refine WW.ret g2 ?_
   obtain ⟨y2, y3⟩ := y2
   refine ⟨y2, fun stop out n K hz h => y stop out n K hz (y3 stop _ _ K hz ?_)⟩
   have h : Ev (aft c stop (out ++ layTs (x :: l.kids)) (n + (x :: l.kids).length) ⟨k, -1⟩) K := h
   rw [layTs, ← List.append_assoc, List.length_cons, ← Nat.add_assoc, Nat.add_right_comm] at h
   exact h
  ·intro stop out n hz
   exact y stop out n _ hz (y2 stop _ _ hz)
 ·intro stop out n hz
  exact y stop out n hz
theorem s_list (hc : c.ok) (stop : List UInt8) (it : NT) (IH : Ihq c m) (hi : i ≤ c.ts.length) (h0 : prd c (.list stop it) i) : Srd c m (.list stop it) i := by
 obtain ⟨rfl, hz⟩ := h0
 show WW c (body c.E (Q c.E m) (.list stop .assign) (c.R i)) (fun t j => Ev (fun m => M c m (.list stop) ⟨i, -1⟩) fun r => r = ⟨layTs t.kids, t.kids.length, ⟨j, -1⟩⟩) (fun p => Ev (fun m => M c m (.list stop) ⟨i, -1⟩) fun r => r.s = ⟨c.ts.length, p⟩)
 have hq : stop ≠ [] := by rcases hz with rfl | rfl <;> decide
 simp only [body, isF_R, R_tl]
 refine WW.iteB (fun a1 => ?_) (fun a1 => ?_)
 ·refine WW.ret (isS_in (s := ⟨i, -1⟩) hq a1) ?_
  refine Ev.me ?_
  simp only [bodyM, a1, if_true, up_mk]
  exact Ev.rm rfl
 ·refine WW.bnd (IH (.row .assign) i hi rfl) (fun l j g y => ?_) (fun p hp y => ?_)
  ·refine WW.need hc hq (fun a2 g2 => ?_) (fun a2 hp => ?_)
   ·refine WW.ret g2 ?_
    refine Ev.me ?_
    simp only [bodyM, a1, Bool.false_eq_true, if_false]
    refine y.2 stop [] 0 _ hz ?_
    unfold aft
    simp only [a2, if_true, up_mk]
    rw [List.nil_append, Nat.zero_add]
    exact Ev.some rfl
   ·refine Ev.me ?_
    simp only [bodyM, a1, Bool.false_eq_true, if_false]
    refine y.2 stop [] 0 _ hz ?_
    unfold aft
    simp only [a2, Bool.false_eq_true, if_false, rneed_no y.1]
    exact dead_all c hp _ rfl
  ·refine Ev.me ?_
   simp only [bodyM, a1, Bool.false_eq_true, if_false]
   exact y stop [] 0 hz
theorem s_program (hc : c.ok) (IH : Ihq c m) (hi : i ≤ c.ts.length) (h0 : prd c .program i) : Srd c m .program i := by
 show WW c (body c.E (Q c.E m) .program (c.R i)) (fun t j => ∀ out n, Ev (fun m => M c m (.progL out n) ⟨i, -1⟩) fun r => r = ⟨out ++ layTs t.kids, n + t.kids.length, ⟨j, -1⟩⟩) (fun p => ∀ out n, Ev (fun m => M c m (.progL out n) ⟨i, -1⟩) fun r => r.s = ⟨c.ts.length, p⟩)
 rcases Nat.lt_or_ge i c.ts.length with hlt | hge
 ·have hcons : c.R i = c.ts[i] :: c.R (i + 1) := List.drop_eq_getElem_cons hlt
  have hb : body c.E (Q c.E m) .program (c.R i) = bnd (Q c.E m .element (c.R i)) fun x R1 => bnd (Q c.E m .program R1) fun l R2 => ret (bag (x :: l.kids)) R2 := by
   rw [hcons]; rfl
  rw [hb]
  have hl : (i < c.ts.length) = True := eq_true hlt
  refine WW.bnd (IH .element i hi trivial) (fun x j g y => ?_) (fun p hp y => ?_)
  ·refine WW.bnd (IH .program j g trivial) (fun l k g2 y2 => ?_) (fun p hp y2 => ?_)
   ·refine WW.ret g2 ?_
    intro out n
    refine Ev.me ?_
    simp only [bodyM, neg_live, hl, and_self, if_true]
    refine Ev.bm y ?_
    intro r hr
    simp only [hr]
    refine (y2 _ _).imp fun r hr => ?_
    rw [hr]
    show Mr.mk _ _ _ = Mr.mk (out ++ layTs (x :: l.kids)) (n + (x :: l.kids).length) _
    rw [layTs, ← List.append_assoc, List.length_cons, ← Nat.add_assoc, Nat.add_right_comm n]
   ·intro out n
    refine Ev.me ?_
    simp only [bodyM, neg_live, hl, and_self, if_true]
    refine Ev.bm y ?_
    intro r hr
    simp only [hr]
    exact y2 _ _
  ·intro out n
   refine Ev.me ?_
   simp only [bodyM, neg_live, hl, and_self, if_true]
   refine Ev.bm y ?_
   intro r hr
   simp only [hr]
   exact dead_all c hp _ rfl
 ·have hnil : c.R i = [] := List.drop_eq_nil_of_le hge
  have hb : body c.E (Q c.E m) .program (c.R i) = ret (bag []) (c.R i) := by rw [hnil]; rfl
  rw [hb]
  have hl : (i < c.ts.length) = False := eq_false (by omega)
  refine WW.ret hi ?_
  intro out n
  refine Ev.me ?_
  simp only [bodyM, hl, and_false, if_false]
  exact Ev.some (by show Mr.mk _ _ _ = Mr.mk (out ++ []) (n + 0) _; rw [List.append_nil]; rfl)
theorem s_part (hc : c.ok) (x : Tr) (IH : Ihq c m) (hi : i ≤ c.ts.length) (h0 : prd c (.part x) i) : Srd c m (.part x) i := by
 show WW c (body c.E (Q c.E m) (.part x) (c.R i)) (fun t j => ∀ K, Ev (fun m => M c m (.behind (layT t) true) ⟨j, -1⟩) K → Ev (fun m => M c m (.behind (layT x) true) ⟨i, -1⟩) K) (fun p => Ev (fun m => M c m (.behind (layT x) true) ⟨i, -1⟩) fun r => r.s = ⟨c.ts.length, p⟩)
 simp only [body, isF_R, R_tl]
 refine WW.iteB (fun a1 => ?_) (fun a1 => ?_)
 ·refine WW.key hc (fun b1 g1 => ?_) (fun b1 hp => ?_)
  ·refine WW.ret g1 ?_
   intro K h
   refine Ev.me ?_
   simp only [bodyM, neg_live, if_true, a1, up_mk, key_yes b1]
   rw [lay1] at h
   exact h
  ·skip
   refine Ev.me ?_
   simp only [bodyM, neg_live, if_true, a1, up_mk, key_no b1]
   exact dead_all c hp _ rfl
 ·have a2 : isS c ⟨i, -1⟩ [91] = true := h0.resolve_left (by rw [a1]; decide)
  refine WW.need hc (by decide) (fun a3 g1 => ?_) (fun a3 hp => absurd (a2.symm.trans a3) (by decide))
  refine WW.bnd (IH .expr (i + 1) g1 trivial) (fun y j g y1 => ?_) (fun p hp y1 => ?_)
  ·refine WW.need hc (by decide) (fun a4 g4 => ?_) (fun a4 hp => ?_)
   ·refine WW.ret g4 ?_
    intro K h
    refine Ev.me ?_
    simp only [bodyM, neg_live, if_true, a1, a2, Bool.false_eq_true, if_false, up_mk]
    refine Ev.bm y1 ?_
    intro r hr
    simp only [hr, rneed_yes a4]
    rw [lay2] at h
    exact h
   ·skip
    refine Ev.me ?_
    simp only [bodyM, neg_live, if_true, a1, a2, Bool.false_eq_true, if_false, up_mk]
    refine Ev.bm y1 ?_
    intro r hr
    simp only [hr, rneed_no a4]
    exact dead_all c hp _ rfl
  ·skip
   refine Ev.me ?_
   simp only [bodyM, neg_live, if_true, a1, a2, Bool.false_eq_true, if_false, up_mk]
   refine Ev.bm y1 ?_
   intro r hr
   simp only [hr, need_dead c hp]
   exact dead_all c hp _ rfl
theorem s_called (hc : c.ok) (x : Tr) (IH : Ihq c m) (hi : i ≤ c.ts.length) (h0 : prd c (.called x) i) : Srd c m (.called x) i := by
 have a0 : isS c ⟨i, -1⟩ [40] = true := h0
 show WW c (body c.E (Q c.E m) (.called x) (c.R i)) (fun t j => Ev (fun m => M c m (.list [41]) ⟨i + 1, -1⟩) fun r => layT x ++ r.l = layTs t.kids ∧ 1 + r.n = t.kids.length ∧ r.s = ⟨j, -1⟩) (fun p => Ev (fun m => M c m (.list [41]) ⟨i + 1, -1⟩) fun r => r.s = ⟨c.ts.length, p⟩)
 simp only [body]
 refine WW.need hc (by decide) (fun a1 g1 => ?_) (fun a1 hp => absurd (a0.symm.trans a1) (by decide))
 refine WW.bnd (IH (.list [41] .assign) (i + 1) g1 ⟨rfl, .inl rfl⟩) (fun l j g y => ?_) (fun p hp y => ?_)
 ·refine WW.ret g ?_
  refine y.imp fun r hr => ?_
  rw [hr]
  exact ⟨by show _ = layTs (x :: l.kids); rw [layTs], by show _ = (x :: l.kids).length; rw [List.length_cons, Nat.add_comm], rfl⟩
 ·exact y
theorem s_memMore (hc : c.ok) (x : Tr) (IH : Ihq c m) (hi : i ≤ c.ts.length) (h0 : prd c (.memMore x) i) : Srd c m (.memMore x) i := by
 show WW c (body c.E (Q c.E m) (.memMore x) (c.R i)) (fun t j => Ev (fun m => M c m (.behind (layT x) true) ⟨i, -1⟩) fun r => r = ⟨layT t, 0, ⟨j, -1⟩⟩) (fun p => Ev (fun m => M c m (.behind (layT x) true) ⟨i, -1⟩) fun r => r.s = ⟨c.ts.length, p⟩)
 simp only [body, isF_R, R_tl]
 refine WW.iteB (fun a1 => ?_) (fun a1 => WW.iteB (fun a2 => ?_) (fun a2 => WW.iteB (fun a3 => ?_) (fun a3 => ?_)))
 ·refine WW.bnd (IH (.part x) i hi (.inl a1)) (fun y j g y1 => ?_) (fun p hp y1 => y1)
  exact WW.imp (IH (.memMore y) j g trivial) (fun t k g y2 => y1 _ y2) (fun p hp y2 => y1 _ y2)
 ·refine WW.bnd (IH (.part x) i hi (.inr a2)) (fun y j g y1 => ?_) (fun p hp y1 => y1)
  exact WW.imp (IH (.memMore y) j g trivial) (fun t k g y2 => y1 _ y2) (fun p hp y2 => y1 _ y2)
 ·refine WW.bnd (IH (.called x) i hi a3) (fun l j g y1 => ?_) (fun p hp y1 => ?_)
  ·have hk : ∀ r : Mr, layT x ++ r.l = layTs l.kids ∧ 1 + r.n = l.kids.length ∧ r.s = ⟨j, -1⟩ → mkL 34 [] (1 + r.n) (layT x ++ r.l) = layT (nd 34 [] l.kids) := fun r hr => by rw [hr.1, hr.2.1, lay_nd]
   refine WW.imp (IH (.memMore (nd 34 [] l.kids)) j g trivial) (fun t k g y2 => ?_) (fun p hp y2 => ?_)
   all_goals
    refine Ev.me ?_
    simp only [bodyM, neg_live, if_true, a1, a2, a3, Bool.false_eq_true, if_false, up_mk, and_self]
    refine Ev.bm y1 ?_
    intro r hr
    simp only [hk r hr, hr.2.2]
    exact y2
  ·refine Ev.me ?_
   simp only [bodyM, neg_live, if_true, a1, a2, a3, Bool.false_eq_true, if_false, up_mk, and_self]
   refine Ev.bm y1 ?_
   intro r hr
   simp only [hr]
   exact dead_all c hp _ rfl
 ·refine WW.ret hi ?_
  refine Ev.me ?_
  simp only [bodyM, neg_live, if_true, a1, a2, a3, Bool.false_eq_true, if_false, and_false]
  exact Ev.rm rfl
theorem s_binMore (hc : c.ok) (l : Int) (x : Tr) (IH : Ihq c m) (hi : i ≤ c.ts.length) (h0 : prd c (.binMore l x) i) : Srd c m (.binMore l x) i := by
 have a0 : 1 ≤ l := h0
 show WW c (body c.E (Q c.E m) (.binMore l x) (c.R i)) (fun t j => Ev (fun m => M c m (.binL l (layT x)) ⟨i, -1⟩) fun r => r = ⟨layT t, 0, ⟨j, -1⟩⟩) (fun p => Ev (fun m => M c m (.binL l (layT x)) ⟨i, -1⟩) fun r => r.s = ⟨c.ts.length, p⟩)
 simp only [body, hd_R, R_tl]
 refine WW.ite (fun a1 => ?_) (fun a1 => ?_)
 ·refine WW.ret hi ?_
  refine Ev.me ?_
  simp only [bodyM, neg_live, if_true, a1, true_or]
  exact Ev.rm rfl
 ·have hl : ¬ (levelI (fx (c.T i)) < l ∨ levelI (fx (c.T i)) = 0) := by omega
  have hin : i + 1 ≤ c.ts.length := rfx_in fun e => by rw [e, lev_nil] at a1; omega
  refine WW.bnd (IH (.binary (levelI (fx (c.T i)) + 1)) (i + 1) hin (show 1 ≤ levelI (fx (c.T i)) + 1 by omega)) (fun y j g y1 => ?_) (fun p hp y1 => ?_)
  ·refine WW.imp (IH (.binMore l (nd (if levelI (fx (c.T i)) ≤ 2 then 39 else 38) (fx (c.T i)) [x, y])) j g a0) (fun t k g y2 => ?_) (fun p hp y2 => ?_)
   all_goals
    refine Ev.me ?_
    simp only [bodyM, neg_live, if_true, if_neg hl, up_mk]
    refine Ev.bm y1 ?_
    intro r hr
    simp only [hr]
    rw [← lay2]
    exact y2
  ·refine Ev.me ?_
   simp only [bodyM, neg_live, if_true, if_neg hl, up_mk]
   refine Ev.bm y1 ?_
   intro r hr
   simp only [hr]
   exact dead_all c hp _ rfl
theorem s_postfix (hc : c.ok) (IH : Ihq c m) (hi : i ≤ c.ts.length) (h0 : prd c .postfx i) : Srd c m .postfx i := by
 obtain ⟨a1, a2⟩ := h0
 show WW c (body c.E (Q c.E m) .postfx (c.R i)) (fun t j => Ev (fun m => M c m .unary ⟨i, -1⟩) fun r => r = ⟨layT t, 0, ⟨j, -1⟩⟩) (fun p => Ev (fun m => M c m .unary ⟨i, -1⟩) fun r => r.s = ⟨c.ts.length, p⟩)
 simp only [body]
 refine WW.bnd (IH .member i hi trivial) (fun x j g y => ?_) (fun p hp y => ?_)
 ·simp only [hd_R, R_tl]
  refine WW.iteB (fun a3 => ?_) (fun a3 => ?_)
  ·have f3 : fx (c.T j) ≠ [] := fun e => by rw [e] at a3; exact absurd a3 (by decide)
   refine WW.iteB (fun a4 => ?_) (fun a4 => ?_)
   ·refine WW.ret (rfx_in f3) ?_
    refine Ev.me ?_
    simp only [bodyM, a1, a2, Bool.false_eq_true, if_false]
    refine Ev.bb y ?_
    intro r hr
    simp only [hr, a3, if_true, tg_lay, a4, up_mk]
    exact Ev.rm (by rw [fx_text f3]; simp [layT, layTs])
   ·refine WW.bad hc (fun hp => ?_)
    refine Ev.me ?_
    simp only [bodyM, a1, a2, Bool.false_eq_true, if_false]
    refine Ev.bb y ?_
    intro r hr
    simp only [hr, a3, if_true, tg_lay, a4, Bool.false_eq_true, if_false, stop_live]
    exact Ev.rm rfl
  ·refine WW.ret g ?_
   refine Ev.me ?_
   simp only [bodyM, a1, a2, Bool.false_eq_true, if_false]
   refine Ev.bb y ?_
   intro r hr
   simp only [hr, a3, Bool.false_eq_true, if_false]
   exact Ev.rm rfl
 ·refine Ev.me ?_
  simp only [bodyM, a1, a2, Bool.false_eq_true, if_false]
  refine Ev.bb y ?_
  intro r hr
  simp only [hr, fx_dead, step_nil, Bool.false_eq_true, if_false]
  exact Ev.rm rfl
theorem s_primary (hc : c.ok) (ht : TokF c) (IH : Ihq c m) (hi : i ≤ c.ts.length) (h0 : prd c .primary i) : Srd c m .primary i := by
 show WW c (body c.E (Q c.E m) .primary (c.R i)) (fun t j => Ev (fun m => M c m .primary ⟨i, -1⟩) fun r => r = ⟨layT t, 0, ⟨j, -1⟩⟩) (fun p => Ev (fun m => M c m .primary ⟨i, -1⟩) fun r => r.s = ⟨c.ts.length, p⟩)
 simp only [body, hd_R, R_tl]
 refine WW.ite (fun a1 => ?_) (fun a1 => WW.ite (fun a2 => ?_) (fun a2 => WW.ite (fun a3 => ?_) (fun a3 => ?_)))
 ·have K : ∀ a q, isS c ⟨i, -1⟩ (a :: q) = false := fun a q => isS_kind (by omega) (by omega) _
  rw [ht.bits i (by omega)]
  refine WW.ret (kind_inR (by omega)) ?_
  refine Ev.me ?_
  simp only [bodyM, K, Bool.false_eq_true, if_false, a1, if_true, up_mk]
  exact Ev.rm (by rw [← lay0])
 ·have K : ∀ a q, isS c ⟨i, -1⟩ (a :: q) = false := fun a q => isS_kind (by omega) (by omega) _
  rw [ht.text i a2]
  refine WW.ret (kind_inR (by omega)) ?_
  refine Ev.me ?_
  simp only [bodyM, K, Bool.false_eq_true, if_false, a2, if_true, up_mk, show ¬ ((3 : Int) = 1) by decide, show ¬ ((3 : Int) = 4) by decide]
  exact Ev.rm (by simp [layT, layTs])
 ·have K : ∀ a q, isS c ⟨i, -1⟩ (a :: q) = false := fun a q => isS_kind (by omega) (by omega) _
  rw [ht.bits i (by omega)]
  refine WW.ret (kind_inR (by omega)) ?_
  refine Ev.me ?_
  simp only [bodyM, K, Bool.false_eq_true, if_false, a3, if_true, up_mk, show ¬ ((4 : Int) = 1) by decide]
  exact Ev.rm (by rw [← lay0])
 ·exact IH .fixedPrimary i hi ⟨a1, a2, a3⟩
theorem s_fixedPrimary (hc : c.ok) (hR : Rt c) (IH : Ihq c m) (hi : i ≤ c.ts.length) (h0 : prd c .fixedPrimary i) : Srd c m .fixedPrimary i := by
 obtain ⟨b1, b2, b3⟩ := h0
 show WW c (body c.E (Q c.E m) .fixedPrimary (c.R i)) (fun t j => Ev (fun m => M c m .primary ⟨i, -1⟩) fun r => r = ⟨layT t, 0, ⟨j, -1⟩⟩) (fun p => Ev (fun m => M c m .primary ⟨i, -1⟩) fun r => r.s = ⟨c.ts.length, p⟩)
 simp only [body, isF_R, R_tl]
 refine WW.iteB (fun a => absurd ((hR _ (by decide) _).symm.trans a) (by decide)) (fun a1 => WW.iteB (fun a => absurd ((hR _ (by decide) _).symm.trans a) (by decide)) (fun a2 => WW.iteB (fun a => absurd ((hR _ (by decide) _).symm.trans a) (by decide)) (fun a3 => WW.iteB (fun a => absurd ((hR _ (by decide) _).symm.trans a) (by decide)) (fun a4 => WW.iteB (fun a5 => ?_) (fun a5 => WW.iteB (fun a6 => ?_) (fun a6 => WW.iteB (fun a => absurd ((hR _ (by decide) _).symm.trans a) (by decide)) (fun a7 => WW.iteB (fun a => absurd ((hR _ (by decide) _).symm.trans a) (by decide)) (fun a8 => ?_))))))))
 ·refine WW.imp (IH .bracketed i hi trivial) (fun t j g y => ?_) (fun p hp y => ?_)
  all_goals
   refine Ev.me ?_
   simp only [bodyM, a1, a2, a3, a4, a5, Bool.false_eq_true, if_false, if_true]
   exact y
 ·refine WW.bnd (IH (.list [93] .assign) (i + 1) (isS_in (s := ⟨i, -1⟩) (by decide) a6) ⟨rfl, .inr rfl⟩) (fun l j g y => ?_) (fun p hp y => ?_)
  ·refine WW.ret g ?_
   refine Ev.me ?_
   simp only [bodyM, a1, a2, a3, a4, a5, a6, Bool.false_eq_true, if_false, if_true, up_mk]
   refine Ev.bm y ?_
   intro r hr
   simp only [hr]
   exact Ev.rm (by rw [lay_nd])
  ·refine Ev.me ?_
   simp only [bodyM, a1, a2, a3, a4, a5, a6, Bool.false_eq_true, if_false, if_true, up_mk]
   refine Ev.bm y ?_
   intro r hr
   exact Ev.rm hr
 ·refine WW.bad hc (fun hp => ?_)
  refine Ev.me ?_
  simp only [bodyM, a1, a2, a3, a4, a5, a6, a7, a8, Bool.false_eq_true, if_false, b1, b2, b3, stop_live]
  exact Ev.rm rfl
end
end Go.Proofs.YtnkfodelgpidkaaGreatDoor
namespace Go.Proofs.YtnkfodelgpidkaaGreatDoor
theorem ww_all {c : Cr} (hc : c.ok) (ht : TokF c) (hR : Rt c) : ∀ (n : Nat), Ihq c n
 | 0 => fun _ _ _ _ => by intro r hr; cases hr
 | m + 1 => fun nt i hi h0 => by
  have IH := ww_all hc ht hR m
  show Srd c m nt i
  cases nt with
  | element => exact s_element hc hR IH hi h0
  | statement => exact s_statement hc hR IH hi h0
  | expr => exact s_expr hc hR IH hi h0
  | assign => exact s_assign hc hR IH hi h0
  | cond => exact s_cond hc hR IH hi h0
  | unary => exact s_unary hc hR IH hi h0
  | postfx => exact s_postfix hc IH hi h0
  | member => exact s_member hc hR IH hi h0
  | primaryOrNew => exact s_primaryOrNew hc hR IH hi h0
  | primary => exact s_primary hc ht IH hi h0
  | fixedPrimary => exact s_fixedPrimary hc hR IH hi h0
  | bracketed => exact s_bracketed hc hR IH hi h0
  | program => exact s_program hc IH hi h0
  | exprMore x => exact s_exprMore hc hR x IH hi h0
  | binary l => exact s_binary hc hR l IH hi h0
  | binMore l x => exact s_binMore hc l x IH hi h0
  | memMore x => exact s_memMore hc x IH hi h0
  | part x => exact s_part hc x IH hi h0
  | called x => exact s_called hc x IH hi h0
  | row it => exact s_row hc it IH hi h0
  | rowMore it => exact s_rowMore hc it IH hi h0
  | list stop it => exact s_list hc stop it IH hi h0
  | _ => exact h0.elim
theorem prog_reads {c : Cr} (hc : c.ok) (ht : TokF c) (hR : Rt c) {t : Tr} {R : List Tk} (h : D c.E .program c.ts (.ok (t, R))) : ∃ j, j ≤ c.ts.length ∧ R = c.R j ∧ ∀ out n, MD c (.progL out n) ⟨0, -1⟩ ⟨out ++ layTs t.kids, n + t.kids.length, ⟨j, -1⟩⟩ := by
 obtain ⟨n, h⟩ := h
 obtain ⟨j, h1, h2, h3⟩ := ww_all hc ht hR n .program 0 (Nat.zero_le _) trivial _ (h n (Nat.le_refl _))
 refine ⟨j, h1, h2, fun out k => ?_⟩
 obtain ⟨r, hm, hr⟩ := (h3 out k).to
 subst hr
 exact hm
theorem prog_stops {c : Cr} (hc : c.ok) (ht : TokF c) (hR : Rt c) {p : Int} (h : D c.E .program c.ts (.error p)) : 0 ≤ p ∧ ∀ out n, ∃ r, MD c (.progL out n) ⟨0, -1⟩ r ∧ r.s = ⟨c.ts.length, p⟩ := by
 obtain ⟨n, h⟩ := h
 obtain ⟨h1, h3⟩ := ww_all hc ht hR n .program 0 (Nat.zero_le _) trivial _ (h n (Nat.le_refl _))
 exact ⟨h1, fun out k => (h3 out k).to⟩
end Go.Proofs.YtnkfodelgpidkaaGreatDoor
