/- Part of a proof: contracts of functions. -/
import Derived.Test.YtfcgpphodacdmaaGreatDoorY28
set_option maxRecDepth 100000
set_option maxHeartbeats 4000000
set_option linter.all false
namespace Go.Proofs.YtfcgpphodacdmaaGreatDoor
section
mutual
def yA : Tr → Bool
 | .node k x b kids => (k == 7 && kids.length == 2) || ((k == 7 || k == 8 || k == 10) && qy kids)
def qy : List Tr → Bool
 | [] => false
 | t :: l => match l with
  | [] => yA t
  | _ :: _ => qy l
end
section
variable {E : Int}
abbrev els : List UInt8 := [101, 108, 115, 101]
abbrev zcd : List UInt8 := [102, 105, 110, 97, 108, 108, 121]
structure Sp (E : Int) (t : Tr) : Prop where
 rd : ∀ R, isF E zcd R = false → (yA t = true → isF E els R = false) → D E .statement (tF t ++ R) (.ok (t, R))
 els : ∀ R, isF E els (tF t ++ R) = false
 shut : ∀ R, isF E [125] (tF t ++ R) = false
 fin : ∀ R, isF E zcd (tF t ++ R) = false
 fnw : ∀ R, isF E [102, 117, 110, 99, 116, 105, 111, 110] (tF t ++ R) = false
theorem zbM {e : Tr} (h : Ep E e) (R : List Tk) : D E .bracketed (sg [40] :: (tF e ++ sg [41] :: R)) (.ok (e, R)) := by
 have e1 : isF E [40] (sg [40] :: (tF e ++ sg [41] :: R)) = true := rfl;have e2 : isF E [41] (sg [41] :: R) = true := rfl;exact D.mk1 (h (sg [41] :: R) (xN (.inl rfl)) rfl) fun m h0 => by
  simp only [zg, need, e1, if_true, List.tail_cons, h0, bnd, e2]; rfl
theorem zkA {e : Tr} (h : Ep E e) (R : List Tk) : D E .expr (sg [40] :: (tF e ++ sg [41] :: sg [59] :: R)) (.ok (e, sg [59] :: R)) :=
 uM (zmk (zha _) (zg9 (h (sg [41] :: sg [59] :: R) (xN (.inl rfl)) rfl)) (xN (.inr (.inl rfl)))) rfl
theorem zkB {e : Tr} (h : Pr E e) (R : List Tk) : D E .expr (pT e ++ sg [59] :: R) (.ok (e, sg [59] :: R)) := uM (h.asg (xN (.inr (.inl rfl)))) rfl
theorem qU (R : List Tk) : isF E [59] (sg [59] :: R) = true := rfl
theorem zlk : Sp E (nd 5 [] []) := by
 have e : tF (nd 5 [] []) = [sg [59]] := by rw [nd, zA]; rfl
 refine ⟨fun R hf _ => ?_, fun R => by rw [e]; rfl, fun R => by rw [e]; rfl, fun R => by rw [e]; rfl, fun R => by rw [e]; rfl⟩;rw [e];have g : ∀ s : List UInt8, isF E s ([sg [59]] ++ R) = ([59] == s) := fun s => rfl
 exact D.mk0 fun m => by simp only [zg, g, need]; rfl
theorem zll {a : Tr} (h : Ep E a) : Sp E (nd 6 [] [a]) := by
 have e : ∀ R, tF (nd 6 [] [a]) ++ R = sg [40] :: (tF a ++ sg [41] :: sg [59] :: R) := fun R => by
  rw [nd, zA, yv, show ∀ (x : List UInt8) (b : Int) (f p e : List (List Tk)), xi 6 x b f p e = sg [40] :: (f.flatten ++ [sg [41], sg [59]]) from fun _ _ _ _ _ => rfl]; simp
 refine ⟨fun R hf _ => ?_, fun R => by rw [e]; rfl, fun R => by rw [e]; rfl, fun R => by rw [e]; rfl, fun R => by rw [e]; rfl⟩;rw [e];have g : ∀ s : List UInt8, isF E s (sg [40] :: (tF a ++ sg [41] :: sg [59] :: R)) = ([40] == s) := fun s => rfl
 exact D.mk1 (zkA h R) fun m h0 => by
  simp only [zg, g];show bnd (Q E m .expr (sg [40] :: (tF a ++ sg [41] :: sg [59] :: R))) _ = _
  simp only [h0, bnd, need, qU, if_true, List.tail_cons]; rfl
theorem zlm {a s : Tr} (h : Ep E a) (g : Sp E s) : Sp E (nd 8 [] [a, s]) := by
 have e : ∀ R, tF (nd 8 [] [a, s]) ++ R = wd [119, 104, 105, 108, 101] :: sg [40] :: (tF a ++ sg [41] :: (tF s ++ R)) := fun R => by
  rw [nd, zA, yv, List.map_cons, List.map_cons, List.map_nil, show ∀ (x : List UInt8) (b : Int) (p q u v : List (List Tk)) (a c : List Tk), xi 8 x b [a, c] p q = wd [119, 104, 105, 108, 101] :: sg [40] :: (a ++ sg [41] :: c) from fun _ _ _ _ _ _ _ _ => rfl]
  ·simp
  ·exact []
  ·exact []
 refine ⟨fun R hf ho => ?_, fun R => by rw [e]; rfl, fun R => by rw [e]; rfl, fun R => by rw [e]; rfl, fun R => by rw [e]; rfl⟩;rw [e];have ho2 : yA s = true → isF E els R = false := fun h => ho (by simp [yA, qy, nd, h])
 have e1 : isF E [119, 104, 105, 108, 101] (wd [119, 104, 105, 108, 101] :: sg [40] :: (tF a ++ sg [41] :: (tF s ++ R))) = true := rfl;have f : ∀ q : List UInt8, isF E q (wd [119, 104, 105, 108, 101] :: sg [40] :: (tF a ++ sg [41] :: (tF s ++ R))) = ([119, 104, 105, 108, 101] == q) := fun q => rfl
 have h1 : D E .whileDo (wd [119, 104, 105, 108, 101] :: sg [40] :: (tF a ++ sg [41] :: (tF s ++ R))) (.ok (nd 8 [] [a, s], R)) := D.mk2 (zbM h (tF s ++ R)) (g.rd R hf ho2) fun m h0 h1 => by
  simp only [zg, need, e1, if_true, List.tail_cons, h0, bnd, h1]; rfl
 exact D.mk1 h1 fun m h0 => by simp only [zg, f]; exact h0
theorem zpI {a s : Tr} (h : Ep E a) (g : Sp E s) : Sp E (nd 7 [] [a, s]) := by
 have e : ∀ R, tF (nd 7 [] [a, s]) ++ R = wd [105, 102] :: sg [40] :: (tF a ++ sg [41] :: (tF s ++ R)) := fun R => by
  have : tF (nd 7 [] [a, s]) = wd [105, 102] :: sg [40] :: (tF a ++ sg [41] :: tF s) := by rw [nd, zA, yv]; rfl
  rw [this]; simp
 refine ⟨fun R hf ho => ?_, fun R => by rw [e]; rfl, fun R => by rw [e]; rfl, fun R => by rw [e]; rfl, fun R => by rw [e]; rfl⟩;rw [e];have ho2 : isF E els R = false := ho (by simp [yA, nd]);have e1 : isF E [105, 102] (wd [105, 102] :: sg [40] :: (tF a ++ sg [41] :: (tF s ++ R))) = true := rfl;have f : ∀ q : List UInt8, isF E q (wd [105, 102] :: sg [40] :: (tF a ++ sg [41] :: (tF s ++ R))) = ([105, 102] == q) := fun q => rfl
 have h1 : D E .ifElse (wd [105, 102] :: sg [40] :: (tF a ++ sg [41] :: (tF s ++ R))) (.ok (nd 7 [] [a, s], R)) := D.mk2 (zbM h (tF s ++ R)) (g.rd R hf fun _ => ho2) fun m h0 h1 => by
  simp only [zg, need, e1, if_true, List.tail_cons, h0, bnd, h1];rw [show isF E [101, 108, 115, 101] R = false from ho2]; rfl
 exact D.mk1 h1 fun m h0 => by simp only [zg, f]; exact h0
theorem zpJ {a s u : Tr} (h : Ep E a) (g : Sp E s) (hs : yA s = false) (i : Sp E u) : Sp E (nd 7 [] [a, s, u]) := by
 have e : ∀ R, tF (nd 7 [] [a, s, u]) ++ R = wd [105, 102] :: sg [40] :: (tF a ++ sg [41] :: (tF s ++ wd els :: (tF u ++ R))) := fun R => by
  have : tF (nd 7 [] [a, s, u]) = wd [105, 102] :: sg [40] :: (tF a ++ sg [41] :: (tF s ++ wd els :: tF u)) := by rw [nd, zA, yv]; rfl
  rw [this]; simp
 refine ⟨fun R hf ho => ?_, fun R => by rw [e]; rfl, fun R => by rw [e]; rfl, fun R => by rw [e]; rfl, fun R => by rw [e]; rfl⟩;rw [e];have ho2 : yA u = true → isF E els R = false := fun h => ho (by simp [yA, qy, nd, h])
 have e1 : isF E [105, 102] (wd [105, 102] :: sg [40] :: (tF a ++ sg [41] :: (tF s ++ wd els :: (tF u ++ R)))) = true := rfl;have e2 : isF E [101, 108, 115, 101] (wd els :: (tF u ++ R)) = true := rfl;have f : ∀ q : List UInt8, isF E q (wd [105, 102] :: sg [40] :: (tF a ++ sg [41] :: (tF s ++ wd els :: (tF u ++ R)))) = ([105, 102] == q) := fun q => rfl
 have h1 : D E .ifElse (wd [105, 102] :: sg [40] :: (tF a ++ sg [41] :: (tF s ++ wd els :: (tF u ++ R)))) (.ok (nd 7 [] [a, s, u], R)) := D.mk3 (zbM h (tF s ++ wd els :: (tF u ++ R))) (g.rd (wd els :: (tF u ++ R)) rfl fun h => by rw [hs] at h; cases h) (i.rd R hf ho2) fun m h0 h1 h2 => by
  simp only [zg, need, e1, if_true, List.tail_cons, h0, bnd, h1, e2, h2]; rfl
 exact D.mk1 h1 fun m h0 => by simp only [zg, f]; exact h0
theorem zjx : Sp E (nd 11 [] []) := by
 have e : tF (nd 11 [] []) = [wd [98, 114, 101, 97, 107], sg [59]] := by rw [nd, zA]; rfl
 refine ⟨fun R hf _ => ?_, fun R => by rw [e]; rfl, fun R => by rw [e]; rfl, fun R => by rw [e]; rfl, fun R => by rw [e]; rfl⟩;rw [e];have h1 : D E (.leave 11) ([wd [98, 114, 101, 97, 107], sg [59]] ++ R) (.ok (nd 11 [] [], R)) := D.mk0 fun m => by
  show need E [59] (sg [59] :: R) _ = _
  simp only [need, qU, if_true, List.tail_cons]; rfl
 have f : ∀ q : List UInt8, isF E q ([wd [98, 114, 101, 97, 107], sg [59]] ++ R) = ([98, 114, 101, 97, 107] == q) := fun q => rfl
 exact D.mk1 h1 fun m h0 => by simp only [zg, f]; exact h0
theorem zjy : Sp E (nd 12 [] []) := by
 have e : tF (nd 12 [] []) = [wd [99, 111, 110, 116, 105, 110, 117, 101], sg [59]] := by rw [nd, zA]; rfl
 refine ⟨fun R hf _ => ?_, fun R => by rw [e]; rfl, fun R => by rw [e]; rfl, fun R => by rw [e]; rfl, fun R => by rw [e]; rfl⟩;rw [e];have h1 : D E (.leave 12) ([wd [99, 111, 110, 116, 105, 110, 117, 101], sg [59]] ++ R) (.ok (nd 12 [] [], R)) := D.mk0 fun m => by
  show need E [59] (sg [59] :: R) _ = _
  simp only [need, qU, if_true, List.tail_cons]; rfl
 have f : ∀ q : List UInt8, isF E q ([wd [99, 111, 110, 116, 105, 110, 117, 101], sg [59]] ++ R) = ([99, 111, 110, 116, 105, 110, 117, 101] == q) := fun q => rfl
 exact D.mk1 h1 fun m h0 => by simp only [zg, f]; exact h0
theorem zln {a : Tr} (h : Pr E a) : Sp E (nd 14 [] [a]) := by
 have e : ∀ R, tF (nd 14 [] [a]) ++ R = wd [116, 104, 114, 111, 119] :: (pT a ++ sg [59] :: R) := fun R => by
  have : tF (nd 14 [] [a]) = wd [116, 104, 114, 111, 119] :: (([pT a] : List (List Tk)).flatten ++ [sg [59]]) := by rw [nd, zA, yi]; rfl
  rw [this]; simp
 refine ⟨fun R hf _ => ?_, fun R => by rw [e]; rfl, fun R => by rw [e]; rfl, fun R => by rw [e]; rfl, fun R => by rw [e]; rfl⟩;rw [e];have e1 : isF E [116, 104, 114, 111, 119] (wd [116, 104, 114, 111, 119] :: (pT a ++ sg [59] :: R)) = true := rfl;have f : ∀ q : List UInt8, isF E q (wd [116, 104, 114, 111, 119] :: (pT a ++ sg [59] :: R)) = ([116, 104, 114, 111, 119] == q) := fun q => rfl
 have h1 : D E .throwIt (wd [116, 104, 114, 111, 119] :: (pT a ++ sg [59] :: R)) (.ok (nd 14 [] [a], R)) := D.mk1 (zkB h R) fun m h0 => by
  simp only [zg, need, e1, if_true, List.tail_cons, h0, bnd, qU]; rfl
 exact D.mk1 h1 fun m h0 => by simp only [zg, f]; exact h0
theorem zhV : Sp E (nd 13 [] []) := by
 have e : tF (nd 13 [] []) = [wd [114, 101, 116, 117, 114, 110], sg [59]] := by rw [nd, zA]; rfl
 refine ⟨fun R hf _ => ?_, fun R => by rw [e]; rfl, fun R => by rw [e]; rfl, fun R => by rw [e]; rfl, fun R => by rw [e]; rfl⟩;rw [e];have e1 : isF E [114, 101, 116, 117, 114, 110] ([wd [114, 101, 116, 117, 114, 110], sg [59]] ++ R) = true := rfl;have h1 : D E .giveBack ([wd [114, 101, 116, 117, 114, 110], sg [59]] ++ R) (.ok (nd 13 [] [], R)) := D.mk0 fun m => by
  simp only [zg, need, e1, if_true];show (if isF E [59] (sg [59] :: R) = true then need E [59] (sg [59] :: R) _ else _) = _
  simp only [need, qU, if_true, List.tail_cons]; rfl
 have f : ∀ q : List UInt8, isF E q ([wd [114, 101, 116, 117, 114, 110], sg [59]] ++ R) = ([114, 101, 116, 117, 114, 110] == q) := fun q => rfl
 exact D.mk1 h1 fun m h0 => by simp only [zg, f]; exact h0
theorem zhW {a : Tr} (h : Pr E a) (hn : ∀ Y, isF E [59] (pT a ++ Y) = false) : Sp E (nd 13 [] [a]) := by
 have e : ∀ R, tF (nd 13 [] [a]) ++ R = wd [114, 101, 116, 117, 114, 110] :: (pT a ++ sg [59] :: R) := fun R => by
  have : tF (nd 13 [] [a]) = wd [114, 101, 116, 117, 114, 110] :: (([pT a] : List (List Tk)).flatten ++ [sg [59]]) := by rw [nd, zA, yi]; rfl
  rw [this]; simp
 refine ⟨fun R hf _ => ?_, fun R => by rw [e]; rfl, fun R => by rw [e]; rfl, fun R => by rw [e]; rfl, fun R => by rw [e]; rfl⟩;rw [e];have e1 : isF E [114, 101, 116, 117, 114, 110] (wd [114, 101, 116, 117, 114, 110] :: (pT a ++ sg [59] :: R)) = true := rfl;have f : ∀ q : List UInt8, isF E q (wd [114, 101, 116, 117, 114, 110] :: (pT a ++ sg [59] :: R)) = ([114, 101, 116, 117, 114, 110] == q) := fun q => rfl
 have h1 : D E .giveBack (wd [114, 101, 116, 117, 114, 110] :: (pT a ++ sg [59] :: R)) (.ok (nd 13 [] [a], R)) := D.mk1 (zkB h R) fun m h0 => by
  simp only [zg, need, e1, if_true, List.tail_cons, hn, zc, if_false, h0, bnd, qU]; rfl
 exact D.mk1 h1 fun m h0 => by simp only [zg, f]; exact h0
theorem zrh {a s : Tr} (g : Sp E s) (h : Ep E a) : Sp E (nd 9 [] [s, a]) := by
 have e : ∀ R, tF (nd 9 [] [s, a]) ++ R = wd [100, 111] :: (tF s ++ wd [119, 104, 105, 108, 101] :: sg [40] :: (tF a ++ sg [41] :: sg [59] :: R)) := fun R => by
  have : tF (nd 9 [] [s, a]) = wd [100, 111] :: (tF s ++ wd [119, 104, 105, 108, 101] :: sg [40] :: (tF a ++ [sg [41], sg [59]])) := by rw [nd, zA, yv]; rfl
  rw [this]; simp
 refine ⟨fun R hf _ => ?_, fun R => by rw [e]; rfl, fun R => by rw [e]; rfl, fun R => by rw [e]; rfl, fun R => by rw [e]; rfl⟩;rw [e];have e1 : isF E [100, 111] (wd [100, 111] :: (tF s ++ wd [119, 104, 105, 108, 101] :: sg [40] :: (tF a ++ sg [41] :: sg [59] :: R))) = true := rfl;have e2 : isF E [119, 104, 105, 108, 101] (wd [119, 104, 105, 108, 101] :: sg [40] :: (tF a ++ sg [41] :: sg [59] :: R)) = true := rfl;have f : ∀ q : List UInt8, isF E q (wd [100, 111] :: (tF s ++ wd [119, 104, 105, 108, 101] :: sg [40] :: (tF a ++ sg [41] :: sg [59] :: R))) = ([100, 111] == q) := fun q => rfl
 have h1 : D E .doWhile (wd [100, 111] :: (tF s ++ wd [119, 104, 105, 108, 101] :: sg [40] :: (tF a ++ sg [41] :: sg [59] :: R))) (.ok (nd 9 [] [s, a], R)) := D.mk2 (g.rd (wd [119, 104, 105, 108, 101] :: sg [40] :: (tF a ++ sg [41] :: sg [59] :: R)) rfl fun _ => rfl) (zbM h (sg [59] :: R)) fun m h0 h1 => by
  simp only [zg, need, e1, if_true, List.tail_cons, h0, bnd, e2, h1, qU]; rfl
 exact D.mk1 h1 fun m h0 => by simp only [zg, f]; exact h0
theorem zbl (it : NT) (R : List Tk) : ∀ l : List Tr, (∀ t ∈ l, ∀ Y, isF E [125] (tF t ++ Y) = false) → (∀ t ∈ l, ∀ Y, (Y = sg [125] :: R ∨ ∃ u ∈ l, ∃ Z, Y = tF u ++ Z) → D E it (tF t ++ Y) (.ok (t, Y))) → D E (.untl [125] it) ((l.map tF).flatten ++ sg [125] :: R) (.ok (bag l, R))
 | [], _, _ => by
  have e1 : isF E [125] (sg [125] :: R) = true := rfl;exact D.mk0 fun m => by simp only [zg, List.map_nil, List.flatten_nil, List.nil_append, e1, if_true, List.tail_cons]; rfl
 | t :: l, hs, h => by
  have e : ((t :: l).map tF).flatten ++ sg [125] :: R = tF t ++ ((l.map tF).flatten ++ sg [125] :: R) := by simp
  rw [e];have hy : (l.map tF).flatten ++ sg [125] :: R = sg [125] :: R ∨ ∃ u ∈ t :: l, ∃ Z, (l.map tF).flatten ++ sg [125] :: R = tF u ++ Z := by
   cases l with
   | nil => left; simp
   | cons u q => right; exact ⟨u, by simp, (q.map tF).flatten ++ sg [125] :: R, by simp⟩
  exact D.mk2 (h t (by simp) _ hy) (zbl it R l (fun u hu => hs u (by simp [hu])) fun u hu Y hY => h u (by simp [hu]) Y (hY.imp id fun ⟨v, hv, hz⟩ => ⟨v, by simp [hv], hz⟩)) fun m h0 h1 => by
   simp only [zg, hs t (by simp) ((l.map tF).flatten ++ sg [125] :: R), zc, if_false, h0, bnd, h1]; rfl
theorem zkC (k : Int) (hk : k = 2 ∨ k = 20) (x : List UInt8) (b : Int) (f p e : List (List Tk)) : xi k x b f p e = sg [123] :: (f.flatten ++ [sg [125]]) := by rcases hk with rfl | rfl <;> rfl
theorem uS (k : Int) (hk : k = 2 ∨ k = 20) (l : List Tr) (R : List Tk) : tF (nd k [] l) ++ R = sg [123] :: ((l.map tF).flatten ++ sg [125] :: R) := by
 rw [nd, zA, yv, zkC k hk]; simp
theorem uq {l : List Tr} (h : ∀ t ∈ l, Sp E t) (R : List Tk) : D E .block (tF (nd 2 [] l) ++ R) (.ok (nd 2 [] l, R)) := by
 rw [uS 2 (.inl rfl)];have e1 : isF E [123] (sg [123] :: ((l.map tF).flatten ++ sg [125] :: R)) = true := rfl;refine D.mk1 (zbl .statement R l (fun t ht Y => (h t ht).shut Y) fun t ht Y hY => (h t ht).rd Y ?_ fun _ => ?_) fun m h0 => ?_
 ·rcases hY with rfl | ⟨u, hu, Z, rfl⟩
  ·rfl
  ·exact (h u hu).fin Z
 ·rcases hY with rfl | ⟨u, hu, Z, rfl⟩
  ·rfl
  ·exact (h u hu).els Z
 ·simp only [zg, need, e1, if_true, List.tail_cons, h0, bnd]; rfl
theorem zm5 {l : List Tr} (h : ∀ t ∈ l, Sp E t) : Sp E (nd 2 [] l) := by
 refine ⟨fun R hf _ => ?_, fun R => by rw [uS 2 (.inl rfl)]; rfl, fun R => by rw [uS 2 (.inl rfl)]; rfl, fun R => by rw [uS 2 (.inl rfl)]; rfl, fun R => by rw [uS 2 (.inl rfl)]; rfl⟩;have f : ∀ q : List UInt8, isF E q (tF (nd 2 [] l) ++ R) = ([123] == q) := fun q => by rw [uS 2 (.inl rfl)]; rfl
 exact D.mk1 (uq h R) fun m h0 => by simp only [zg, f]; exact h0
end
end
section
section
variable {E : Int}
def Dp (E : Int) (t : Tr) : Prop := (∃ x, t = nd 4 x []) ∨ ∃ x a, t = nd 4 x [a] ∧ Pr E a
theorem zlp (x : List UInt8) (R : List Tk) : tF (nd 4 x []) ++ R = nmT x :: R := by
 have : tF (nd 4 x []) = [nmT x] := by rw [nd, zA]; rfl
 rw [this]; rfl
theorem zlq (x : List UInt8) (a : Tr) (R : List Tk) : tF (nd 4 x [a]) ++ R = nmT x :: sg [61] :: (pT a ++ R) := by
 have : tF (nd 4 x [a]) = nmT x :: sg [61] :: pT a := by rw [nd, zA, yi]; rfl
 rw [this]; rfl
theorem zfx {t : Tr} (h : Dp E t) {R : List Tk} (hn : NxA E R) (hs : isF E [61] R = false) : D E .decl (tF t ++ R) (.ok (t, R)) := by
 rcases h with ⟨x, rfl⟩ | ⟨x, a, rfl, h⟩
 ·rw [zlp];have k : (hd E (nmT x :: R)).kind = 1 := rfl;exact D.mk0 fun m => by simp only [zg, nameK, if_pos k, List.tail_cons, hs, zc, if_false]; rfl
 ·rw [zlq];have k : (hd E (nmT x :: sg [61] :: (pT a ++ R))).kind = 1 := rfl;have e1 : isF E [61] (sg [61] :: (pT a ++ R)) = true := rfl;exact D.mk1 (h.asg hn) fun m h0 => by simp only [zg, nameK, if_pos k, List.tail_cons, e1, if_true, h0, bnd]; rfl
theorem uT (l : List Tr) (R : List Tk) : tF (nd 3 [] l) ++ R = wd [118, 97, 114] :: (zC (l.map tF) ++ sg [59] :: R) := by
 rw [nd, zA, yv, show ∀ (x : List UInt8) (b : Int) (f p e : List (List Tk)), xi 3 x b f p e = wd [118, 97, 114] :: (zC f ++ [sg [59]]) from fun _ _ _ _ _ => rfl]; simp
theorem zfy {t : Tr} {l : List Tr} (h : ∀ u ∈ t :: l, Dp E u) (R : List Tk) : D E .vars (wd [118, 97, 114] :: (zC ((t :: l).map tF) ++ sg [59] :: R)) (.ok (nd 3 [] (t :: l), sg [59] :: R)) := by
 have e1 : isF E [118, 97, 114] (wd [118, 97, 114] :: (zC ((t :: l).map tF) ++ sg [59] :: R)) = true := rfl;refine D.mk1 (zhY .decl tF (sg [59] :: R) rfl l t fun u hu R' hR' => ?_) fun m h0 => ?_
 ·rcases hR' with rfl | ⟨Y, rfl⟩
  ·exact zfx (h u hu) (xN (.inr (.inl rfl))) rfl
  ·exact zfx (h u hu) (xN (.inr (.inr (.inr (.inl rfl))))) rfl
 ·simp only [zg, need, e1, if_true, List.tail_cons, h0, bnd]; rfl
theorem zpN {t : Tr} {l : List Tr} (h : ∀ u ∈ t :: l, Dp E u) : Sp E (nd 3 [] (t :: l)) := by
 refine ⟨fun R hf _ => ?_, fun R => by rw [uT]; rfl, fun R => by rw [uT]; rfl, fun R => by rw [uT]; rfl, fun R => by rw [uT]; rfl⟩;rw [uT];have f : ∀ q : List UInt8, isF E q (wd [118, 97, 114] :: (zC ((t :: l).map tF) ++ sg [59] :: R)) = ([118, 97, 114] == q) := fun q => rfl
 exact D.mk1 (zfy h R) fun m h0 => by
  simp only [zg, f];show bnd (Q E m .vars (wd [118, 97, 114] :: (zC ((t :: l).map tF) ++ sg [59] :: R))) _ = _
  simp only [h0, bnd, need, qU, if_true, List.tail_cons]; rfl
def Fs (E : Int) (a : Tr) : Prop := ∀ R, D E .forStart (tF a ++ R) (.ok (a, R))
theorem zm8 {t : Tr} {l : List Tr} (h : ∀ u ∈ t :: l, Dp E u) : Fs E (nd 3 [] (t :: l)) := fun R => by
 rw [uT];have f : ∀ q : List UInt8, isF E q (wd [118, 97, 114] :: (zC ((t :: l).map tF) ++ sg [59] :: R)) = ([118, 97, 114] == q) := fun q => rfl
 exact D.mk1 (zfy h R) fun m h0 => by
  simp only [zg, f];show bnd (Q E m .vars (wd [118, 97, 114] :: (zC ((t :: l).map tF) ++ sg [59] :: R))) _ = _
  simp only [h0, bnd, need, qU, if_true, List.tail_cons]; rfl
theorem zjz : Fs E (nd 5 [] []) := fun R => by
 have e : tF (nd 5 [] []) = [sg [59]] := by rw [nd, zA]; rfl
 rw [e];have g : ∀ s : List UInt8, isF E s ([sg [59]] ++ R) = ([59] == s) := fun s => rfl
 exact D.mk0 fun m => by simp only [zg, g, need]; rfl
theorem zlr {a : Tr} (h : Ep E a) : Fs E (nd 6 [] [a]) := fun R => by
 have e : ∀ R, tF (nd 6 [] [a]) ++ R = sg [40] :: (tF a ++ sg [41] :: sg [59] :: R) := fun R => by
  rw [nd, zA, yv, show ∀ (x : List UInt8) (b : Int) (f p e : List (List Tk)), xi 6 x b f p e = sg [40] :: (f.flatten ++ [sg [41], sg [59]]) from fun _ _ _ _ _ => rfl]; simp
 rw [e];have g : ∀ s : List UInt8, isF E s (sg [40] :: (tF a ++ sg [41] :: sg [59] :: R)) = ([40] == s) := fun s => rfl
 exact D.mk1 (zkA h R) fun m h0 => by
  simp only [zg, g];show bnd (Q E m .expr (sg [40] :: (tF a ++ sg [41] :: sg [59] :: R))) _ = _
  simp only [h0, bnd, need, qU, if_true, List.tail_cons]; rfl
def eT (t : Tr) : List Tk := if t.kind = 5 then [] else tF t
theorem zcf : ∀ l : List Tr, tEs l = l.map eT
 | [] => by rw [tEs]; rfl
 | t :: l => by rw [tEs, zcf l]; rfl
def Fp (E : Int) (a : Tr) : Prop := a = nd 5 [] [] ∨ (a.kind ≠ 5 ∧ Ep E a ∧ ∀ q, q = [59] ∨ q = [41] → ∀ Y, isF E q (tF a ++ Y) = false)
theorem zhZ {a : Tr} (h : Fp E a) {q : List UInt8} (hq : q = [59] ∨ q = [41]) (R : List Tk) : D E (.optional q) (eT a ++ sg q :: R) (.ok (a, R)) := by
 have e1 : isF E q (sg q :: R) = true := by rcases hq with rfl | rfl <;> rfl
 have hn : NxA E (sg q :: R) := by rcases hq with rfl | rfl; exact xN (.inr (.inl rfl)); exact xN (.inl rfl)
 have hc : isF E [44] (sg q :: R) = false := by rcases hq with rfl | rfl <;> rfl
 rcases h with rfl | ⟨hk, h, hs⟩
 ·have e : eT (nd 5 [] []) = [] := rfl;rw [e];exact D.mk0 fun m => by simp only [zg, List.nil_append, e1, if_true, List.tail_cons]; rfl
 ·have e : eT a = tF a := by unfold eT; rw [if_neg hk]
  rw [e];exact D.mk1 (h _ hn hc) fun m h0 => by
   simp only [zg, hs q hq, zc, if_false, h0, bnd, need, e1, if_true, List.tail_cons]; rfl
theorem jI (a c d s : Tr) (R : List Tk) : tF (nd 10 [] [a, c, d, s]) ++ R = wd [102, 111, 114] :: sg [40] :: (tF a ++ (eT c ++ sg [59] :: (eT d ++ sg [41] :: (tF s ++ R)))) := by
 have : tF (nd 10 [] [a, c, d, s]) = wd [102, 111, 114] :: sg [40] :: (tF a ++ (eT c ++ sg [59] :: (eT d ++ sg [41] :: tF s))) := by rw [nd, zA, yv, zcf]; rfl
 rw [this]; simp
theorem zgy {a c d s : Tr} (h1 : Fs E a) (h2 : Fp E c) (h3 : Fp E d) (g : Sp E s) : Sp E (nd 10 [] [a, c, d, s]) := by
 refine ⟨fun R hf ho => ?_, fun R => by rw [jI]; rfl, fun R => by rw [jI]; rfl, fun R => by rw [jI]; rfl, fun R => by rw [jI]; rfl⟩;rw [jI];have ho2 : yA s = true → isF E els R = false := fun h => ho (by simp [yA, qy, nd, h])
 have e1 : isF E [102, 111, 114] (wd [102, 111, 114] :: sg [40] :: (tF a ++ (eT c ++ sg [59] :: (eT d ++ sg [41] :: (tF s ++ R))))) = true := rfl;have e2 : isF E [40] (sg [40] :: (tF a ++ (eT c ++ sg [59] :: (eT d ++ sg [41] :: (tF s ++ R))))) = true := rfl;have f : ∀ q : List UInt8, isF E q (wd [102, 111, 114] :: sg [40] :: (tF a ++ (eT c ++ sg [59] :: (eT d ++ sg [41] :: (tF s ++ R))))) = ([102, 111, 114] == q) := fun q => rfl
 have h : D E .forLoop (wd [102, 111, 114] :: sg [40] :: (tF a ++ (eT c ++ sg [59] :: (eT d ++ sg [41] :: (tF s ++ R))))) (.ok (nd 10 [] [a, c, d, s], R)) :=
  D.mk4 (h1 (eT c ++ sg [59] :: (eT d ++ sg [41] :: (tF s ++ R)))) (zhZ h2 (.inl rfl) (eT d ++ sg [41] :: (tF s ++ R))) (zhZ h3 (.inr rfl) (tF s ++ R)) (g.rd R hf ho2) fun m k0 k1 k2 k3 => by
   simp only [zg, need, e1, e2, if_true, List.tail_cons, k0, bnd, k1, k2, k3]; rfl
 exact D.mk1 h fun m h0 => by simp only [zg, f]; exact h0
theorem jX (x : List UInt8) (a : Tr) (R : List Tk) : tF (nd 16 x [a]) ++ R = wd [99, 97, 116, 99, 104] :: sg [40] :: nmT x :: sg [41] :: (tF a ++ R) := by
 have : tF (nd 16 x [a]) = wd [99, 97, 116, 99, 104] :: sg [40] :: nmT x :: sg [41] :: ([tF a] : List (List Tk)).flatten := by rw [nd, zA, yv]; rfl
 rw [this]; simp
theorem zbn (a : Tr) (R : List Tk) : tF (nd 17 [] [a]) ++ R = wd [102, 105, 110, 97, 108, 108, 121] :: (tF a ++ R) := by
 have : tF (nd 17 [] [a]) = wd [102, 105, 110, 97, 108, 108, 121] :: ([tF a] : List (List Tk)).flatten := by rw [nd, zA, yv]; rfl
 rw [this]; simp
def Bk (E : Int) (a : Tr) : Prop := ∀ R, D E .block (tF a ++ R) (.ok (a, R))
theorem zdV {a : Tr} (h : Bk E a) (x : List UInt8) (R : List Tk) : D E .catchIt (tF (nd 16 x [a]) ++ R) (.ok (nd 16 x [a], R)) := by
 rw [jX];have e1 : isF E [99, 97, 116, 99, 104] (wd [99, 97, 116, 99, 104] :: sg [40] :: nmT x :: sg [41] :: (tF a ++ R)) = true := rfl;have e2 : isF E [40] (sg [40] :: nmT x :: sg [41] :: (tF a ++ R)) = true := rfl;have e3 : isF E [41] (sg [41] :: (tF a ++ R)) = true := rfl;have k : (hd E (nmT x :: sg [41] :: (tF a ++ R))).kind = 1 := rfl;exact D.mk1 (h R) fun m h0 => by simp only [zg, need, nameK, e1, e2, if_true, List.tail_cons, if_pos k, e3, h0, bnd]; rfl
theorem uU (l : List Tr) (R : List Tk) : tF (nd 15 [] l) ++ R = wd [116, 114, 121] :: ((l.map tF).flatten ++ R) := by
 have : tF (nd 15 [] l) = wd [116, 114, 121] :: (l.map tF).flatten := by rw [nd, zA, yv]; rfl
 rw [this]; rfl
theorem zdW {l : List Tr} (h : ∀ R, isF E zcd R = false → D E .tryIt (wd [116, 114, 121] :: ((l.map tF).flatten ++ R)) (.ok (nd 15 [] l, R))) : Sp E (nd 15 [] l) := by
 refine ⟨fun R hf _ => ?_, fun R => by rw [uU]; rfl, fun R => by rw [uU]; rfl, fun R => by rw [uU]; rfl, fun R => by rw [uU]; rfl⟩;rw [uU];have f : ∀ q : List UInt8, isF E q (wd [116, 114, 121] :: ((l.map tF).flatten ++ R)) = ([116, 114, 121] == q) := fun q => rfl
 exact D.mk1 (h R hf) fun m h0 => by simp only [zg, f]; exact h0
theorem zm9 {a c : Tr} (h : Bk E a) (g : Bk E c) : Sp E (nd 15 [] [a, nd 17 [] [c]]) := zdW fun R _ => by
 have e : (([a, nd 17 [] [c]] : List Tr).map tF).flatten ++ R = tF a ++ wd [102, 105, 110, 97, 108, 108, 121] :: (tF c ++ R) := by
  simp only [List.map_cons, List.map_nil, List.flatten_cons, List.flatten_nil, List.append_nil, List.append_assoc, zbn]
 rw [e];have e1 : isF E [116, 114, 121] (wd [116, 114, 121] :: (tF a ++ wd [102, 105, 110, 97, 108, 108, 121] :: (tF c ++ R))) = true := rfl;have e2 : isF E [99, 97, 116, 99, 104] (wd [102, 105, 110, 97, 108, 108, 121] :: (tF c ++ R)) = false := rfl;have e3 : isF E [102, 105, 110, 97, 108, 108, 121] (wd [102, 105, 110, 97, 108, 108, 121] :: (tF c ++ R)) = true := rfl;exact D.mk2 (h (wd [102, 105, 110, 97, 108, 108, 121] :: (tF c ++ R))) (g R) fun m h0 h1 => by
  simp only [zg, need, e1, if_true, List.tail_cons, h0, bnd, e2, zc, if_false, e3, h1]; rfl
theorem zls {a b c : Tr} (x : List UInt8) (h : Bk E a) (i : Bk E b) (g : Bk E c) : Sp E (nd 15 [] [a, nd 16 x [b], nd 17 [] [c]]) := zdW fun R _ => by
 have e : (([a, nd 16 x [b], nd 17 [] [c]] : List Tr).map tF).flatten ++ R = tF a ++ (tF (nd 16 x [b]) ++ wd [102, 105, 110, 97, 108, 108, 121] :: (tF c ++ R)) := by
  simp only [List.map_cons, List.map_nil, List.flatten_cons, List.flatten_nil, List.append_nil, List.append_assoc, zbn]
 rw [e];have e1 : isF E [116, 114, 121] (wd [116, 114, 121] :: (tF a ++ (tF (nd 16 x [b]) ++ wd [102, 105, 110, 97, 108, 108, 121] :: (tF c ++ R)))) = true := rfl;have e2 : isF E [99, 97, 116, 99, 104] (tF (nd 16 x [b]) ++ wd [102, 105, 110, 97, 108, 108, 121] :: (tF c ++ R)) = true := by rw [jX]; rfl
 have e3 : isF E [102, 105, 110, 97, 108, 108, 121] (wd [102, 105, 110, 97, 108, 108, 121] :: (tF c ++ R)) = true := rfl;exact D.mk3 (h (tF (nd 16 x [b]) ++ wd [102, 105, 110, 97, 108, 108, 121] :: (tF c ++ R))) (zdV i x (wd [102, 105, 110, 97, 108, 108, 121] :: (tF c ++ R))) (g R) fun m h0 h1 h2 => by
  simp only [zg, need, e1, if_true, List.tail_cons, h0, bnd, e2, h1, e3, h2]; rfl
theorem zna {a b : Tr} (x : List UInt8) (h : Bk E a) (i : Bk E b) : Sp E (nd 15 [] [a, nd 16 x [b]]) := zdW fun R hf => by
 have e : (([a, nd 16 x [b]] : List Tr).map tF).flatten ++ R = tF a ++ (tF (nd 16 x [b]) ++ R) := by
  simp only [List.map_cons, List.map_nil, List.flatten_cons, List.flatten_nil, List.append_nil, List.append_assoc]
 rw [e];have e1 : isF E [116, 114, 121] (wd [116, 114, 121] :: (tF a ++ (tF (nd 16 x [b]) ++ R))) = true := rfl;have e2 : isF E [99, 97, 116, 99, 104] (tF (nd 16 x [b]) ++ R) = true := by rw [jX]; rfl
 exact D.mk2 (h (tF (nd 16 x [b]) ++ R)) (zdV i x R) fun m h0 h1 => by
  simp only [zg, need, e1, if_true, List.tail_cons, h0, bnd, e2, h1];rw [show isF E [102, 105, 110, 97, 108, 108, 121] R = false from hf]; rfl
structure Elp (E : Int) (t : Tr) : Prop where
 rd : ∀ R, isF E zcd R = false → (yA t = true → isF E els R = false) → D E .element (tF t ++ R) (.ok (t, R))
 els : ∀ R, isF E els (tF t ++ R) = false
 shut : ∀ R, isF E [125] (tF t ++ R) = false
 fin : ∀ R, isF E zcd (tF t ++ R) = false
theorem zpO {t : Tr} (h : Sp E t) : Elp E t :=
 ⟨fun R h1 h2 => D.mk1 (h.rd R h1 h2) fun m h0 => by simp only [zg, h.fnw, zc, if_false, h0], h.els, h.shut, h.fin⟩
theorem zjA (x : List UInt8) (R : List Tk) : D E .param (tF (nd 19 x []) ++ R) (.ok (nd 19 x [], R)) := by
 have e : tF (nd 19 x []) = [nmT x] := by rw [nd, zA]; rfl
 rw [e];have k : (hd E ([nmT x] ++ R)).kind = 1 := rfl;exact D.mk0 fun m => by simp only [zg, nameK, if_pos k]; rfl
def yJ (ps : List (List UInt8)) (bd : List Tr) : List Tr := ps.map (fun p => nd 19 p []) ++ [nd 20 [] bd]
def qj (ps : List (List UInt8)) (bd : List Tr) : List Tk := sg [40] :: (zC ((ps.map fun p => nd 19 p []).map tF) ++ sg [41] :: tF (nd 20 [] bd))
theorem zfz (kind : Int) (x : List UInt8) (ps : List (List UInt8)) {bd : List Tr} (h : ∀ t ∈ bd, Elp E t) (R : List Tk) : D E (.function kind x) (qj ps bd ++ R) (.ok (nd kind x (yJ ps bd), R)) := by
 have e : qj ps bd ++ R = sg [40] :: (zC ((ps.map fun p => nd 19 p []).map tF) ++ sg [41] :: sg [123] :: ((bd.map tF).flatten ++ sg [125] :: R)) := by
  unfold qj;rw [List.cons_append, List.append_assoc, List.cons_append, uS 20 (.inr rfl)]
 rw [e];have e1 : isF E [40] (sg [40] :: (zC ((ps.map fun p => nd 19 p []).map tF) ++ sg [41] :: sg [123] :: ((bd.map tF).flatten ++ sg [125] :: R))) = true := rfl;have e2 : isF E [123] (sg [123] :: ((bd.map tF).flatten ++ sg [125] :: R)) = true := rfl;have h1 : D E (.list [41] .param) (zC ((ps.map fun p => nd 19 p []).map tF) ++ sg [41] :: sg [123] :: ((bd.map tF).flatten ++ sg [125] :: R)) (.ok (bag (ps.map fun p => nd 19 p []), sg [123] :: ((bd.map tF).flatten ++ sg [125] :: R))) := by
  refine zce .param tF (.inl rfl) _ _ (fun u hu Y => ?_) fun u hu R' hn => ?_
  ·obtain ⟨p, hp, rfl⟩ := List.mem_map.1 hu;have : tF (nd 19 p []) = [nmT p] := by rw [nd, zA]; rfl
   rw [this]; rfl
  ·obtain ⟨p, hp, rfl⟩ := List.mem_map.1 hu;exact zjA p R'
 have h2 : D E (.untl [125] .element) ((bd.map tF).flatten ++ sg [125] :: R) (.ok (bag bd, R)) := by
  refine zbl .element R bd (fun t ht Y => (h t ht).shut Y) fun t ht Y hY => (h t ht).rd Y ?_ fun _ => ?_
  ·rcases hY with rfl | ⟨u, hu, Z, rfl⟩
   ·rfl
   ·exact (h u hu).fin Z
  ·rcases hY with rfl | ⟨u, hu, Z, rfl⟩
   ·rfl
   ·exact (h u hu).els Z
 exact D.mk2 h1 h2 fun m h3 h4 => by simp only [zg, need, e1, if_true, List.tail_cons, h3, bnd, e2, h4]; rfl
theorem zpP (k : Int) (hk : k = 18 ∨ k = 31) (x : List UInt8) (b : Int) (f p e : List (List Tk)) : xi k x b f p e = wd [102, 117, 110, 99, 116, 105, 111, 110] :: ((if x = [] then [] else [nmT x]) ++ sg [40] :: (zC f.dropLast ++ sg [41] :: f.getLastD [])) := by rcases hk with rfl | rfl <;> rfl
theorem uV (k : Int) (hk : k = 18 ∨ k = 31) (x : List UInt8) (ps : List (List UInt8)) (bd : List Tr) (R : List Tk) : tF (nd k x (yJ ps bd)) ++ R = wd [102, 117, 110, 99, 116, 105, 111, 110] :: ((if x = [] then [] else [nmT x]) ++ (qj ps bd ++ R)) := by
 rw [nd, zA, yv, zpP k hk];unfold yJ qj;rw [List.map_append, List.map_cons, List.map_nil, List.dropLast_concat];have : ∀ (l : List (List Tk)) (a d : List Tk), (l ++ [a]).getLastD d = a := fun l a d => by simp
 rw [this]; simp
theorem zjB {x : List UInt8} (hx : x ≠ []) (ps : List (List UInt8)) {bd : List Tr} (h : ∀ t ∈ bd, Elp E t) : Elp E (nd 18 x (yJ ps bd)) := by
 refine ⟨fun R _ _ => ?_, fun R => by rw [uV 18 (.inl rfl)]; rfl, fun R => by rw [uV 18 (.inl rfl)]; rfl, fun R => by rw [uV 18 (.inl rfl)]; rfl⟩;rw [uV 18 (.inl rfl), if_neg hx];have e1 : isF E [102, 117, 110, 99, 116, 105, 111, 110] (wd [102, 117, 110, 99, 116, 105, 111, 110] :: ([nmT x] ++ (qj ps bd ++ R))) = true := rfl;have k : (hd E (nmT x :: (qj ps bd ++ R))).kind = 1 := rfl;exact D.mk1 (zfz 18 x ps h R) fun m h0 => by
  simp only [zg, e1, if_true, List.tail_cons, List.singleton_append, nameK, if_pos k]; exact h0
theorem zlt (x : List UInt8) (ps : List (List UInt8)) {bd : List Tr} (h : ∀ t ∈ bd, Elp E t) : Pr E (nd 31 x (yJ ps bd)) := by
 have hl : yP (nd 31 x (yJ ps bd)) = true := by simp [yP, nd, Tr.kind, Tr.kids]
 have e : ∀ R, pT (nd 31 x (yJ ps bd)) ++ R = wd [102, 117, 110, 99, 116, 105, 111, 110] :: ((if x = [] then [] else [nmT x]) ++ (qj ps bd ++ R)) := fun R => by rw [uI hl, uV 31 (.inr rfl)]
 refine ⟨fun R => ?_, fun R => by rw [e]; exact ⟨rfl, rfl, rfl⟩⟩;rw [e];have f : ∀ q : List UInt8, isF E q (wd [102, 117, 110, 99, 116, 105, 111, 110] :: ((if x = [] then [] else [nmT x]) ++ (qj ps bd ++ R))) = ([102, 117, 110, 99, 116, 105, 111, 110] == q) := fun q => rfl
 have h1 : D E .fixedPrimary (wd [102, 117, 110, 99, 116, 105, 111, 110] :: ((if x = [] then [] else [nmT x]) ++ (qj ps bd ++ R))) (.ok (nd 31 x (yJ ps bd), R)) := D.mk1 (zfz 31 x ps h R) fun m h0 => by
  simp only [zg, f, List.tail_cons];show (if isF E [40] ((if x = [] then [] else [nmT x]) ++ (qj ps bd ++ R)) = true then Q E m (.function 31 []) ((if x = [] then [] else [nmT x]) ++ (qj ps bd ++ R)) else nameK E ((if x = [] then [] else [nmT x]) ++ (qj ps bd ++ R)) fun x R1 => Q E m (.function 31 x) R1) = _
  by_cases hx : x = []
  ·subst hx;have e2 : isF E [40] (qj ps bd ++ R) = true := rfl;simp only [if_true, List.nil_append, e2]; exact h0
  ·have e2 : isF E [40] (nmT x :: (qj ps bd ++ R)) = false := rfl;have k : (hd E (nmT x :: (qj ps bd ++ R))).kind = 1 := rfl;simp only [if_neg hx, List.singleton_append, e2, zc, if_false, nameK, if_pos k]; exact h0
 exact D.mk1 h1 fun m h0 => by
  have k : (hd E (wd [102, 117, 110, 99, 116, 105, 111, 110] :: ((if x = [] then [] else [nmT x]) ++ (qj ps bd ++ R)))).kind = 2 := rfl;simp only [zg, k];exact h0
theorem zfA : ∀ l : List Tr, (∀ t ∈ l, Elp E t) → D E .program (l.map tF).flatten (.ok (bag l, []))
 | [], _ => D.mk0 fun m => rfl
 | t :: l, h => by
  have e : ((t :: l).map tF).flatten = tF t ++ (l.map tF).flatten := by simp
  rw [e];have hn : isF E zcd (l.map tF).flatten = false ∧ isF E els (l.map tF).flatten = false := by
   cases l with
   | nil => exact ⟨rfl, rfl⟩
   | cons u q => simp only [List.map_cons, List.flatten_cons]; exact ⟨(h u (by simp)).fin _, (h u (by simp)).els _⟩
  obtain ⟨a, q, hq⟩ : ∃ a q, tF t = a :: q := by
   cases ht : tF t with
   | nil =>
    have := (h t (by simp)).shut [sg [125]];rw [ht] at this;exact absurd this (by show ¬ true = false; decide)
   | cons a q => exact ⟨a, q, rfl⟩
  exact D.mk2 ((h t (by simp)).rd _ hn.1 fun _ => hn.2) (zfA l fun u hu => h u (by simp [hu])) fun m h0 h1 => by
   rw [hq, List.cons_append] at h0 ⊢;show bnd (Q E m .element (a :: (q ++ (l.map tF).flatten))) _ = _
   simp only [h0, bnd, h1]; rfl
end
end
section
def yF (p : List UInt8 × List Tr) : Tr := nd 4 p.1 p.2
def qe : List Tr → Tr
 | [a] => a
 | _ => nd 5 [] []
mutual
inductive ExF : Tr → Prop where
 | num (b : Int) : ExF (.node 21 [] b [])
 | tok (k : Int) (x : List UInt8) (hk : k = 22 ∨ k = 27) : ExF (nd k x [])
 | wrd (k : Int) (hk : k = 23 ∨ k = 24 ∨ k = 25 ∨ k = 26) : ExF (nd k [] [])
 | arr (l : List Tr) (h : ∀ t ∈ l, ExF t) : ExF (nd 28 [] l)
 | obj (l : List (List UInt8 × Tr)) (h : ∀ p ∈ l, ExF p.2) : ExF (nd 29 [] (l.map fun p => nd 30 p.1 [p.2]))
 | fn (x : List UInt8) (ps : List (List UInt8)) (bd : List Tr) (h : ∀ t ∈ bd, El t) : ExF (nd 31 x (yJ ps bd))
 | dot (x : List UInt8) (t : Tr) (h : ExF t) : ExF (nd 32 x [t])
 | idx (a c : Tr) (h : ExF a) (g : ExF c) : ExF (nd 33 [] [a, c])
 | call (a : Tr) (l : List Tr) (h : ExF a) (g : ∀ t ∈ l, ExF t) : ExF (nd 34 [] (a :: l))
 | new (a : Tr) (l : List Tr) (h : ExF a) (g : ∀ t ∈ l, ExF t) : ExF (nd 35 [] (a :: l))
 | una (q : List UInt8) (t : Tr) (hq : yg.contains q = true) (h : ExF t) : ExF (nd 36 q [t])
 | upd (b : Int) (q : List UInt8) (t : Tr) (hb : b = 0 ∨ b = 1) (hq : yG.contains q = true) (ht : yT t = true) (h : ExF t) : ExF (.node 37 q b [t])
 | bin (k : Int) (q : List UInt8) (a c : Tr) (hk : k = if yj q ≤ 2 then 39 else 38) (hq : 1 ≤ yj q) (h : ExF a) (g : ExF c) : ExF (nd k q [a, c])
 | cnd (a c d : Tr) (h : ExF a) (g : ExF c) (i : ExF d) : ExF (nd 40 [] [a, c, d])
 | asg (q : List UInt8) (a c : Tr) (hq : xy.contains q = true) (ht : yT a = true) (h : ExF a) (g : ExF c) : ExF (nd 41 q [a, c])
 | com (a c : Tr) (h : ExF a) (g : ExF c) : ExF (nd 42 [] [a, c])
inductive Sm : Tr → Prop where
 | blk (l : List Tr) (h : ∀ t ∈ l, Sm t) : Sm (nd 2 [] l)
 | var (p : List UInt8 × List Tr) (l : List (List UInt8 × List Tr)) (hl : ∀ u ∈ p :: l, u.2.length ≤ 1) (h : ∀ u ∈ p :: l, ∀ a ∈ u.2, ExF a) : Sm (nd 3 [] ((p :: l).map yF))
 | emp : Sm (nd 5 [] [])
 | exp (a : Tr) (h : ExF a) : Sm (nd 6 [] [a])
 | if2 (a s : Tr) (h : ExF a) (g : Sm s) : Sm (nd 7 [] [a, s])
 | if3 (a s u : Tr) (h : ExF a) (g : Sm s) (hs : yA s = false) (i : Sm u) : Sm (nd 7 [] [a, s, u])
 | whl (a s : Tr) (h : ExF a) (g : Sm s) : Sm (nd 8 [] [a, s])
 | doW (s a : Tr) (g : Sm s) (h : ExF a) : Sm (nd 9 [] [s, a])
 | forV (p : List UInt8 × List Tr) (l : List (List UInt8 × List Tr)) (hl : ∀ u ∈ p :: l, u.2.length ≤ 1) (h : ∀ u ∈ p :: l, ∀ a ∈ u.2, ExF a) (c d : List Tr) (hc : ∀ a ∈ c, ExF a) (hd : ∀ a ∈ d, ExF a) (s : Tr) (g : Sm s) : Sm (nd 10 [] [nd 3 [] ((p :: l).map yF), qe c, qe d, s])
 | forE (a : Tr) (h : ExF a) (c d : List Tr) (hc : ∀ a ∈ c, ExF a) (hd : ∀ a ∈ d, ExF a) (s : Tr) (g : Sm s) : Sm (nd 10 [] [nd 6 [] [a], qe c, qe d, s])
 | forN (c d : List Tr) (hc : ∀ a ∈ c, ExF a) (hd : ∀ a ∈ d, ExF a) (s : Tr) (g : Sm s) : Sm (nd 10 [] [nd 5 [] [], qe c, qe d, s])
 | brk : Sm (nd 11 [] [])
 | con : Sm (nd 12 [] [])
 | ret0 : Sm (nd 13 [] [])
 | ret1 (a : Tr) (h : ExF a) : Sm (nd 13 [] [a])
 | thr (a : Tr) (h : ExF a) : Sm (nd 14 [] [a])
 | tryC (a : List Tr) (x : List UInt8) (b : List Tr) (h : ∀ t ∈ a, Sm t) (g : ∀ t ∈ b, Sm t) : Sm (nd 15 [] [nd 2 [] a, nd 16 x [nd 2 [] b]])
 | tryF (a c : List Tr) (h : ∀ t ∈ a, Sm t) (g : ∀ t ∈ c, Sm t) : Sm (nd 15 [] [nd 2 [] a, nd 17 [] [nd 2 [] c]])
 | tryB (a : List Tr) (x : List UInt8) (b c : List Tr) (h : ∀ t ∈ a, Sm t) (g : ∀ t ∈ b, Sm t) (i : ∀ t ∈ c, Sm t) : Sm (nd 15 [] [nd 2 [] a, nd 16 x [nd 2 [] b], nd 17 [] [nd 2 [] c]])
inductive El : Tr → Prop where
 | st (t : Tr) (h : Sm t) : El t
 | named (x : List UInt8) (hx : x ≠ []) (ps : List (List UInt8)) (bd : List Tr) (h : ∀ t ∈ bd, El t) : El (nd 18 x (yJ ps bd))
end
section
variable {E : Int}
def shq (q : List UInt8) : Prop := q = [41] ∨ q = [93] ∨ q = [125] ∨ q = [59]
structure XP (E : Int) (t : Tr) : Prop where
 pr : Pr E t
 ep : Ep E t
 np : ∀ q, shq q → ∀ Y, isF E q (pT t ++ Y) = false
 nf : ∀ q, shq q → ∀ Y, isF E q (tF t ++ Y) = false
theorem XP.non {t : Tr} (hl : yP t = false) (h : Ep E t) (nf : ∀ q, shq q → ∀ Y, isF E q (tF t ++ Y) = false) : XP E t := by
 have e : ∀ R, pT t ++ R = sg [40] :: (tF t ++ sg [41] :: R) := fun R => by
  unfold pT brT; rw [hl]; simp
 exact ⟨zpK hl h, h, fun q hq Y => by rw [e]; rcases hq with rfl | rfl | rfl | rfl <;> rfl, nf⟩
theorem XP.leaf {t : Tr} (hl : yP t = true) (h : Pr E t) (nf : ∀ q, shq q → ∀ Y, isF E q (tF t ++ Y) = false) : XP E t :=
 ⟨h, zlo hl h, fun q hq Y => by rw [uI hl]; exact nf q hq Y, nf⟩
theorem XP.nsh {t : Tr} (h : XP E t) : Nsh E t := fun q hq Y => h.np q (by rcases hq with rfl | rfl | rfl <;> simp [shq]) Y
theorem zk {t : Tr} {k : Int} {x : List UInt8} {b : Int} {kids : List Tr} (h : t ∈ kids) : (zp t).length < (zp (.node k x b kids)).length := by
 rw [zp, List.length_cons];have : ∀ l : List Tr, t ∈ l → (zp t).length ≤ (zs l).length := fun l => by
  induction l with
  | nil => intro h; cases h
  | cons u q ih =>
   intro h;rw [zs, List.length_append];rcases List.mem_cons.1 h with rfl | h
   ·omega
   ·have := ih h; omega
 have := this kids h; omega
theorem zom {q : List UInt8} (hq : shq q) {p : List UInt8} (hp : (p == q) = false) (R : List Tk) : isF E q (opT p :: R) = false := by
 rw [vJ, (zaV (E := E) p R).1]; exact hp
theorem zmS {p q : List UInt8} (hp : yg.contains p = true) (hq : shq q) : (p == q) = false := by
 have h1 : p ∈ yg := by simpa using hp
 have h2 : ∀ p ∈ yg, ∀ q ∈ [[(41 : UInt8)], [93], [125], [59]], (p == q) = false := by decide
 exact h2 p h1 q (by rcases hq with rfl | rfl | rfl | rfl <;> simp)
theorem zhF {u : List UInt8 × List Tr} (hl : u.2.length ≤ 1) (h : ∀ a ∈ u.2, XP E a) : Dp E (yF u) := by
 obtain ⟨x, l⟩ := u
 match l, hl, h with
 | [], _, _ => exact .inl ⟨x, rfl⟩
 | [a], _, h => exact .inr ⟨x, a, rfl, (h a (by simp)).pr⟩
theorem zk6 {a : Tr} (h : ExF a) : a.kind ≠ 5 := by
 cases h <;> simp only [nd, Tr.kind] <;> first | decide | skip
 ·rename_i hk; rcases hk with rfl | rfl <;> decide
 ·rename_i hk; rcases hk with rfl | rfl | rfl | rfl <;> decide
 ·rename_i hk _ _ _; rw [hk]; split <;> decide
theorem zmT {c : List Tr} (h : ∀ a ∈ c, XP E a) (hk : ∀ a ∈ c, a.kind ≠ 5) : Fp E (qe c) := by
 match c, h, hk with
 | [], _, _ => exact .inl rfl
 | [a], h, hk => exact .inr ⟨hk a (by simp), (h a (by simp)).ep, fun q hq Y => (h a (by simp)).nf q (by rcases hq with rfl | rfl <;> simp [shq]) Y⟩
 | a :: b :: l, _, _ => exact .inl rfl
end
end
section
def vp : NT → Bool
 | .exprMore _ | .binMore _ _ | .memMore _ | .makMore _ | .part _ | .called _ | .untl _ _ | .row _ | .rowMore _ | .list _ _ | .program | .binary _ | .optional _ => false
 | _ => true
def mN : NT → Tr → Nat
 | .called _, t => (zs t.kids).length + 1
 | .untl _ _, t | .row _, t | .rowMore _, t | .list _ _, t | .program, t => (zs t.kids).length
 | _, t => (zp t).length
def bN : NT → Nat
 | .exprMore x | .binMore _ x | .memMore x | .makMore x | .part x | .called x => (zp x).length
 | _ => 0
def okN : NT → Prop
 | .untl s it | .list s it => s ≠ [] ∧ vp it = true
 | .row it | .rowMore it => vp it = true
 | .optional s => s ≠ []
 | .binary l | .binMore l _ => 1 ≤ l
 | _ => True
theorem zdw {it : NT} (h : vp it = true) : okN it := by cases it <;> first | trivial | cases h
theorem zfo {it : NT} (h : vp it = true) : bN it = 0 := by cases it <;> first | rfl | cases h
theorem zfp {it : NT} (h : vp it = true) (t : Tr) : mN it t = (zp t).length := by cases it <;> first | rfl | cases h
def W (x : Rs) (K : Tr → List Tk → Prop) : Prop := ∀ t R', x = some (.ok (t, R')) → K t R'
section
variable {E : Int} {R : List Tk} {K : Tr → List Tk → Prop}
theorem W.ret {t : Tr} (h : K t R) : W (Go.Proofs.YtfcgpphodacdmaaGreatDoor.ret t R) K := by intro t' R' e; unfold Go.Proofs.YtfcgpphodacdmaaGreatDoor.ret at e; injection e with e; injection e with e; injection e with e1 e2; subst e1; subst e2; exact h
theorem W.bad : W (Go.Proofs.YtfcgpphodacdmaaGreatDoor.bad E R) K := by intro t' R' e; unfold Go.Proofs.YtfcgpphodacdmaaGreatDoor.bad at e; injection e with e; cases e
theorem W.bnd {x : Rs} {k : Tr → List Tk → Rs} (h : W x fun t R1 => W (k t R1) K) : W (Go.Proofs.YtfcgpphodacdmaaGreatDoor.bnd x k) K := by
 intro t' R' e;unfold Go.Proofs.YtfcgpphodacdmaaGreatDoor.bnd at e;rcases x with _ | (p | ⟨t, R1⟩)
 ·cases e
 ·cases e
 ·exact h t R1 rfl t' R' e
theorem zmN : fx (hd E ([] : List Tk)) = [] := rfl
theorem zfq {s : List UInt8} (hs : s ≠ []) (h : isF E s R = true) : R.length = R.tail.length + 1 := by
 cases R with
 | nil => exact absurd (by simpa [isF, zmN] using h) (by intro e; exact hs (by first | exact e | exact e.symm))
 | cons a l => rfl
theorem uQ {n : Int} (hn : n ≠ 0) (h : (hd E R).kind = n) : R.length = R.tail.length + 1 := by
 cases R with
 | nil => exact absurd h.symm hn
 | cons a l => rfl
theorem zhz (h : fx (hd E R) ≠ []) : R.length = R.tail.length + 1 := by
 cases R with
 | nil => exact absurd rfl h
 | cons a l => rfl
theorem W.need {s : List UInt8} {k : List Tk → Rs} (hs : s ≠ []) (h : R.length = R.tail.length + 1 → W (k R.tail) K) : W (Go.Proofs.YtfcgpphodacdmaaGreatDoor.need E s R k) K := by
 unfold Go.Proofs.YtfcgpphodacdmaaGreatDoor.need; split
 ·exact h (zfq hs ‹_›)
 ·exact W.bad
theorem kl1 (h : (hd E R).kind = 1) : R.length = R.tail.length + 1 := uQ (n := 1) (by decide) h
theorem kl2 (h : (hd E R).kind = 2) : R.length = R.tail.length + 1 := uQ (n := 2) (by decide) h
theorem kl3 (h : (hd E R).kind = 3) : R.length = R.tail.length + 1 := uQ (n := 3) (by decide) h
theorem kl4 (h : (hd E R).kind = 4) : R.length = R.tail.length + 1 := uQ (n := 4) (by decide) h
theorem zas (k : Int) (x : List UInt8) (b : Int) (l : List Tr) : Tr.kids (.node k x b l) = l := rfl
theorem W.nameK {k : List UInt8 → List Tk → Rs} (h : ∀ x, R.length = R.tail.length + 1 → W (k x R.tail) K) : W (Go.Proofs.YtfcgpphodacdmaaGreatDoor.nameK E R k) K := by
 unfold Go.Proofs.YtfcgpphodacdmaaGreatDoor.nameK; split
 ·exact h _ (kl1 ‹_›)
 ·exact W.bad
theorem W.keyK {k : List UInt8 → List Tk → Rs} (h : ∀ x, R.length = R.tail.length + 1 → W (k x R.tail) K) : W (Go.Proofs.YtfcgpphodacdmaaGreatDoor.keyK E R k) K := by
 unfold Go.Proofs.YtfcgpphodacdmaaGreatDoor.keyK; split
 ·rename_i h'; exact h _ (by rcases h' with h' | h'; exact kl1 h'; exact kl2 h')
 ·exact W.bad
theorem W.propK {k : List UInt8 → List Tk → Rs} (h : ∀ x, R.length = R.tail.length + 1 → W (k x R.tail) K) : W (Go.Proofs.YtfcgpphodacdmaaGreatDoor.propK E R k) K := by
 unfold Go.Proofs.YtfcgpphodacdmaaGreatDoor.propK; split
 ·exact h _ (kl4 ‹_›)
 ·split
  ·exact h _ (kl3 ‹_›)
  ·exact W.keyK h
theorem W.ifF {s : List UInt8} {a b : Rs} (hs : s ≠ []) (h : R.length = R.tail.length + 1 → W a K) (g : W b K) : W (if isF E s R then a else b) K := by
 split
 ·exact h (zfq hs ‹_›)
 ·exact g
theorem W.ifK {n : Int} {a b : Rs} (hn : n ≠ 0) (h : R.length = R.tail.length + 1 → W a K) (g : W b K) : W (if (hd E R).kind = n then a else b) K := by
 split
 ·exact h (uQ hn ‹_›)
 ·exact g
theorem W.ifC {l : List (List UInt8)} {a b : Rs} (hl : l.contains [] = false) (h : R.length = R.tail.length + 1 → W a K) (g : W b K) : W (if l.contains (fx (hd E R)) then a else b) K := by
 split
 ·rename_i hc; exact h (zhz fun e => by rw [e, hl] at hc; cases hc)
 ·exact g
theorem W.ite {c : Prop} [Decidable c] {a b : Rs} (h : W a K) (g : W b K) : W (if c then a else b) K := by split; exact h; exact g
end
def Cnt (E : Int) (rec : NT → List Tk → Rs) : Prop := ∀ nt R, okN nt → W (rec nt R) fun t R1 => mN nt t + R1.length ≤ bN nt + R.length
theorem W.call {E : Int} {rec : NT → List Tk → Rs} {R : List Tk} {K : Tr → List Tk → Prop} (H : Cnt E rec) (nt : NT) (ho : okN nt) (h : ∀ t R1, mN nt t + R1.length ≤ bN nt + R.length → K t R1) : W (rec nt R) K := fun t R' e => h t R' (H nt R ho t R' e)
theorem zjc {E : Int} {rec : NT → List Tk → Rs} (H : Cnt E rec) : Cnt E (zg E rec) := by
  intro nt R ho;have tl : R.tail.length ≤ R.length := by rw [List.length_tail]; omega
  cases nt
  case binMore least x =>
    simp only [zg];split
    · exact W.ret (by simp only [mN, bN]; omega)
    · rename_i hl
      have ho' : (1 : Int) ≤ least := ho;have hlen : R.length = R.tail.length + 1 := zhz (E := E) fun e => by rw [e] at hl; exact hl (by show (0 : Int) < least; omega)
      refine W.bnd (W.call H _ (by show (1 : Int) ≤ _; omega) fun t R1 h1 => W.call H _ ho' fun t2 R2 h2 => ?_);simp only [mN, bN, zp, zs, List.length_cons, List.length_append, List.length_nil] at *;omega
  case program =>
    simp only [zg];cases R with
    | nil => exact W.ret (by simp [mN, zs, zas])
    | cons a l =>
      refine W.bnd (W.call H _ trivial fun t R1 h1 => W.bnd (W.call H _ trivial fun t2 R2 h2 => W.ret ?_));simp only [mN, bN, zp, zs, vi, zas, List.length_cons, List.length_append] at *;omega
  all_goals
    simp only [zg]
    repeat' (first
      | (refine W.need (by first | decide | exact ho | exact ho.1) fun _ => ?_)
      | (refine W.bnd ?_)
      | (refine W.nameK fun _ _ => ?_)
      | (refine W.keyK fun _ _ => ?_)
      | (refine W.propK fun _ _ => ?_)
      | (refine W.ifF (by first | decide | exact ho | exact ho.1) (fun _ => ?_) ?_)
      | (refine W.ifK (by decide) (fun _ => ?_) ?_)
      | (refine W.ifC (by decide) (fun _ => ?_) ?_)
      | (refine W.ite ?_ ?_)
      | (refine W.ret ?_)
      | (exact W.bad)
      | (refine W.call H _ (by first | trivial | exact zdw ho | exact zdw ho.2 | exact ho | exact ho.2 | rfl | (simp [okN, vp]; done)) fun _ _ _ => ?_))
    all_goals (try simp only [zfp ho.2, zfo ho.2] at *)
    all_goals (try simp only [zfp ho, zfo ho] at *)
    all_goals (try simp only [mN, bN, zp, zs, vi, zas, List.length_cons, List.length_append, List.length_nil] at *)
    all_goals (try omega)
theorem zkv (E : Int) : ∀ n, Cnt E (Q E n)
 | 0 => fun _ _ _ _ _ e => by cases e
 | n + 1 => zjc (zkv E n)
theorem D.cnt {E : Int} {nt : NT} {R R' : List Tk} {t : Tr} (h : D E nt R (.ok (t, R'))) (ho : okN nt) : mN nt t + R'.length ≤ bN nt + R.length := by
 obtain ⟨n, h⟩ := h;exact zkv E n nt R ho t R' (h n (zd _))
theorem zjd {E : Int} {R R' : List Tk} {t : Tr} (h : D E .program R (.ok (t, R'))) : (zp (nd 1 [] t.kids)).length ≤ R.length + 1 := by
 have := h.cnt trivial;simp only [mN, bN] at this;rw [zp, List.length_cons]; omega
end
section
def st (R : List Tk) : List (Int × List UInt8 × Int) := R.map fun t => (t.kind, t.text, t.bits)
def Rq (x y : Rs) : Prop := match x, y with
 | none, none => True
 | some (.error _), some (.error _) => True
 | some (.ok (t, R)), some (.ok (t', R')) => t = t' ∧ st R = st R'
 | _, _ => False
def Fr (E E' : Int) (R R' : List Tk) : Prop := (hd E R).kind = (hd E' R').kind ∧ (hd E R).text = (hd E' R').text ∧ (hd E R).bits = (hd E' R').bits ∧ fx (hd E R) = fx (hd E' R') ∧ ∀ s, isF E s R = isF E' s R'
theorem qT {R R' : List Tk} (h : st R = st R') : st R.tail = st R'.tail := by unfold st at *; rw [List.map_tail, List.map_tail, h]
theorem vr {E E' : Int} {R R' : List Tk} (h : st R = st R') : Fr E E' R R' := by
 have hk : (hd E R).kind = (hd E' R').kind ∧ (hd E R).text = (hd E' R').text ∧ (hd E R).bits = (hd E' R').bits := by
  cases R with
  | nil => cases R' with
   | nil => exact ⟨rfl, rfl, rfl⟩
   | cons a l => cases h
  | cons a l => cases R' with
   | nil => cases h
   | cons b m =>
    unfold st at h; rw [List.map_cons, List.map_cons] at h;injection h with h _;injection h with h1 h2; injection h2 with h2 h3;exact ⟨h1, h2, h3⟩
 have hf : fx (hd E R) = fx (hd E' R') := by unfold fx; rw [hk.1, hk.2.1]
 exact ⟨hk.1, hk.2.1, hk.2.2, hf, fun s => by unfold isF; rw [hf]⟩
section
variable {E E' : Int} {R R' : List Tk}
theorem Rq.ret {t t' : Tr} (h : t = t') (g : st R = st R') : Rq (Go.Proofs.YtfcgpphodacdmaaGreatDoor.ret t R) (Go.Proofs.YtfcgpphodacdmaaGreatDoor.ret t' R') := ⟨h, g⟩
theorem Rq.bad : Rq (Go.Proofs.YtfcgpphodacdmaaGreatDoor.bad E R) (Go.Proofs.YtfcgpphodacdmaaGreatDoor.bad E' R') := trivial
theorem Rq.bnd {x y : Rs} {k k' : Tr → List Tk → Rs} (h : Rq x y) (g : ∀ t R1 R1', st R1 = st R1' → Rq (k t R1) (k' t R1')) : Rq (Go.Proofs.YtfcgpphodacdmaaGreatDoor.bnd x k) (Go.Proofs.YtfcgpphodacdmaaGreatDoor.bnd y k') := by
 unfold Go.Proofs.YtfcgpphodacdmaaGreatDoor.bnd;rcases x with _ | (p | ⟨t, R1⟩) <;> rcases y with _ | (p' | ⟨t', R1'⟩)
 all_goals first | exact h | exact h.elim | skip
 obtain ⟨h1, h2⟩ := h;subst h1;exact g t R1 R1' h2
theorem Rq.ite2 {c c' : Prop} [Decidable c] [Decidable c'] {a b a' b' : Rs} (e : c ↔ c') (h : Rq a a') (g : Rq b b') : Rq (if c then a else b) (if c' then a' else b') := by
 by_cases hc : c
 ·rw [if_pos hc, if_pos (e.1 hc)]; exact h
 ·rw [if_neg hc, if_neg (fun x => hc (e.2 x))]; exact g
theorem Rq.need {s : List UInt8} {k k' : List Tk → Rs} (h : st R = st R') (g : st R.tail = st R'.tail → Rq (k R.tail) (k' R'.tail)) : Rq (Go.Proofs.YtfcgpphodacdmaaGreatDoor.need E s R k) (Go.Proofs.YtfcgpphodacdmaaGreatDoor.need E' s R' k') := by
 unfold Go.Proofs.YtfcgpphodacdmaaGreatDoor.need; exact Rq.ite2 (by rw [(vr (E := E) (E' := E') h).2.2.2.2 s]) (g (qT h)) Rq.bad
theorem Rq.nameK {k k' : List UInt8 → List Tk → Rs} (h : st R = st R') (g : ∀ x, st R.tail = st R'.tail → Rq (k x R.tail) (k' x R'.tail)) : Rq (Go.Proofs.YtfcgpphodacdmaaGreatDoor.nameK E R k) (Go.Proofs.YtfcgpphodacdmaaGreatDoor.nameK E' R' k') := by
 have hf := vr (E := E) (E' := E') h;unfold Go.Proofs.YtfcgpphodacdmaaGreatDoor.nameK; exact Rq.ite2 (by rw [hf.1]) (by rw [hf.2.1]; exact g _ (qT h)) Rq.bad
theorem Rq.keyK {k k' : List UInt8 → List Tk → Rs} (h : st R = st R') (g : ∀ x, st R.tail = st R'.tail → Rq (k x R.tail) (k' x R'.tail)) : Rq (Go.Proofs.YtfcgpphodacdmaaGreatDoor.keyK E R k) (Go.Proofs.YtfcgpphodacdmaaGreatDoor.keyK E' R' k') := by
 have hf := vr (E := E) (E' := E') h;unfold Go.Proofs.YtfcgpphodacdmaaGreatDoor.keyK; exact Rq.ite2 (by rw [hf.1]) (by rw [hf.2.1]; exact g _ (qT h)) Rq.bad
theorem Rq.propK {k k' : List UInt8 → List Tk → Rs} (h : st R = st R') (g : ∀ x, st R.tail = st R'.tail → Rq (k x R.tail) (k' x R'.tail)) : Rq (Go.Proofs.YtfcgpphodacdmaaGreatDoor.propK E R k) (Go.Proofs.YtfcgpphodacdmaaGreatDoor.propK E' R' k') := by
 have hf := vr (E := E) (E' := E') h;unfold Go.Proofs.YtfcgpphodacdmaaGreatDoor.propK;exact Rq.ite2 (by rw [hf.1]) (by rw [hf.2.1]; exact g _ (qT h)) (Rq.ite2 (by rw [hf.1]) (by rw [hf.2.2.1]; exact g _ (qT h)) (Rq.keyK h g))
end
theorem zji {E E' : Int} {f g : NT → List Tk → Rs} (H : ∀ nt R R', st R = st R' → Rq (f nt R) (g nt R')) (nt : NT) (R R' : List Tk) (h : st R = st R') : Rq (zg E f nt R) (zg E' g nt R') := by
  have h0 := qT h;cases nt
  case program =>
    simp only [zg];cases R with
    | nil => cases R' with
      | nil => exact Rq.ret rfl rfl
      | cons a l => cases h
    | cons a l => cases R' with
      | nil => cases h
      | cons b m => exact Rq.bnd (H _ _ _ h) fun t R1 R1' h1 => Rq.bnd (H _ _ _ h1) fun t2 R2 R2' h2 => Rq.ret rfl h2
  case binMore least x =>
    have hf := vr (E := E) (E' := E') h;simp only [zg];rw [← hf.2.2.2.1];exact Rq.ite2 Iff.rfl (Rq.ret rfl h) (Rq.bnd (H _ _ _ h0) fun t R1 R1' h1 => H _ _ _ h1)
  all_goals
    simp only [zg]
    repeat' (first
      | exact H _ _ _ (by assumption)
      | exact Rq.bad
      | exact Rq.ret rfl (by assumption)
      | (refine Rq.need (by assumption) fun _ => ?_)
      | (refine Rq.nameK (by assumption) fun _ _ => ?_)
      | (refine Rq.keyK (by assumption) fun _ _ => ?_)
      | (refine Rq.propK (by assumption) fun _ _ => ?_)
      | (refine Rq.bnd (H _ _ _ (by assumption)) fun _ _ _ _ => ?_)
      | (refine Rq.bnd (H _ _ _ (qT (by assumption))) fun _ _ _ _ => ?_)
      | exact H _ _ _ (qT (by assumption))
      | exact Rq.ret rfl (qT (by assumption))
      | (refine Rq.ite2 (by first | exact Iff.rfl | rw [(vr (E := E) (E' := E') (by assumption)).2.2.2.2] | rw [(vr (E := E) (E' := E') (by assumption)).1] | rw [(vr (E := E) (E' := E') (by assumption)).2.2.2.1]) ?_ ?_))
  case assign.refine_1.refine_1 => rename_i t1 R1 R1' e1 t2 R2 R2' e2; exact Rq.ret (by rw [(vr (E := E) (E' := E') e1).2.1]) e2
  case postfx.refine_1.refine_1 => rename_i t1 R1 R1' e1; exact Rq.ret (by rw [(vr (E := E) (E' := E') e1).2.1]) (qT e1)
  all_goals exact Rq.ret (by simp only [(vr (E := E) (E' := E') h).2.1, (vr (E := E) (E' := E') h).2.2.1]) (by assumption)
theorem zkw (E E' : Int) : ∀ (n : Nat) (nt : NT) (R R' : List Tk), st R = st R' → Rq (Q E n nt R) (Q E' n nt R')
 | 0, _, _, _, _ => trivial
 | n + 1, nt, R, R', h => zji (zkw E E' n) nt R R' h
theorem D.elsewhere {E E' : Int} {nt : NT} {R R' : List Tk} (h : st R = st R') {t : Tr} {R1 : List Tk} (hd : D E nt R (.ok (t, R1))) : ∃ R1', st R1 = st R1' ∧ D E' nt R' (.ok (t, R1')) := by
 obtain ⟨n, hn⟩ := hd;have h1 := zkw E E' n nt R R' h;rw [hn n (zd _)] at h1;cases hq : Q E' n nt R' with
 | none => rw [hq] at h1; exact h1.elim
 | some r => cases r with
  | error p => rw [hq] at h1; exact h1.elim
  | ok x => rw [hq] at h1; obtain ⟨h2, h3⟩ := h1; subst h2; exact ⟨x.2, h3, D.of hq⟩
end
end Go.Proofs.YtfcgpphodacdmaaGreatDoor
