/- Part of a proof: contracts of functions. -/
import Derived.Test.YtfcgpphodacdmaaGreatDoorY30
import Derived.Test.YtfcgpphodacdmaaGreatDoorY17
import Derived.Test.YtfcgpphodacdmaaGreatDoorY29
set_option maxRecDepth 100000
set_option maxHeartbeats 4000000
set_option linter.all false
namespace Go.Proofs.YtfcgpphodacdmaaGreatDoor
theorem mxw (q : List UInt8) : mxT (wd q) := .inl (show ¬ (2 : Int) = 5 by decide)
theorem mxn (q : List UInt8) : mxT (nmT q) := .inl (show ¬ (1 : Int) = 5 by decide)
theorem zjY (g : List UInt8) : Gq [(sg [59], g)] [sg [59]] := s1 (by decide) g
theorem uX {t : Tr} {k : Tk} (e : gF t = [h0 k]) (e2 : tF t = [k]) (h : mxT k) : GT t := ⟨by rw [e, e2]; exact Gq.one h [], by rw [e]; simp⟩
theorem Gq.ahead {g : List Tg} {U : List Tk} {y : Tg} (hg : Gq (y :: g) U) (t : Tk) (ht : t.kind ≠ 5) (hy : y.1.kind = 5 ∨ y.1.kind = 4) : Gq (h0 t :: y :: g) (t :: U) := hg.cons (by simp) (.inr (.inr (.inr ⟨y, rfl, .inr (.inr (.inr ⟨ht, hy⟩))⟩)))
theorem zbr (k : Int) (w : List UInt8) (e : gF (nd k [] []) = [h0 (wd w), h0 (sg [59])]) (e2 : tF (nd k [] []) = [wd w, sg [59]]) : GT (nd k [] []) :=
 ⟨by rw [e, e2]; exact (zjY []).ahead (wd w) (show ¬ (2 : Int) = 5 by decide) (.inl rfl), by rw [e]; simp⟩
theorem vT (k : Int) (hk : k = 2 ∨ k = 20) {l : List Tr} (h : ∀ t ∈ l, GT t) : GT (nd k [] l) := by
 have e : gF (nd k [] l) = h1 (sg [123]) :: (vq [32] (l.map gF) ++ [h0 (sg [125])]) := by rw [nd, zv, yq]; rcases hk with rfl | rfl <;> rfl
 have e2 : tF (nd k [] l) = sg [123] :: ((l.map tF).flatten ++ [sg [125]]) := by rw [nd, zA, yv, zkC k hk]
 exact ⟨by rw [e, e2]; exact ((zdk (by simp) gF tF l fun t ht => (h t ht).1).fin (by decide) []).blank (by simp) _ (by simp), by rw [e]; simp⟩
theorem zlJ {l : List Tr} (h : ∀ t ∈ l, GT t) : Gq (gF (nd 1 [] l)) (tF (nd 1 [] l)) := by
 have e : gF (nd 1 [] l) = vq [10] (l.map gF) := by rw [nd, zv, yq]; rfl
 have e2 : tF (nd 1 [] l) = (l.map tF).flatten := by rw [nd, zA, yv]; rfl
 rw [e, e2]; exact zdk (by simp) gF tF l fun t ht => (h t ht).1
theorem zii {p : List UInt8 × List Tr} (hl : p.2.length ≤ 1) (h : ∀ a ∈ p.2, GT a) : GT (yF p) := by
 obtain ⟨x, l⟩ := p
 match l, hl, h with
 | [], _, _ => exact uX (k := nmT x) (by rw [yF, nd, zv]; rfl) (by rw [yF, nd, zA]; rfl) (mxn x)
 | [a], _, h =>
  obtain ⟨h1', h2⟩ := (h a (by simp)).p;have e : gF (yF (x, [a])) = h1 (nmT x) :: h1 (sg [61]) :: gP a := by rw [yF, nd, zv, yH]; rfl
  have e2 : tF (yF (x, [a])) = nmT x :: sg [61] :: pT a := by rw [yF, nd, zA, yi]; rfl
  exact ⟨by rw [e, e2]; exact (h1'.blank h2 _ (by simp)).blank (by simp) _ (by simp), by rw [e]; simp⟩
theorem zij {l : List (List UInt8 × List Tr)} (h : ∀ p ∈ l, GT (yF p)) : GT (nd 3 [] (l.map yF)) := by
 have e : gF (nd 3 [] (l.map yF)) = h1 (wd [118, 97, 114]) :: (yz ((l.map yF).map gF) ++ [h0 (sg [59])]) := by rw [nd, zv, yq]; rfl
 have e2 : tF (nd 3 [] (l.map yF)) = wd [118, 97, 114] :: (zC ((l.map yF).map tF) ++ [sg [59]]) := by have := uT (l.map yF) []; simpa using this
 exact ⟨by rw [e, e2]; exact ((vW gF tF (l.map yF) fun t ht => by obtain ⟨p, hp, rfl⟩ := List.mem_map.1 ht; exact (h p hp).1).fin (by decide) []).blank (by simp) _ (by simp), by rw [e]; simp⟩
theorem zik {a : Tr} (h : GT a) : GT (nd 6 [] [a]) := by
 have e : gF (nd 6 [] [a]) = h0 (sg [40]) :: (gF a ++ [h0 (sg [41]), h0 (sg [59])]) := by
  rw [nd, zv, yq, show ∀ (x : List UInt8) (b : Int) (f p e : List (List Tg)), ug 6 x b f p e = h0 (sg [40]) :: (f.flatten ++ [h0 (sg [41]), h0 (sg [59])]) from fun _ _ _ _ _ => rfl]; simp
 have e2 : tF (nd 6 [] [a]) = sg [40] :: (tF a ++ [sg [41], sg [59]]) := by
  rw [nd, zA, yv, show ∀ (x : List UInt8) (b : Int) (f p e : List (List Tk)), xi 6 x b f p e = sg [40] :: (f.flatten ++ [sg [41], sg [59]]) from fun _ _ _ _ _ => rfl]; simp
 exact ⟨by rw [e, e2]; exact (h.1.sgn (.inl rfl) ((zjY []).opn (by simp) (by decide))).opn (by simp) (by decide), by rw [e]; simp⟩
theorem znt {a s : Tr} (h : GT a) (g : GT s) : GT (nd 7 [] [a, s]) := by
 have e : gF (nd 7 [] [a, s]) = h1 (wd [105, 102]) :: h0 (sg [40]) :: (gF a ++ h1 (sg [41]) :: gF s) := by rw [nd, zv, yq]; rfl
 have e2 : tF (nd 7 [] [a, s]) = wd [105, 102] :: sg [40] :: (tF a ++ sg [41] :: tF s) := by rw [nd, zA, yv]; rfl
 exact ⟨by rw [e, e2]; exact ((h.1.sgn (.inl rfl) (g.1.blank g.2 _ (by simp))).opn (by simp) (by decide)).blank (by simp) _ (by simp), by rw [e]; simp⟩
theorem znu {a s u : Tr} (h : GT a) (g : GT s) (i : GT u) : GT (nd 7 [] [a, s, u]) := by
 have e : gF (nd 7 [] [a, s, u]) = h1 (wd [105, 102]) :: h0 (sg [40]) :: (gF a ++ h1 (sg [41]) :: (zX [32] (gF s) ++ h1 (wd els) :: gF u)) := by rw [nd, zv, yq]; rfl
 have e2 : tF (nd 7 [] [a, s, u]) = wd [105, 102] :: sg [40] :: (tF a ++ sg [41] :: (tF s ++ wd els :: tF u)) := by rw [nd, zA, yv]; rfl
 exact ⟨by rw [e, e2]; exact ((h.1.sgn (.inl rfl) ((g.1.gapp (by simp) (i.1.blank i.2 _ (by simp))).blank (by simp) _ (by simp))).opn (by simp) (by decide)).blank (by simp) _ (by simp), by rw [e]; simp⟩
theorem znv {a s : Tr} (h : GT a) (g : GT s) : GT (nd 8 [] [a, s]) := by
 have e : gF (nd 8 [] [a, s]) = h1 (wd [119, 104, 105, 108, 101]) :: h0 (sg [40]) :: (gF a ++ h1 (sg [41]) :: gF s) := by rw [nd, zv, yq]; rfl
 have e2 : tF (nd 8 [] [a, s]) = wd [119, 104, 105, 108, 101] :: sg [40] :: (tF a ++ sg [41] :: tF s) := by rw [nd, zA, yv]; rfl
 exact ⟨by rw [e, e2]; exact ((h.1.sgn (.inl rfl) (g.1.blank g.2 _ (by simp))).opn (by simp) (by decide)).blank (by simp) _ (by simp), by rw [e]; simp⟩
theorem zpV {s a : Tr} (g : GT s) (h : GT a) : GT (nd 9 [] [s, a]) := by
 have e : gF (nd 9 [] [s, a]) = h1 (wd [100, 111]) :: (zX [32] (gF s) ++ h1 (wd [119, 104, 105, 108, 101]) :: h0 (sg [40]) :: (gF a ++ [h0 (sg [41]), h0 (sg [59])])) := by rw [nd, zv, yq]; rfl
 have e2 : tF (nd 9 [] [s, a]) = wd [100, 111] :: (tF s ++ wd [119, 104, 105, 108, 101] :: sg [40] :: (tF a ++ [sg [41], sg [59]])) := by rw [nd, zA, yv]; rfl
 exact ⟨by rw [e, e2]; exact (g.1.gapp (by simp) (((h.1.sgn (.inl rfl) ((zjY []).opn (by simp) (by decide))).opn (by simp) (by decide)).blank (by simp) _ (by simp))).blank (by simp) _ (by simp), by rw [e]; simp⟩
theorem zlK {a : Tr} (h : GT a) : GT (nd 13 [] [a]) := by
 obtain ⟨h1', h2⟩ := h.p;have e : gF (nd 13 [] [a]) = h1 (wd [114, 101, 116, 117, 114, 110]) :: (gP a ++ [h0 (sg [59])]) := by
  have : gF (nd 13 [] [a]) = h1 (wd [114, 101, 116, 117, 114, 110]) :: (([gP a] : List (List Tg)).flatten ++ [h0 (sg [59])]) := by rw [nd, zv, yH]; rfl
  rw [this]; simp
 have e2 : tF (nd 13 [] [a]) = wd [114, 101, 116, 117, 114, 110] :: (pT a ++ [sg [59]]) := by
  have : tF (nd 13 [] [a]) = wd [114, 101, 116, 117, 114, 110] :: (([pT a] : List (List Tk)).flatten ++ [sg [59]]) := by rw [nd, zA, yi]; rfl
  rw [this]; simp
 exact ⟨by rw [e, e2]; exact (h1'.fin (by decide) []).blank (by simp) _ (by simp), by rw [e]; simp⟩
theorem znw {a : Tr} (h : GT a) : GT (nd 14 [] [a]) := by
 obtain ⟨h1', h2⟩ := h.p;have e : gF (nd 14 [] [a]) = h1 (wd [116, 104, 114, 111, 119]) :: (gP a ++ [h0 (sg [59])]) := by
  have : gF (nd 14 [] [a]) = h1 (wd [116, 104, 114, 111, 119]) :: (([gP a] : List (List Tg)).flatten ++ [h0 (sg [59])]) := by rw [nd, zv, yH]; rfl
  rw [this]; simp
 have e2 : tF (nd 14 [] [a]) = wd [116, 104, 114, 111, 119] :: (pT a ++ [sg [59]]) := by
  have : tF (nd 14 [] [a]) = wd [116, 104, 114, 111, 119] :: (([pT a] : List (List Tk)).flatten ++ [sg [59]]) := by rw [nd, zA, yi]; rfl
  rw [this]; simp
 exact ⟨by rw [e, e2]; exact (h1'.fin (by decide) []).blank (by simp) _ (by simp), by rw [e]; simp⟩
def eG (t : Tr) : List Tg := if t.kind = 5 then [] else gF t
theorem zcl : ∀ l : List Tr, gEs l = l.map eG
 | [] => by rw [gEs]; rfl
 | t :: l => by rw [gEs, zcl l]; rfl
theorem znx {t : Tr} (h : GT t) : Gq (eG t) (eT t) := by
 unfold eG eT; split
 ·exact Gq.nil
 ·exact h.1
theorem zek {a c d s : Tr} (h : GT a) (hc : GT c) (hd : GT d) (g : GT s) : GT (nd 10 [] [a, c, d, s]) := by
 have e : gF (nd 10 [] [a, c, d, s]) = h1 (wd [102, 111, 114]) :: h0 (sg [40]) :: (zX (if eG c = [] then [] else [32]) (gF a) ++ (eG c ++ (sg [59], if eG d = [] then [] else [32]) :: (eG d ++ h1 (sg [41]) :: gF s))) := by rw [nd, zv, yq, zcl]; rfl
 have e2 : tF (nd 10 [] [a, c, d, s]) = wd [102, 111, 114] :: sg [40] :: (tF a ++ (eT c ++ sg [59] :: (eT d ++ sg [41] :: tF s))) := by have := jI a c d s []; simpa using this
 have q1 : Gq (eG d ++ h1 (sg [41]) :: gF s) (eT d ++ sg [41] :: tF s) := (znx hd).sgn (.inl rfl) (g.1.blank g.2 _ (by simp));have q2 : Gq ((sg [59], if eG d = [] then [] else [32]) :: (eG d ++ h1 (sg [41]) :: gF s)) (sg [59] :: (eT d ++ sg [41] :: tF s)) := q1.cons (by simp) (.inr (.inl ⟨rfl, show mxS [59] = true by decide⟩));have q3 : Gq (eG c ++ (sg [59], if eG d = [] then [] else [32]) :: (eG d ++ h1 (sg [41]) :: gF s)) (eT c ++ sg [59] :: (eT d ++ sg [41] :: tF s)) := (znx hc).sgn (.inl rfl) q2;have q4 : Gq (zX (if eG c = [] then [] else [32]) (gF a) ++ (eG c ++ (sg [59], if eG d = [] then [] else [32]) :: (eG d ++ h1 (sg [41]) :: gF s))) (tF a ++ (eT c ++ sg [59] :: (eT d ++ sg [41] :: tF s))) := by
  by_cases hn : eG c = []
  ·rw [if_pos hn];rw [hn, List.nil_append] at q3 ⊢;exact (h.1.gap []).sgn (.inl rfl) q3
  ·rw [if_neg hn]; exact h.1.gapp (by simp) q3
 exact ⟨by rw [e, e2]; exact (q4.opn (by simp) (by decide)).blank (by simp) _ (by simp), by rw [e]; simp⟩
theorem zel {x : List UInt8} {a : Tr} (h : GT a) : GT (nd 16 x [a]) := by
 have e : gF (nd 16 x [a]) = h1 (wd [99, 97, 116, 99, 104]) :: h0 (sg [40]) :: h0 (nmT x) :: h1 (sg [41]) :: gF a := by
  have : gF (nd 16 x [a]) = h1 (wd [99, 97, 116, 99, 104]) :: h0 (sg [40]) :: h0 (nmT x) :: h1 (sg [41]) :: ([gF a] : List (List Tg)).flatten := by rw [nd, zv, yq]; rfl
  rw [this]; simp
 have e2 : tF (nd 16 x [a]) = wd [99, 97, 116, 99, 104] :: sg [40] :: nmT x :: sg [41] :: tF a := by have := jX x a []; simpa using this
 exact ⟨by rw [e, e2]; exact (((h.1.blank h.2 (sg [41]) (b := [32]) (by simp)).ahead (nmT x) (show ¬ (1 : Int) = 5 by decide) (.inl rfl)).opn (by simp) (by decide)).blank (by simp) _ (by simp), by rw [e]; simp⟩
theorem zem {a : Tr} (h : GT a) : GT (nd 17 [] [a]) := by
 have e : gF (nd 17 [] [a]) = h1 (wd [102, 105, 110, 97, 108, 108, 121]) :: gF a := by
  have : gF (nd 17 [] [a]) = h1 (wd [102, 105, 110, 97, 108, 108, 121]) :: ([gF a] : List (List Tg)).flatten := by rw [nd, zv, yq]; rfl
  rw [this]; simp
 have e2 : tF (nd 17 [] [a]) = wd [102, 105, 110, 97, 108, 108, 121] :: tF a := by have := zbn a []; simpa using this
 exact ⟨by rw [e, e2]; exact h.1.blank h.2 _ (by simp), by rw [e]; simp⟩
theorem zfK {a c : Tr} (h : GT a) (g : GT c) : GT (nd 15 [] [a, c]) := by
 have e : gF (nd 15 [] [a, c]) = h1 (wd [116, 114, 121]) :: (zX [32] (gF a) ++ gF c) := by rw [nd, zv, yq]; rfl
 have e2 : tF (nd 15 [] [a, c]) = wd [116, 114, 121] :: (tF a ++ tF c) := by have := uU [a, c] []; simpa using this
 exact ⟨by rw [e, e2]; exact (h.1.gapp (by simp) g.1).blank (by simp [g.2]) _ (by simp), by rw [e]; simp⟩
theorem zlL {a c d : Tr} (h : GT a) (g : GT c) (i : GT d) : GT (nd 15 [] [a, c, d]) := by
 have e : gF (nd 15 [] [a, c, d]) = h1 (wd [116, 114, 121]) :: (zX [32] (gF a) ++ (zX [32] (gF c) ++ gF d)) := by rw [nd, zv, yq]; rfl
 have e2 : tF (nd 15 [] [a, c, d]) = wd [116, 114, 121] :: (tF a ++ (tF c ++ tF d)) := by have := uU [a, c, d] []; simpa using this
 exact ⟨by rw [e, e2]; exact (h.1.gapp (by simp) (g.1.gapp (by simp) i.1)).blank (by simp [i.2]) _ (by simp), by rw [e]; simp⟩
theorem zlM {x : List UInt8} {a : Tr} (h : GT a) : GT (nd 30 x [a]) := by
 obtain ⟨h1', h2⟩ := h.p;have e : gF (nd 30 x [a]) = h0 (txT x) :: h1 (sg [58]) :: gP a := by
  have : gF (nd 30 x [a]) = h0 (txT x) :: h1 (sg [58]) :: ([gP a] : List (List Tg)).flatten := by rw [nd, zv, yH]; rfl
  rw [this]; simp
 have e2 : tF (nd 30 x [a]) = txT x :: sg [58] :: pT a := by rw [nd, zA, yi, zdr]; simp
 exact ⟨by rw [e, e2]; exact (h1'.blank h2 (sg [58]) (b := [32]) (by simp)).ahead (txT x) (show ¬ (4 : Int) = 5 by decide) (.inl rfl), by rw [e]; simp⟩
theorem zny {l : List Tr} (h : ∀ t ∈ l, GT t) : GT (nd 29 [] l) := by
 have e : gF (nd 29 [] l) = h0 (sg [123]) :: (yz (l.map gF) ++ [h0 (sg [125])]) := by rw [nd, zv, yq]; rfl
 have e2 : tF (nd 29 [] l) = sg [123] :: (zC (l.map tF) ++ [sg [125]]) := by rw [nd, zA, yv, zgl]
 exact ⟨by rw [e, e2]; exact ((vW gF tF l fun t ht => (h t ht).1).fin (by decide) []).opn (by simp) (by decide), by rw [e]; simp⟩
theorem zil {k : Int} (hk : k = 18 ∨ k = 31) (x : List UInt8) (ps : List (List UInt8)) {bd : List Tr} (h : ∀ t ∈ bd, GT t) : GT (nd k x (yJ ps bd)) := by
 have hb := vT 20 (.inr rfl) h;have e : gF (nd k x (yJ ps bd)) = h1 (wd [102, 117, 110, 99, 116, 105, 111, 110]) :: ((if x = [] then [] else [h0 (nmT x)]) ++ h0 (sg [40]) :: (yz ((ps.map fun p => nd 19 p []).map gF) ++ h1 (sg [41]) :: gF (nd 20 [] bd))) := by
  rw [nd, zv, yq, show ∀ (x : List UInt8) (b : Int) (f p e : List (List Tg)), ug k x b f p e = h1 (wd [102, 117, 110, 99, 116, 105, 111, 110]) :: ((if x = [] then [] else [h0 (nmT x)]) ++ h0 (sg [40]) :: (yz f.dropLast ++ h1 (sg [41]) :: f.getLastD [])) from fun _ _ _ _ _ => by rcases hk with rfl | rfl <;> rfl];unfold yJ;rw [List.map_append, List.map_cons, List.map_nil, List.dropLast_concat];have : ∀ (l : List (List Tg)) (a d : List Tg), (l ++ [a]).getLastD d = a := fun l a d => by simp
  rw [this]
 have e2 : tF (nd k x (yJ ps bd)) = wd [102, 117, 110, 99, 116, 105, 111, 110] :: ((if x = [] then [] else [nmT x]) ++ sg [40] :: (zC ((ps.map fun p => nd 19 p []).map tF) ++ sg [41] :: tF (nd 20 [] bd))) := by
  have := uV k hk x ps bd []
  simpa [qj] using this
 have hp : ∀ t ∈ (ps.map fun p => nd 19 p []), Gq (gF t) (tF t) := fun t ht => by
  obtain ⟨p, hp, rfl⟩ := List.mem_map.1 ht;exact (uX (k := nmT p) (by rw [nd, zv]; rfl) (by rw [nd, zA]; rfl) (mxn p)).1
 have q1 : Gq (h0 (sg [40]) :: (yz ((ps.map fun p => nd 19 p []).map gF) ++ h1 (sg [41]) :: gF (nd 20 [] bd))) (sg [40] :: (zC ((ps.map fun p => nd 19 p []).map tF) ++ sg [41] :: tF (nd 20 [] bd))) :=
  ((vW gF tF _ hp).sgn (.inl rfl) (hb.1.blank hb.2 _ (by simp))).opn (by simp) (by decide)
 refine ⟨?_, by rw [e]; simp⟩;rw [e, e2];by_cases hx : x = []
 ·rw [if_pos hx, if_pos hx]; exact q1.blank (by simp) _ (by simp)
 ·rw [if_neg hx, if_neg hx]; exact (q1.ahead (nmT x) (show ¬ (1 : Int) = 5 by decide) (.inl rfl)).blank (by simp) _ (by simp)
theorem zkH : ∀ (n : Nat) (t : Tr), (zp t).length < n → (ExF t → GT t) ∧ (Sm t → GT t) ∧ (El t → GT t)
 | 0, _, h => absurd h (Nat.not_lt_zero _)
 | n + 1, t, hn => by
  have IH : ∀ u, (zp u).length < (zp t).length → (ExF u → GT u) ∧ (Sm u → GT u) ∧ (El u → GT u) := fun u hu => zkH n u (by omega)
  have ep : GT (nd 5 [] []) := uX (k := sg [59]) (by rw [nd, zv]; rfl) (by rw [nd, zA]; rfl) (.inr (by decide));have hE : ExF t → GT t := fun h => by
   cases h with
   | num b => exact uX (k := nuT b) (by rw [zv]; rfl) (by rw [zA]; rfl) (.inl (show ¬ (3 : Int) = 5 by decide))
   | tok k x hk =>
    rcases hk with rfl | rfl
    ·exact uX (k := txT x) (by rw [nd, zv]; rfl) (by rw [nd, zA]; rfl) (.inl (show ¬ (4 : Int) = 5 by decide))
    ·exact uX (k := nmT x) (by rw [nd, zv]; rfl) (by rw [nd, zA]; rfl) (mxn x)
   | wrd k hk => rcases hk with rfl | rfl | rfl | rfl <;> exact uX (by rw [nd, zv]; rfl) (by rw [nd, zA]; rfl) (mxw _)
   | arr l h => exact znf fun u hu => (IH u (zk hu)).1 (h u hu)
   | obj l h =>
    refine zny fun u hu => ?_
    obtain ⟨p, hp, rfl⟩ := List.mem_map.1 hu;exact zlM ((IH p.2 (Nat.lt_trans (zk (k := 30) (x := p.1) (b := 0) (kids := [p.2]) (by simp)) (zk hu))).1 (h p hp))
   | fn x ps bd h => exact zil (.inr rfl) x ps fun u hu => (IH u (Nat.lt_trans (zk (k := 20) (x := []) (b := 0) (kids := bd) hu) (zk (by simp [yJ])))).2.2 (h u hu)
   | dot x a h => exact znc ((IH a (zk (by simp))).1 h) x
   | idx a c h g => exact znd ((IH a (zk (by simp))).1 h) ((IH c (zk (by simp))).1 g)
   | call a l h g => exact zlA ((IH a (zk (by simp))).1 h) fun u hu => (IH u (zk (by simp [hu]))).1 (g u hu)
   | new a l h g => exact zne ((IH a (zk (by simp))).1 h) fun u hu => (IH u (zk (by simp [hu]))).1 (g u hu)
   | una p a hp h => exact zng ((IH a (zk (by simp))).1 h)
   | upd b p a hb hp ht h =>
    rcases hb with rfl | rfl
    ·exact zlB hp ((IH a (zk (by simp))).1 h)
    ·exact zlC hp ((IH a (zk (by simp))).1 h)
   | bin k p a c hk hp h g => exact zif (by rw [hk]; split <;> simp) ((IH a (zk (by simp))).1 h) ((IH c (zk (by simp))).1 g)
   | cnd a c d h g i => exact znh ((IH a (zk (by simp))).1 h) ((IH c (zk (by simp))).1 g) ((IH d (zk (by simp))).1 i)
   | asg p a c hp ht h g => exact zif (.inr (.inr rfl)) ((IH a (zk (by simp))).1 h) ((IH c (zk (by simp))).1 g)
   | com a c h g => exact zni ((IH a (zk (by simp))).1 h) ((IH c (zk (by simp))).1 g)
  have pk : ∀ {c K : List Tr}, (∀ u, (zp u).length < (zp (nd 10 [] K)).length → ExF u → GT u) → qe c ∈ K → (∀ a ∈ c, ExF a) → GT (qe c) := fun {c K} IH hc h => by
   match c, hc, h with
   | [], _, _ => exact ep
   | [a], hc, h => exact IH a (zk hc) (h a (by simp))
   | a :: b :: l, _, _ => exact ep
  have hS : Sm t → GT t := fun h => by
   cases h with
   | blk l h => exact vT 2 (.inl rfl) fun u hu => (IH u (zk hu)).2.1 (h u hu)
   | var p l hl h => exact zij (l := p :: l) fun v hv => zii (hl v hv) fun a ha => (IH a (zG (zk (k := 4) (x := v.1) (b := 0) ha) (List.mem_map_of_mem (f := yF) hv))).1 (h v hv a ha)
   | emp => exact ep
   | exp a h => exact zik ((IH a (zk (by simp))).1 h)
   | if2 a s h g => exact znt ((IH a (zk (by simp))).1 h) ((IH s (zk (by simp))).2.1 g)
   | if3 a s u h g hs i => exact znu ((IH a (zk (by simp))).1 h) ((IH s (zk (by simp))).2.1 g) ((IH u (zk (by simp))).2.1 i)
   | whl a s h g => exact znv ((IH a (zk (by simp))).1 h) ((IH s (zk (by simp))).2.1 g)
   | doW s a g h => exact zpV ((IH s (zk (by simp))).2.1 g) ((IH a (zk (by simp))).1 h)
   | forV p l hl h c d hc hd s g => exact zek (zij (l := p :: l) fun v hv => zii (hl v hv) fun a ha => (IH a (zG (zG (k := 3) (x := []) (b := 0) (zk (k := 4) (x := v.1) (b := 0) ha) (List.mem_map_of_mem (f := yF) hv)) (by simp))).1 (h v hv a ha)) (pk (fun u hu => (IH u hu).1) (by simp) hc) (pk (fun u hu => (IH u hu).1) (by simp) hd) ((IH s (zk (by simp))).2.1 g)
   | forE a h c d hc hd s g => exact zek (zik ((IH a (zG (zk (k := 6) (x := []) (b := 0) (kids := [a]) (by simp)) (by simp))).1 h)) (pk (fun u hu => (IH u hu).1) (by simp) hc) (pk (fun u hu => (IH u hu).1) (by simp) hd) ((IH s (zk (by simp))).2.1 g)
   | forN c d hc hd s g => exact zek ep (pk (fun u hu => (IH u hu).1) (by simp) hc) (pk (fun u hu => (IH u hu).1) (by simp) hd) ((IH s (zk (by simp))).2.1 g)
   | brk => exact zbr 11 _ (by rw [nd, zv]; rfl) (by rw [nd, zA]; rfl)
   | con => exact zbr 12 _ (by rw [nd, zv]; rfl) (by rw [nd, zA]; rfl)
   | ret0 => exact zbr 13 _ (by rw [nd, zv]; rfl) (by rw [nd, zA]; rfl)
   | ret1 a h => exact zlK ((IH a (zk (by simp))).1 h)
   | thr a h => exact znw ((IH a (zk (by simp))).1 h)
   | tryC a x b h g => exact zfK (vT 2 (.inl rfl) fun u hu => (IH u (zG (zk (k := 2) (x := []) (b := 0) hu) (by simp))).2.1 (h u hu)) (zel (vT 2 (.inl rfl) fun u hu => (IH u (zG (zG (k := 16) (x := x) (b := 0) (zk (k := 2) (x := []) (b := 0) hu) (List.mem_singleton.2 rfl : nd 2 [] b ∈ [nd 2 [] b])) (by simp))).2.1 (g u hu)))
   | tryF a c h g => exact zfK (vT 2 (.inl rfl) fun u hu => (IH u (zG (zk (k := 2) (x := []) (b := 0) hu) (by simp))).2.1 (h u hu)) (zem (vT 2 (.inl rfl) fun u hu => (IH u (zG (zG (k := 17) (x := []) (b := 0) (zk (k := 2) (x := []) (b := 0) hu) (List.mem_singleton.2 rfl : nd 2 [] c ∈ [nd 2 [] c])) (by simp))).2.1 (g u hu)))
   | tryB a x b c h g i => exact zlL (vT 2 (.inl rfl) fun u hu => (IH u (zG (zk (k := 2) (x := []) (b := 0) hu) (by simp))).2.1 (h u hu)) (zel (vT 2 (.inl rfl) fun u hu => (IH u (zG (zG (k := 16) (x := x) (b := 0) (zk (k := 2) (x := []) (b := 0) hu) (List.mem_singleton.2 rfl : nd 2 [] b ∈ [nd 2 [] b])) (by simp))).2.1 (g u hu))) (zem (vT 2 (.inl rfl) fun u hu => (IH u (zG (zG (k := 17) (x := []) (b := 0) (zk (k := 2) (x := []) (b := 0) hu) (List.mem_singleton.2 rfl : nd 2 [] c ∈ [nd 2 [] c])) (by simp))).2.1 (i u hu)))
  refine ⟨hE, hS, fun h => ?_⟩;cases h with
  | st _ h => exact hS h
  | named x hx ps bd h => exact zil (.inl rfl) x ps fun u hu => (IH u (zG (zk (k := 20) (x := []) (b := 0) hu) (by simp [yJ]))).2.2 (h u hu)
theorem zcM (l : List Tr) (h : ∀ t ∈ l, El t) : Gq (gF (nd 1 [] l)) (tF (nd 1 [] l)) := zlJ fun t ht => (zkH _ t (Nat.lt_succ_self _)).2.2 (h t ht)
section
def gdK (k : Int) (x : List UInt8) (b : Int) : Prop :=
 (k = 21 → ∃ u : Nat, u ≤ 9007199254740992 ∧ b = ofI u) ∧ (k = 22 ∨ k = 30 → chk x 0 = none) ∧ (k = 4 ∨ k = 16 ∨ k = 18 ∨ k = 19 ∨ k = 27 → yC x = true) ∧ (k = 31 → x = [] ∨ yC x = true) ∧ (k = 32 → yC x = true ∨ zV x = true)
mutual
def gdN : Tr → Prop
 | .node k x b kids => gdK k x b ∧ qX kids
def qX : List Tr → Prop
 | [] => True
 | t :: l => gdN t ∧ qX l
end
theorem zai : ∀ t : Tr, gdN t → qX t.kids
 | .node k x b kids, h => by rw [gdN] at h; exact h.2
theorem zby : ∀ {l : List Tr}, qX l → ∀ t ∈ l, gdN t
 | t :: l, h, u, hu => by
  rw [qX] at h;rcases List.mem_cons.1 hu with rfl | hu
  ·exact h.1
  ·exact zby h.2 u hu
theorem zeK : ∀ {l m : List Tr}, qX l → qX m → qX (l ++ m)
 | [], m, _, h => h
 | t :: l, m, h, g => by rw [qX] at h; rw [List.cons_append, qX]; exact ⟨h.1, zeK h.2 g⟩
def y9 (R : List Tk) : Prop := ∀ t ∈ R, Gd t
theorem y9.tail {R : List Tk} (h : y9 R) : y9 R.tail := fun t ht => h t (List.mem_of_mem_tail ht)
def PG (x : Rs) : Prop := ∀ t R, x = some (.ok (t, R)) → gdN t ∧ y9 R
section
variable {E : Int} {x : Rs} {R : List Tk}
theorem PG.ret {t : Tr} (h : gdN t) (hR : y9 R) : PG (Go.Proofs.YtfcgpphodacdmaaGreatDoor.ret t R) := fun u R' e => by
 unfold Go.Proofs.YtfcgpphodacdmaaGreatDoor.ret at e; injection e with e; injection e with e; injection e with e1 e2; subst e1; subst e2; exact ⟨h, hR⟩
theorem PG.bad : PG (Go.Proofs.YtfcgpphodacdmaaGreatDoor.bad E R) := fun u R' e => by unfold Go.Proofs.YtfcgpphodacdmaaGreatDoor.bad at e; injection e with e; cases e
theorem PG.bnd {k : Tr → List Tk → Rs} (h : PG x) (g : ∀ t R, gdN t → y9 R → PG (k t R)) : PG (Go.Proofs.YtfcgpphodacdmaaGreatDoor.bnd x k) := fun u R' e => by
 unfold Go.Proofs.YtfcgpphodacdmaaGreatDoor.bnd at e;cases x with
 | none => cases e
 | some z =>
  rcases z with p | ⟨t, R1⟩
  ·cases e
  ·obtain ⟨h1, h2⟩ := h t R1 rfl;exact g t R1 h1 h2 u R' e
theorem PG.ite {c : Prop} [Decidable c] {y : Rs} (h : c → PG x) (g : ¬ c → PG y) : PG (if c then x else y) := by
 split; exact h ‹_›; exact g ‹_›
theorem PG.need {s : List UInt8} {k : List Tk → Rs} (hR : y9 R) (h : y9 R.tail → PG (k R.tail)) : PG (Go.Proofs.YtfcgpphodacdmaaGreatDoor.need E s R k) := by
 unfold Go.Proofs.YtfcgpphodacdmaaGreatDoor.need; split; exact h hR.tail; exact PG.bad
theorem y9.hd (h : y9 R) (hk : (hd E R).kind ≠ 0) : Gd (hd E R) := by
 cases R with
 | nil => exact absurd rfl hk
 | cons a q => exact h a (by simp)
theorem Gd.name {t : Tk} (h : Gd t) (hk : t.kind = 1) : yC t.text = true := by
 rcases h with ⟨_, h, _⟩ | ⟨h, _⟩ | ⟨h, _⟩ | ⟨h, _⟩ | ⟨h, _⟩
 ·exact h
 ·omega
 ·omega
 ·omega
 ·omega
theorem Gd.word {t : Tk} (h : Gd t) (hk : t.kind = 2) : zV t.text = true := by
 rcases h with ⟨h, _⟩ | ⟨_, h, _⟩ | ⟨h, _⟩ | ⟨h, _⟩ | ⟨h, _⟩
 ·omega
 ·exact h
 ·omega
 ·omega
 ·omega
theorem Gd.str {t : Tk} (h : Gd t) (hk : t.kind = 4) : chk t.text 0 = none := by
 rcases h with ⟨h, _⟩ | ⟨h, _⟩ | ⟨h, _⟩ | ⟨_, h, _⟩ | ⟨h, _⟩
 ·omega
 ·omega
 ·omega
 ·exact h
 ·omega
theorem Gd.num {t : Tk} (h : Gd t) (hk : t.kind = 3) : ∃ u : Nat, u ≤ 9007199254740992 ∧ t.bits = ofI u := by
 rcases h with ⟨h, _⟩ | ⟨h, _⟩ | ⟨_, _, h⟩ | ⟨h, _⟩ | ⟨h, _⟩
 ·omega
 ·omega
 ·exact h
 ·omega
 ·omega
theorem PG.name {k : List UInt8 → List Tk → Rs} (hR : y9 R) (h : ∀ x, yC x = true → y9 R.tail → PG (k x R.tail)) : PG (nameK E R k) := by
 unfold nameK; split
 ·rename_i hk; exact h _ ((hR.hd (E := E) (by omega)).name hk) hR.tail
 ·exact PG.bad
theorem PG.key {k : List UInt8 → List Tk → Rs} (hR : y9 R) (h : ∀ x, yC x = true ∨ zV x = true → y9 R.tail → PG (k x R.tail)) : PG (keyK E R k) := by
 unfold keyK; split
 ·rename_i hk
  have hg := hR.hd (E := E) (by omega);refine h _ ?_ hR.tail;rcases hk with hk | hk
  ·exact .inl (hg.name hk)
  ·exact .inr (hg.word hk)
 ·exact PG.bad
theorem PG.prop {k : List UInt8 → List Tk → Rs} (hR : y9 R) (h : ∀ x, chk x 0 = none → y9 R.tail → PG (k x R.tail)) : PG (propK E R k) := by
 unfold propK; split
 ·rename_i hk; exact h _ ((hR.hd (E := E) (by omega)).str hk) hR.tail
 ·split
  ·rename_i hk
   have := jx (hR.hd (E := E) (by omega));unfold ya at this;rw [if_neg (by omega), if_pos hk] at this;exact h _ this hR.tail
  ·unfold keyK; split
   ·rename_i hk
    have := jx (hR.hd (E := E) (by omega));unfold ya at this;rw [if_pos (by omega)] at this;exact h _ this hR.tail
   ·exact PG.bad
end
def gdP : NT → Prop
 | .exprMore x | .binMore _ x | .memMore x | .makMore x | .part x | .called x => gdN x
 | .function k x => gdK k x 0
 | .leave k => k = 11 ∨ k = 12
 | .row it | .rowMore it | .list _ it | .untl _ it => gdP it
 | _ => True
theorem ja {k : Int} {x : List UInt8} {b : Int} (h : k ≠ 21 ∧ k ≠ 22 ∧ k ≠ 30 ∧ k ≠ 4 ∧ k ≠ 16 ∧ k ≠ 18 ∧ k ≠ 19 ∧ k ≠ 27 ∧ k ≠ 31 ∧ k ≠ 32) : gdK k x b := ⟨fun e => by omega, fun e => by omega, fun e => by omega, fun e => by omega, fun e => by omega⟩
theorem jL : qX [] := by rw [qX]; trivial
theorem zfV {t : Tr} {l : List Tr} (h : gdN t) (g : qX l) : qX (t :: l) := by rw [qX]; exact ⟨h, g⟩
theorem zaj {k : Int} {x : List UInt8} {b : Int} {l : List Tr} (h : gdK k x b) (g : qX l) : gdN (.node k x b l) := by rw [gdN]; exact ⟨h, g⟩
section
variable {E : Int} {rec : NT → List Tk → Rs}
theorem zmh (H : ∀ nt R, y9 R → gdP nt → PG (rec nt R)) (nt : NT) (R : List Tk) (hR : y9 R) (hp : gdP nt) : PG (zg E rec nt R) := by
  cases nt
  case program =>
    cases R with
    | nil => exact PG.ret (zaj (ja (by decide)) jL) hR
    | cons a q =>
      show PG (bnd (rec .element (a :: q)) fun x R1 => bnd (rec .program R1) fun l R2 => ret (bag (x :: l.kids)) R2)
      exact PG.bnd (H _ _ hR trivial) fun t R1 h hR1 => PG.bnd (H _ _ hR1 trivial) fun l R2 hl hR2 => PG.ret (zaj (ja (by decide)) (zfV h (zai _ hl))) hR2
  case primary =>
    simp only [zg];refine PG.ite (fun h1 => PG.ret (zaj ?_ jL) hR.tail) fun _ => PG.ite (fun h1 => PG.ret (zaj ?_ jL) hR.tail) fun _ => PG.ite (fun h1 => PG.ret (zaj ?_ jL) hR.tail) fun _ => H _ _ hR trivial
    · have := (hR.hd (E := E) (by omega)).name h1;exact ⟨fun e => by omega, fun e => by omega, fun _ => this, fun e => by omega, fun e => by omega⟩
    · have := (hR.hd (E := E) (by omega)).num h1;exact ⟨fun _ => this, fun e => by omega, fun e => by omega, fun e => by omega, fun e => by omega⟩
    · have := (hR.hd (E := E) (by omega)).str h1;exact ⟨fun e => by omega, fun _ => this, fun e => by omega, fun e => by omega, fun e => by omega⟩
  case leave k =>
    simp only [zg];exact PG.need hR.tail fun hR1 => PG.ret (zaj (ja (by rcases hp with rfl | rfl <;> decide)) jL) hR1
  all_goals
    simp only [zg]
    repeat' (first
      | exact PG.bad
      | exact H _ _ (by first | assumption | exact y9.tail (by assumption)) (by first | trivial | assumption)
      | refine PG.bnd (H _ _ (by first | assumption | exact y9.tail (by assumption)) (by first | trivial | assumption)) fun _ _ _ _ => ?_
      | refine PG.need (by first | assumption | exact y9.tail (by assumption)) fun _ => ?_
      | refine PG.name (by first | assumption | exact y9.tail (by assumption)) fun _ _ _ => ?_
      | refine PG.key (by first | assumption | exact y9.tail (by assumption)) fun _ _ _ => ?_
      | refine PG.prop (by first | assumption | exact y9.tail (by assumption)) fun _ _ _ => ?_
      | refine PG.ret ?_ (by first | assumption | exact y9.tail (by assumption))
      | refine PG.ite (fun _ => ?_) (fun _ => ?_))
  all_goals first
    | refine H _ _ (by first | assumption | exact y9.tail (by assumption) | exact y9.tail (y9.tail (by assumption))) ?_
    | skip
  all_goals repeat' (first
    | assumption
    | exact jL
    | exact .inl rfl
    | exact .inr rfl
    | refine zaj ?_ ?_
    | refine zfV ?_ ?_
    | exact zai _ (by assumption)
    | refine zeK ?_ ?_
    | exact ja (by decide)
    | exact ja (by split <;> decide)
    | (refine (⟨fun e => ?_, fun e => ?_, fun e => ?_, fun e => ?_, fun e => ?_⟩ : gdK _ _ _) <;> first | assumption | exact absurd e (by decide) | (right; assumption)))
end
end
theorem zmy (E : Int) : ∀ (n : Nat) (nt : NT) (R : List Tk), y9 R → gdP nt → PG (Q E n nt R)
 | 0, _, _, _, _ => fun t R e => by cases e
 | n + 1, nt, R, hR, hp => zmh (zmy E n) nt R hR hp
theorem zbZ {E : Int} {l : List Tk} {t : Tr} {R : List Tk} (hl : y9 l) (h : D E .program l (.ok (t, R))) : ∀ u ∈ t.kids, gdN u := by
 obtain ⟨n, h⟩ := h;exact zby (zai _ ((zmy E n .program l hl trivial) t R (h n (zd _))).1)
theorem zb0 {l : List Tk} (h : y9 l) : xQ l := fun t ht => by
 rcases h t ht with ⟨h1, h2, h3⟩ | ⟨h1, h2, h3⟩ | ⟨h1, h2, u, hu, h3⟩ | ⟨h1, h2, h3⟩ | ⟨h1, h2, h3⟩
 ·exact ⟨fun _ => h3, fun e => by omega, fun _ => (uC h2).1⟩
 ·exact ⟨fun _ => h3, fun e => by omega, fun e => by omega⟩
 ·exact ⟨fun e => absurd h1 e, fun _ => h2, fun e => by omega⟩
 ·exact ⟨fun _ => h3, fun e => by omega, fun e => by omega⟩
 ·exact ⟨fun _ => h3, fun e => by omega, fun e => by omega⟩
def Gx (x : Tg) : Prop := Gd x.1 ∧ (x.2 = [] ∨ x.2 = [32] ∨ x.2 = [10])
def Gxs (f : List Tg) : Prop := ∀ x ∈ f, Gx x
theorem Gxs.nil : Gxs [] := fun x h => by cases h
theorem Gxs.cons {x : Tg} {f : List Tg} (h : Gx x) (g : Gxs f) : Gxs (x :: f) := fun y hy => by
 rcases List.mem_cons.1 hy with rfl | hy
 ·exact h
 ·exact g y hy
theorem Gxs.app {f g : List Tg} (h : Gxs f) (k : Gxs g) : Gxs (f ++ g) := fun y hy => (List.mem_append.1 hy).elim (h y) (k y)
theorem Gxs.last {b : List UInt8} (hb : b = [] ∨ b = [32] ∨ b = [10]) : ∀ {f : List Tg}, Gxs f → Gxs (zX b f)
 | [], h => h
 | [x], h => Gxs.cons ⟨(h x (by simp)).1, hb⟩ Gxs.nil
 | x :: y :: l, h => Gxs.cons (h x (by simp)) (Gxs.last hb (f := y :: l) fun z hz => h z (by simp [hz]))
theorem Gxs.ite {c : Prop} [Decidable c] {f g : List Tg} (h : c → Gxs f) (k : ¬ c → Gxs g) : Gxs (if c then f else g) := by
 split
 ·exact h ‹_›
 ·exact k ‹_›
theorem qm {q : List UInt8} (h : xm q = true) : Gd (sg q) := .inr (.inr (.inr (.inr ⟨rfl, h, rfl⟩)))
theorem xD {q : List UInt8} (h : zV q = true) : Gd (wd q) := .inr (.inl ⟨rfl, h, rfl⟩)
theorem zc3 {q : List UInt8} (h : yC q = true) : Gd (nmT q) := .inl ⟨rfl, h, rfl⟩
theorem znS {q : List UInt8} (h : chk q 0 = none) : Gd (txT q) := .inr (.inr (.inr (.inl ⟨rfl, h, rfl⟩)))
theorem znT {u : Nat} (h : u ≤ 9007199254740992) : Gd (nuT (ofI u)) := .inr (.inr (.inl ⟨rfl, rfl, u, h, rfl⟩))
theorem znU {q : List UInt8} (h : xm q = true ∨ zV q = true) : Gd (opT q) := by
 unfold opT;cases hw : zV q with
 | true => exact xD hw
 | false => exact qm (h.resolve_right (by rw [hw]; decide))
theorem x0 {t : Tk} (h : Gd t) : Gx (h0 t) := ⟨h, .inl rfl⟩
theorem x1 {t : Tk} (h : Gd t) : Gx (h1 t) := ⟨h, .inr (.inl rfl)⟩
theorem Gxs.flat : ∀ {l : List (List Tg)}, (∀ f ∈ l, Gxs f) → Gxs l.flatten
 | [], _ => Gxs.nil
 | f :: l, h => (h f (by simp)).app (Gxs.flat fun g hg => h g (by simp [hg]))
theorem Gxs.comma : ∀ {l : List (List Tg)}, (∀ f ∈ l, Gxs f) → Gxs (yz l)
 | [], _ => Gxs.nil
 | [f], h => h f (by simp)
 | f :: g :: l, h => (h f (by simp)).app (Gxs.cons (x1 (qm (by decide))) (Gxs.comma (l := g :: l) fun u hu => h u (by simp [hu])))
theorem Gxs.each {b : List UInt8} (hb : b = [] ∨ b = [32] ∨ b = [10]) : ∀ {l : List (List Tg)}, (∀ f ∈ l, Gxs f) → Gxs (vq b l)
 | [], _ => Gxs.nil
 | f :: l, h => ((h f (by simp)).last hb).app (Gxs.each hb fun g hg => h g (by simp [hg]))
def zko (q : List UInt8) : Prop := yR q = false ∧ qh q = false
theorem jP : (∀ q ∈ yg, (xm q = true ∨ zV q = true) ∧ yR q = false ∧ qh q = false) ∧ (∀ q ∈ yG, xm q = true ∧ yR q = false ∧ qh q = false) ∧ (∀ q ∈ xy, (xm q = true ∨ zV q = true) ∧ yR q = false ∧ qh q = false) ∧ (∀ q ∈ q6.map Prod.fst, (xm q = true ∨ zV q = true) ∧ yR q = false ∧ qh q = false) := by decide +kernel
def GX (t : Tr) : Prop := Gxs (gF t)
theorem GX.p {t : Tr} (h : GX t) : Gxs (gP t) := by
 unfold gP brG; split
 ·exact h
 ·exact Gxs.cons (x0 (qm (by decide))) (Gxs.app h (Gxs.cons (x0 (qm (by decide))) Gxs.nil))
theorem GX.e {t : Tr} (h : GX t) : Gxs (eG t) := by
 unfold eG; split
 ·exact Gxs.nil
 ·exact h
def opK (k : Int) (x : List UInt8) : Prop := (k = 36 ∨ k = 38 ∨ k = 39 ∨ k = 41 → (xm x = true ∨ zV x = true) ∧ zko x) ∧ (k = 37 → xm x = true ∧ zko x)
theorem za9 {k : Int} {x : List UInt8} {b : Int} {f p e : List (List Tg)} (hk : gdK k x b) (ho : opK k x) (hf : ∀ g ∈ f, Gxs g) (hp : ∀ g ∈ p, Gxs g) (he : ∀ g ∈ e, Gxs g) : Gxs (ug k x b f p e) := by
  obtain ⟨k1, k2, k3, k4, k5⟩ := hk;obtain ⟨o1, o2⟩ := ho;have hd : ∀ l : List (List Tg), (∀ g ∈ l, Gxs g) → Gxs (l.headD []) := fun l h => by
    cases l with
    | nil => exact Gxs.nil
    | cons a q => exact h a (by simp)
  have tl : ∀ l : List (List Tg), (∀ g ∈ l, Gxs g) → ∀ g ∈ l.tail, Gxs g := fun l h g hg => h g (List.mem_of_mem_tail hg)
  have dl : ∀ l : List (List Tg), (∀ g ∈ l, Gxs g) → ∀ g ∈ l.dropLast, Gxs g := fun l h g hg => h g ((List.dropLast_sublist l).subset hg)
  have gl : ∀ (l : List (List Tg)) (d : List Tg), Gxs d → (∀ g ∈ l, Gxs g) → Gxs (l.getLastD d) := fun l => by
    induction l with
    | nil => intro d hd _; exact hd
    | cons a q ih => intro d _ h; rw [List.getLastD_cons]; exact ih a (h a (by simp)) fun g hg => h g (by simp [hg])
  have c0 : Gd (sg [40]) := qm (by decide);have c1 : Gd (sg [41]) := qm (by decide);have c2 : Gd (sg [91]) := qm (by decide);have c3 : Gd (sg [93]) := qm (by decide);have c4 : Gd (sg [123]) := qm (by decide);have c5 : Gd (sg [125]) := qm (by decide);have c6 : Gd (sg [46]) := qm (by decide);have c7 : Gd (sg [59]) := qm (by decide);have c8 : Gd (sg [44]) := qm (by decide);have c9 : Gd (sg [63]) := qm (by decide);have c10 : Gd (sg [58]) := qm (by decide);have c11 : Gd (sg [61]) := qm (by decide);have w0 : Gd (wd [118, 97, 114]) := xD (by decide);have w1 : Gd (wd [105, 102]) := xD (by decide);have w2 : Gd (wd [101, 108, 115, 101]) := xD (by decide);have w3 : Gd (wd [119, 104, 105, 108, 101]) := xD (by decide);have w4 : Gd (wd [100, 111]) := xD (by decide);have w5 : Gd (wd [98, 114, 101, 97, 107]) := xD (by decide);have w6 : Gd (wd [99, 111, 110, 116, 105, 110, 117, 101]) := xD (by decide);have w7 : Gd (wd [114, 101, 116, 117, 114, 110]) := xD (by decide);have w8 : Gd (wd [116, 104, 114, 111, 119]) := xD (by decide);have w9 : Gd (wd [116, 114, 121]) := xD (by decide);have w10 : Gd (wd [99, 97, 116, 99, 104]) := xD (by decide);have w11 : Gd (wd [102, 105, 110, 97, 108, 108, 121]) := xD (by decide);have w12 : Gd (wd [102, 117, 110, 99, 116, 105, 111, 110]) := xD (by decide);have w13 : Gd (wd [116, 114, 117, 101]) := xD (by decide);have w14 : Gd (wd [102, 97, 108, 115, 101]) := xD (by decide);have w15 : Gd (wd [110, 117, 108, 108]) := xD (by decide);have w16 : Gd (wd [116, 104, 105, 115]) := xD (by decide);have w17 : Gd (wd [110, 101, 119]) := xD (by decide);have w18 : Gd (wd [102, 111, 114]) := xD (by decide)
  delta ug
  repeat' (refine Gxs.ite (fun hk => ?_) (fun hk => ?_))
  all_goals (try split)
  all_goals repeat' (first
    | exact Gxs.nil
    | exact Gxs.each (.inr (.inr rfl)) hf
    | exact Gxs.each (.inr (.inl rfl)) hf
    | exact Gxs.comma hf
    | exact Gxs.comma hp
    | exact Gxs.comma (dl _ hf)
    | exact Gxs.comma (tl _ hp)
    | exact Gxs.flat hf
    | exact Gxs.flat hp
    | exact hd _ hp
    | exact gl _ _ Gxs.nil hf
    | refine Gxs.cons ?_ ?_
    | refine Gxs.app ?_ ?_
    | refine Gxs.last (.inr (.inl rfl)) ?_
    | (refine hf _ ?_; simp; done)
    | (refine hp _ ?_; simp; done)
    | (refine he _ ?_; simp; done)
    | (refine x0 ?_; assumption)
    | (refine x1 ?_; assumption)
    | (refine x0 (zc3 (k3 ?_)); omega)
    | (refine x1 (zc3 (k3 ?_)); omega)
    | (refine x0 (znS (k2 ?_)); omega)
    | (refine x1 (znU (o1 ?_).1); omega)
    | (refine x0 (qm (o2 ?_).1); omega))
  all_goals first
    | (refine ⟨by assumption, ?_⟩; split; exact .inl rfl; exact .inr (.inl rfl))
    | (refine Gxs.last ?_ (hf _ ?_); (split; exact .inl rfl; exact .inr (.inl rfl)); simp; done)
    | (refine x0 (xD ?_); assumption)
    | (obtain ⟨u, hu, rfl⟩ := k1 (by assumption); exact x0 (znT hu))
    | skip
  · refine x0 (zc3 ?_)
    rename_i hx
    rcases hk with h | h
    · exact k3 (by omega)
    · exact (k4 h).resolve_left hx
  · refine x0 (zc3 ?_)
    rename_i hx
    exact (k5 hk).resolve_right hx
theorem zba : ∀ l : List Tr, (∀ t ∈ l, GX t) → (∀ g ∈ gFs l, Gxs g) ∧ (∀ g ∈ gPs l, Gxs g) ∧ ∀ g ∈ gEs l, Gxs g := fun l h => by
 rw [yq, yH, zcl];refine ⟨fun g hg => ?_, fun g hg => ?_, fun g hg => ?_⟩ <;> obtain ⟨t, ht, rfl⟩ := List.mem_map.1 hg
 ·exact h t ht
 ·exact (h t ht).p
 ·exact (h t ht).e
mutual
def opN : Tr → Prop
 | .node k x b kids => opK k x ∧ jQ kids
def jQ : List Tr → Prop
 | [] => True
 | t :: l => opN t ∧ jQ l
end
mutual
theorem zb1 : ∀ t : Tr, gdN t → opN t → GX t
 | .node k x b kids, h, o => by
  rw [gdN] at h;rw [opN] at o;have hk := zba kids (zdg kids h.2 o.2);show Gxs (gF (.node k x b kids))
  rw [zv];exact za9 h.1 o.1 hk.1 hk.2.1 hk.2.2
theorem zdg : ∀ l : List Tr, qX l → jQ l → ∀ t ∈ l, GX t
 | [], _, _ => fun t h => by cases h
 | t :: l, h, o => by
  rw [qX] at h;rw [jQ] at o;have e1 := zb1 t h.1 o.1;have e2 := zdg l h.2 o.2;intro u hu;rcases List.mem_cons.1 hu with e | hu
  ·rw [e]; exact e1
  ·exact e2 u hu
end
theorem zfP : ∀ {l : List Tr}, (∀ t ∈ l, opN t) → jQ l
 | [], _ => by rw [jQ]; trivial
 | t :: l, h => by rw [jQ]; exact ⟨h t (by simp), zfP fun u hu => h u (by simp [hu])⟩
theorem qg {k : Int} {x : List UInt8} {b : Int} {l : List Tr} (h : opK k x) (g : ∀ t ∈ l, opN t) : opN (.node k x b l) := by rw [opN]; exact ⟨h, zfP g⟩
theorem yp {k : Int} {x : List UInt8} (h : k ≠ 36 ∧ k ≠ 37 ∧ k ≠ 38 ∧ k ≠ 39 ∧ k ≠ 41) : opK k x := ⟨fun e => by omega, fun e => by omega⟩
theorem vI (k : Int) (x : List UInt8) (b : Int) (h : k ≠ 36 ∧ k ≠ 37 ∧ k ≠ 38 ∧ k ≠ 39 ∧ k ≠ 41) : opN (.node k x b []) := qg (yp h) fun t h => by cases h
theorem vk {k : Int} {x : List UInt8} {a : Tr} (h : opK k x) (g : opN a) : opN (nd k x [a]) := qg h fun t ht => by rw [List.mem_singleton] at ht; subst ht; exact g
theorem zc5 : ∀ (n : Nat) (t : Tr), (zp t).length < n → (ExF t → opN t) ∧ (Sm t → opN t) ∧ (El t → opN t)
 | 0, _, h => absurd h (Nat.not_lt_zero _)
 | n + 1, t, hn => by
  have IH : ∀ u, (zp u).length < (zp t).length → (ExF u → opN u) ∧ (Sm u → opN u) ∧ (El u → opN u) := fun u hu => zc5 n u (by omega)
  have blk : ∀ (k : Int) (l : List Tr), (k = 2 ∨ k = 20) → (∀ u ∈ l, opN u) → opN (nd k [] l) := fun k l hk h => qg (yp (by omega)) h
  have two : ∀ {k : Int} {x : List UInt8} {a c : Tr}, opK k x → opN a → opN c → opN (nd k x [a, c]) := fun h g i => qg h fun t ht => by
   simp only [List.mem_cons, List.not_mem_nil, or_false] at ht;rcases ht with rfl | rfl
   ·exact g
   ·exact i
  have vR : ∀ {k : Int} {x : List UInt8} {a c d : Tr}, opK k x → opN a → opN c → opN d → opN (nd k x [a, c, d]) := fun h g i j => qg h fun t ht => by
   simp only [List.mem_cons, List.not_mem_nil, or_false] at ht;rcases ht with rfl | rfl | rfl
   ·exact g
   ·exact i
   ·exact j
  have four : ∀ {a c d s : Tr}, opN a → opN c → opN d → opN s → opN (nd 10 [] [a, c, d, s]) := fun g i j l => qg (yp (by decide)) fun t ht => by
   simp only [List.mem_cons, List.not_mem_nil, or_false] at ht;rcases ht with rfl | rfl | rfl | rfl
   ·exact g
   ·exact i
   ·exact j
   ·exact l
  have fn : ∀ (k : Int) (hk : k = 18 ∨ k = 31) (x : List UInt8) (ps : List (List UInt8)) (bd : List Tr), (∀ u ∈ bd, opN u) → opN (nd k x (yJ ps bd)) := fun k hk x ps bd h => qg (yp (by omega)) fun t ht => by
   unfold yJ at ht;rcases List.mem_append.1 ht with ht | ht
   ·obtain ⟨p, hp, rfl⟩ := List.mem_map.1 ht;exact vI 19 p 0 (by decide)
   ·rw [List.mem_singleton] at ht; subst ht;exact blk 20 bd (.inr rfl) h
  have ep : opN (nd 5 [] []) := vI 5 [] 0 (by decide);have hE : ExF t → opN t := fun h => by
   cases h with
   | num b => exact vI 21 [] b (by decide)
   | tok k x hk => exact vI k x 0 (by omega)
   | wrd k hk => exact vI k [] 0 (by omega)
   | arr l h => exact qg (yp (by decide)) fun u hu => (IH u (zk hu)).1 (h u hu)
   | obj l h =>
    refine qg (yp (by decide)) fun u hu => ?_
    obtain ⟨p, hp, rfl⟩ := List.mem_map.1 hu;exact vk (yp (by decide)) ((IH p.2 (Nat.lt_trans (zk (k := 30) (x := p.1) (b := 0) (kids := [p.2]) (by simp)) (zk hu))).1 (h p hp))
   | fn x ps bd h => exact fn 31 (.inr rfl) x ps bd fun u hu => (IH u (Nat.lt_trans (zk (k := 20) (x := []) (b := 0) (kids := bd) hu) (zk (by simp [yJ])))).2.2 (h u hu)
   | dot x a h => exact vk (yp (by decide)) ((IH a (zk (by simp))).1 h)
   | idx a c h g => exact two (yp (by decide)) ((IH a (zk (by simp))).1 h) ((IH c (zk (by simp))).1 g)
   | call a l h g => exact qg (yp (by decide)) fun u hu => (List.mem_cons.1 hu).elim (fun e => by subst e; exact (IH u (zk (by simp))).1 h) fun hl => (IH u (zk (by simp [hl]))).1 (g u hl)
   | new a l h g => exact qg (yp (by decide)) fun u hu => (List.mem_cons.1 hu).elim (fun e => by subst e; exact (IH u (zk (by simp))).1 h) fun hl => (IH u (zk (by simp [hl]))).1 (g u hl)
   | una p a hp h => exact vk ⟨fun _ => jP.1 p (by simpa using hp), fun e => absurd e (by decide)⟩ ((IH a (zk (by simp))).1 h)
   | upd b p a hb hp ht h => exact qg ⟨fun e => absurd e (by decide), fun _ => jP.2.1 p (by simpa using hp)⟩ fun u hu => by rw [List.mem_singleton] at hu; subst hu; exact (IH _ (zk (by simp))).1 h
   | bin k p a c hk hp h g => exact two ⟨fun _ => jP.2.2.2 p (zb5 hp), fun e => by rw [hk] at e; split at e <;> exact absurd e (by decide)⟩ ((IH a (zk (by simp))).1 h) ((IH c (zk (by simp))).1 g)
   | cnd a c d h g i => exact vR (yp (by decide)) ((IH a (zk (by simp))).1 h) ((IH c (zk (by simp))).1 g) ((IH d (zk (by simp))).1 i)
   | asg p a c hp ht h g => exact two ⟨fun _ => jP.2.2.1 p (by simpa using hp), fun e => absurd e (by decide)⟩ ((IH a (zk (by simp))).1 h) ((IH c (zk (by simp))).1 g)
   | com a c h g => exact two (yp (by decide)) ((IH a (zk (by simp))).1 h) ((IH c (zk (by simp))).1 g)
  have pk : ∀ {c K : List Tr}, (∀ u, (zp u).length < (zp (nd 10 [] K)).length → ExF u → opN u) → qe c ∈ K → (∀ a ∈ c, ExF a) → opN (qe c) := fun {c K} IH hc h => by
   match c, hc, h with
   | [], _, _ => exact ep
   | [a], hc, h => exact IH a (zk hc) (h a (by simp))
   | a :: b :: l, _, _ => exact ep
  have dec : ∀ (v : List UInt8 × List Tr), (∀ a ∈ v.2, opN a) → opN (yF v) := fun v h => qg (yp (by decide)) h
  have var : ∀ l : List (List UInt8 × List Tr), (∀ v ∈ l, ∀ a ∈ v.2, opN a) → opN (nd 3 [] (l.map yF)) := fun l h => qg (yp (by decide)) fun u hu => by
   obtain ⟨v, hv, rfl⟩ := List.mem_map.1 hu;exact dec v (h v hv)
  have hS : Sm t → opN t := fun h => by
   cases h with
   | blk l h => exact blk 2 l (.inl rfl) fun u hu => (IH u (zk hu)).2.1 (h u hu)
   | var p l hl h => exact var (p :: l) fun v hv a ha => (IH a (zG (zk (k := 4) (x := v.1) (b := 0) ha) (List.mem_map_of_mem (f := yF) hv))).1 (h v hv a ha)
   | emp => exact ep
   | exp a h => exact vk (yp (by decide)) ((IH a (zk (by simp))).1 h)
   | if2 a s h g => exact two (yp (by decide)) ((IH a (zk (by simp))).1 h) ((IH s (zk (by simp))).2.1 g)
   | if3 a s u h g hs i => exact vR (yp (by decide)) ((IH a (zk (by simp))).1 h) ((IH s (zk (by simp))).2.1 g) ((IH u (zk (by simp))).2.1 i)
   | whl a s h g => exact two (yp (by decide)) ((IH a (zk (by simp))).1 h) ((IH s (zk (by simp))).2.1 g)
   | doW s a g h => exact two (yp (by decide)) ((IH s (zk (by simp))).2.1 g) ((IH a (zk (by simp))).1 h)
   | forV p l hl h c d hc hd s g => exact four (var (p :: l) fun v hv a ha => (IH a (zG (zG (k := 3) (x := []) (b := 0) (zk (k := 4) (x := v.1) (b := 0) ha) (List.mem_map_of_mem (f := yF) hv)) (by simp))).1 (h v hv a ha)) (pk (fun u hu => (IH u hu).1) (by simp) hc) (pk (fun u hu => (IH u hu).1) (by simp) hd) ((IH s (zk (by simp))).2.1 g)
   | forE a h c d hc hd s g => exact four (vk (yp (by decide)) ((IH a (zG (zk (k := 6) (x := []) (b := 0) (kids := [a]) (by simp)) (by simp))).1 h)) (pk (fun u hu => (IH u hu).1) (by simp) hc) (pk (fun u hu => (IH u hu).1) (by simp) hd) ((IH s (zk (by simp))).2.1 g)
   | forN c d hc hd s g => exact four ep (pk (fun u hu => (IH u hu).1) (by simp) hc) (pk (fun u hu => (IH u hu).1) (by simp) hd) ((IH s (zk (by simp))).2.1 g)
   | brk => exact vI 11 [] 0 (by decide)
   | con => exact vI 12 [] 0 (by decide)
   | ret0 => exact vI 13 [] 0 (by decide)
   | ret1 a h => exact vk (yp (by decide)) ((IH a (zk (by simp))).1 h)
   | thr a h => exact vk (yp (by decide)) ((IH a (zk (by simp))).1 h)
   | tryC a x b h g => exact two (yp (by decide)) (blk 2 a (.inl rfl) fun u hu => (IH u (zG (zk (k := 2) (x := []) (b := 0) hu) (by simp))).2.1 (h u hu)) (vk (yp (by decide)) (blk 2 b (.inl rfl) fun u hu => (IH u (zG (zG (k := 16) (x := x) (b := 0) (zk (k := 2) (x := []) (b := 0) hu) (List.mem_singleton.2 rfl : nd 2 [] b ∈ [nd 2 [] b])) (by simp))).2.1 (g u hu)))
   | tryF a c h g => exact two (yp (by decide)) (blk 2 a (.inl rfl) fun u hu => (IH u (zG (zk (k := 2) (x := []) (b := 0) hu) (by simp))).2.1 (h u hu)) (vk (yp (by decide)) (blk 2 c (.inl rfl) fun u hu => (IH u (zG (zG (k := 17) (x := []) (b := 0) (zk (k := 2) (x := []) (b := 0) hu) (List.mem_singleton.2 rfl : nd 2 [] c ∈ [nd 2 [] c])) (by simp))).2.1 (g u hu)))
   | tryB a x b c h g i => exact vR (yp (by decide)) (blk 2 a (.inl rfl) fun u hu => (IH u (zG (zk (k := 2) (x := []) (b := 0) hu) (by simp))).2.1 (h u hu)) (vk (yp (by decide)) (blk 2 b (.inl rfl) fun u hu => (IH u (zG (zG (k := 16) (x := x) (b := 0) (zk (k := 2) (x := []) (b := 0) hu) (List.mem_singleton.2 rfl : nd 2 [] b ∈ [nd 2 [] b])) (by simp))).2.1 (g u hu))) (vk (yp (by decide)) (blk 2 c (.inl rfl) fun u hu => (IH u (zG (zG (k := 17) (x := []) (b := 0) (zk (k := 2) (x := []) (b := 0) hu) (List.mem_singleton.2 rfl : nd 2 [] c ∈ [nd 2 [] c])) (by simp))).2.1 (i u hu)))
  refine ⟨hE, hS, fun h => ?_⟩;cases h with
  | st _ h => exact hS h
  | named x hx ps bd h => exact fn 18 (.inl rfl) x ps bd fun u hu => (IH u (zG (zk (k := 20) (x := []) (b := 0) hu) (by simp [yJ]))).2.2 (h u hu)
def zkJ (t : Tr) : List UInt8 := yd (gF t)
theorem zgT {E : Int} {l : List Tk} {t : Tr} {R : List Tk} (hl : y9 l) (h : D E .program l (.ok (t, R))) (hd : vQ (tF (nd 1 [] t.kids)) 0) : xe (zkJ (nd 1 [] t.kids)) 0 0 = .ok (jp (gF (nd 1 [] t.kids)) 0) ∧ fs1 (gF (nd 1 [] t.kids)) = tF (nd 1 [] t.kids) := by
 have h1 := zbj (zb0 hl) h;have h2 := zbZ hl h;have q := zcM t.kids h1;have g : GX (nd 1 [] t.kids) := by
  have hk := zba t.kids fun u hu => zb1 u (h2 u hu) ((zc5 _ u (Nat.lt_succ_self _)).2.2 (h1 u hu))
  show Gxs (gF (.node 1 [] 0 t.kids))
  rw [zv];exact za9 (ja (by decide)) (yp (by decide)) hk.1 hk.2.1 hk.2.2
 refine ⟨zdH _ 0 0 (zdl _ g q.ch) ?_, q.fst⟩;have := q.fst;unfold fs1 at this;rw [this]; exact hd
section
def lnK (M : Nat) (x : List UInt8) (b : Int) : Prop := x.length ≤ M ∧ 0 ≤ b ∧ b < 18446744073709551616
mutual
def lnN (M : Nat) : Tr → Prop
 | .node k x b kids => lnK M x b ∧ qw M kids
def qw (M : Nat) : List Tr → Prop
 | [] => True
 | t :: l => lnN M t ∧ qw M l
end
section
variable {M : Nat}
theorem zal : ∀ t : Tr, lnN M t → qw M t.kids
 | .node k x b kids, h => by rw [lnN] at h; exact h.2
theorem zbA : ∀ {l : List Tr}, qw M l → ∀ t ∈ l, lnN M t
 | t :: l, h, u, hu => by
  rw [qw] at h;rcases List.mem_cons.1 hu with rfl | hu
  ·exact h.1
  ·exact zbA h.2 u hu
theorem zeO : ∀ {l m : List Tr}, qw M l → qw M m → qw M (l ++ m)
 | [], m, _, h => h
 | t :: l, m, h, g => by rw [qw] at h; rw [List.cons_append, qw]; exact ⟨h.1, zeO h.2 g⟩
def xg (M : Nat) (R : List Tk) : Prop := ∀ t ∈ R, lnK M t.text t.bits
theorem xg.tail {R : List Tk} (h : xg M R) : xg M R.tail := fun t ht => h t (List.mem_of_mem_tail ht)
def PL (M : Nat) (x : Rs) : Prop := ∀ t R, x = some (.ok (t, R)) → lnN M t ∧ xg M R
variable {E : Int} {x : Rs} {R : List Tk}
theorem hdL (h : xg M R) : lnK M (hd E R).text (hd E R).bits := by
 cases R with
 | nil => exact ⟨Nat.zero_le _, Int.le_refl _, (by show (0 : Int) < 18446744073709551616; decide)⟩
 | cons a q => exact h a (by simp)
theorem fxL (h : xg M R) : (fx (hd E R)).length ≤ M := by
 unfold fx; split
 ·exact (hdL h).1
 ·exact Nat.zero_le _
theorem PL.ret {t : Tr} (h : lnN M t) (hR : xg M R) : PL M (Go.Proofs.YtfcgpphodacdmaaGreatDoor.ret t R) := fun u R' e => by
 unfold Go.Proofs.YtfcgpphodacdmaaGreatDoor.ret at e; injection e with e; injection e with e; injection e with e1 e2; subst e1; subst e2; exact ⟨h, hR⟩
theorem PL.bad : PL M (Go.Proofs.YtfcgpphodacdmaaGreatDoor.bad E R) := fun u R' e => by unfold Go.Proofs.YtfcgpphodacdmaaGreatDoor.bad at e; injection e with e; cases e
theorem PL.bnd {k : Tr → List Tk → Rs} (h : PL M x) (g : ∀ t R, lnN M t → xg M R → PL M (k t R)) : PL M (Go.Proofs.YtfcgpphodacdmaaGreatDoor.bnd x k) := fun u R' e => by
 unfold Go.Proofs.YtfcgpphodacdmaaGreatDoor.bnd at e;cases x with
 | none => cases e
 | some z =>
  rcases z with p | ⟨t, R1⟩
  ·cases e
  ·obtain ⟨h1, h2⟩ := h t R1 rfl;exact g t R1 h1 h2 u R' e
theorem PL.ite {c : Prop} [Decidable c] {y : Rs} (h : c → PL M x) (g : ¬ c → PL M y) : PL M (if c then x else y) := by
 split; exact h ‹_›; exact g ‹_›
theorem PL.need {s : List UInt8} {k : List Tk → Rs} (hR : xg M R) (h : xg M R.tail → PL M (k R.tail)) : PL M (Go.Proofs.YtfcgpphodacdmaaGreatDoor.need E s R k) := by
 unfold Go.Proofs.YtfcgpphodacdmaaGreatDoor.need; split; exact h hR.tail; exact PL.bad
theorem PL.name {k : List UInt8 → List Tk → Rs} (hR : xg M R) (h : ∀ x, x.length ≤ M → xg M R.tail → PL M (k x R.tail)) : PL M (nameK E R k) := by
 unfold nameK; split
 ·exact h _ (hdL hR).1 hR.tail
 ·exact PL.bad
theorem PL.key {k : List UInt8 → List Tk → Rs} (hR : xg M R) (h : ∀ x, x.length ≤ M → xg M R.tail → PL M (k x R.tail)) : PL M (keyK E R k) := by
 unfold keyK; split
 ·exact h _ (hdL hR).1 hR.tail
 ·exact PL.bad
theorem PL.prop {k : List UInt8 → List Tk → Rs} (hM : 30 ≤ M) (hR : xg M R) (h : ∀ x, x.length ≤ M → xg M R.tail → PL M (k x R.tail)) : PL M (propK E R k) := by
 unfold propK; split
 ·exact h _ (hdL hR).1 hR.tail
 ·split
  ·refine h _ ?_ hR.tail;have := zbs (hd E R).bits;have e : (Bt.textI (hd E R).bits).data.toList.length = (Bt.textI (hd E R).bits).size := zL _;omega
  ·exact PL.key hR h
end
def lnP (M : Nat) : NT → Prop
 | .exprMore x | .binMore _ x | .memMore x | .makMore x | .part x | .called x => lnN M x
 | .function k x => x.length ≤ M
 | .row it | .rowMore it | .list _ it | .untl _ it => lnP M it
 | _ => True
theorem zeP {M : Nat} : qw M [] := by rw [qw]; trivial
theorem zcr {M : Nat} {t : Tr} {l : List Tr} (h : lnN M t) (g : qw M l) : qw M (t :: l) := by rw [qw]; exact ⟨h, g⟩
theorem zc7 {M : Nat} {k : Int} {x : List UInt8} {b : Int} {l : List Tr} (h : lnK M x b) (g : qw M l) : lnN M (.node k x b l) := by rw [lnN]; exact ⟨h, g⟩
theorem zc8 {M : Nat} : lnK M [] 0 := ⟨Nat.zero_le _, Int.le_refl _, by decide⟩
theorem zg7 {M : Nat} {x : List UInt8} (h : x.length ≤ M) : lnK M x 0 := ⟨h, Int.le_refl _, by decide⟩
theorem zp9 {M : Nat} {x : List UInt8} (h : x.length ≤ M) : lnK M x 1 := ⟨h, by decide, by decide⟩
section
variable {M : Nat} {E : Int} {rec : NT → List Tk → Rs}
theorem zmi (hM : 30 ≤ M) (H : ∀ nt R, xg M R → lnP M nt → PL M (rec nt R)) (nt : NT) (R : List Tk) (hR : xg M R) (hp : lnP M nt) : PL M (zg E rec nt R) := by
  cases nt
  case program =>
    cases R with
    | nil => exact PL.ret (zc7 zc8 zeP) hR
    | cons a q =>
      show PL M (bnd (rec .element (a :: q)) fun x R1 => bnd (rec .program R1) fun l R2 => ret (bag (x :: l.kids)) R2)
      exact PL.bnd (H _ _ hR trivial) fun t R1 h hR1 => PL.bnd (H _ _ hR1 trivial) fun l R2 hl hR2 => PL.ret (zc7 zc8 (zcr h (zal _ hl))) hR2
  all_goals
    simp only [zg]
    repeat' (first
      | exact PL.bad
      | exact H _ _ (by first | assumption | exact xg.tail (by assumption)) (by first | trivial | assumption)
      | refine PL.bnd (H _ _ (by first | assumption | exact xg.tail (by assumption)) (by first | trivial | assumption)) fun _ _ _ _ => ?_
      | refine PL.need (by first | assumption | exact xg.tail (by assumption)) fun _ => ?_
      | refine PL.name (by first | assumption | exact xg.tail (by assumption)) fun _ _ _ => ?_
      | refine PL.key (by first | assumption | exact xg.tail (by assumption)) fun _ _ _ => ?_
      | refine PL.prop hM (by first | assumption | exact xg.tail (by assumption)) fun _ _ _ => ?_
      | refine PL.ret ?_ (by first | assumption | exact xg.tail (by assumption))
      | refine PL.ite (fun _ => ?_) (fun _ => ?_))
  all_goals first
    | refine H _ _ (by first | assumption | exact xg.tail (by assumption) | exact xg.tail (xg.tail (by assumption))) ?_
    | skip
  all_goals repeat' (first
    | assumption
    | exact zeP
    | exact Nat.zero_le _
    | refine zc7 ?_ ?_
    | refine zcr ?_ ?_
    | exact zal _ (by assumption)
    | refine zeO ?_ ?_
    | exact hdL (by assumption)
    | exact zc8
    | exact zg7 (by assumption)
    | exact zg7 (hdL (by assumption)).1
    | exact zp9 (hdL (by assumption)).1
    | exact zg7 (fxL (by assumption)))
end
theorem znJ {M : Nat} (hM : 30 ≤ M) (E : Int) : ∀ (n : Nat) (nt : NT) (R : List Tk), xg M R → lnP M nt → PL M (Q E n nt R)
 | 0, _, _, _, _ => fun t R e => by cases e
 | n + 1, nt, R, hR, hp => zmi hM (znJ hM E n) nt R hR hp
theorem zmj {M : Nat} (hM : 30 ≤ M) {E : Int} {l : List Tk} {t : Tr} {R : List Tk} (hl : xg M l) (h : D E .program l (.ok (t, R))) : ∀ u ∈ t.kids, lnN M u := by
 obtain ⟨n, h⟩ := h;exact zbA (zal _ ((znJ hM E n .program l hl trivial) t R (h n (zd _))).1)
mutual
theorem ziE {M : Nat} : ∀ t : Tr, lnN M t → ∀ l ∈ zp t, lnK M l.text l.bits
 | .node k x b kids, h, l, hl => by
  rw [lnN] at h;rw [zp] at hl;rcases List.mem_cons.1 hl with rfl | hl
  ·exact h.1
  ·exact zfW kids h.2 l hl
theorem zfW {M : Nat} : ∀ ts : List Tr, qw M ts → ∀ l ∈ zs ts, lnK M l.text l.bits
 | [], _, l, hl => by simp [zs] at hl
 | t :: r, h, l, hl => by
  rw [qw] at h;rw [zs] at hl;rcases List.mem_append.1 hl with hl | hl
  ·exact ziE t h.1 l hl
  ·exact zfW r h.2 l hl
end
end
def dep (l : List Tk) (op : Int) : Int := l.foldl (fun o t => opA t o) op
def brk (s : List UInt8) : Bool := yR s || qh s
def Wrd (R : List Tk) : Prop := ∀ t ∈ R, t.kind = 2 → brk t.text = false
def Sb (a b : Int) (R R' : List Tk) : Prop := Wrd R' ∧ ∀ op : Int, 0 ≤ op → dep R (op + a) = dep R' (op + b)
def clo : NT → Int
 | .untl _ _ | .list _ _ => 1
 | .optional s => if qh s then 1 else 0
 | _ => 0
def zkN : NT → Bool
 | .leave _ => false
 | _ => true
def okB : NT → List Tk → Prop
 | .untl s it, _ | .list s it, _ => qh s = true ∧ vp it = true ∧ zkN it = true
 | .row it, _ | .rowMore it, _ => vp it = true ∧ zkN it = true
 | .optional s, _ => s = [59] ∨ s = [41]
 | .binary l, _ | .binMore l _, _ => 1 ≤ l
 | .leave _, R => ∃ t l, R = t :: l ∧ brk t.text = false
 | _, _ => True
def zrR (rec : NT → List Tk → Rs) : Prop := ∀ nt R, okB nt R → W (rec nt R) fun _ R1 => Wrd R → Sb (clo nt) 0 R R1
def V (a b : Int) (R0 R : List Tk) (x : Rs) : Prop := Sb a b R0 R → W x fun _ R1 => Sb a 0 R0 R1
def znL : NT → Bool
 | .element | .statement | .block | .ifElse | .whileDo | .doWhile | .forLoop | .forStart | .giveBack | .throwIt | .tryIt | .catchIt | .function _ _ | .leave _ | .list _ _ | .untl _ _ | .optional _ | .bracketed | .called _ | .part _ | .param | .primary | .fixedPrimary => true
 | _ => false
def okE : NT → Prop
 | .untl s it | .list s it => s ≠ [] ∧ vp it = true
 | .row it | .rowMore it => vp it = true
 | .optional s => s ≠ []
 | .binary l | .binMore l _ => 1 ≤ l
 | .program => False
 | _ => True
def zrq (s : Bool) (x : Rs) : Prop := W x fun _ Y => Y = [] ∧ s = false
def zrG (f : NT → List Tk → Rs) : Prop := ∀ nt, okE nt → zrq (znL nt) (f nt [])
def Ex (R0 : List Tk) (s : Bool) (x y : Rs) : Prop := W x fun t Y => (Y ≠ [] ∨ s = true) → y = some (.ok (t, Y ++ R0))
def ExN (R0 : List Tk) (f g : NT → List Tk → Rs) : Prop := ∀ nt R, okE nt → Ex R0 (znL nt) (f nt R) (g nt (R ++ R0))
def zrS (E' : Int) (R0 : List Tk) : Prop := isF E' [101, 108, 115, 101] R0 = false ∧ isF E' [99, 97, 116, 99, 104] R0 = false ∧ isF E' [102, 105, 110, 97, 108, 108, 121] R0 = false
end Go.Proofs.YtfcgpphodacdmaaGreatDoor
