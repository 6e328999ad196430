/- Part of a proof: contracts of functions. -/
import Derived.Test.YtfcgpphodacdmaaGreatDoorY29
import Derived.Test.YtfcgpphodacdmaaGreatDoorY16
set_option maxRecDepth 100000
set_option maxHeartbeats 4000000
set_option linter.all false
namespace Go.Proofs.YtfcgpphodacdmaaGreatDoor
section
section
variable {E : Int}
theorem vc {a : Tr} (h : XP E a) {Y : Tr} {Z : List Tk → List Tk} (e : ∀ R, tF Y ++ R = pT a ++ Z R) : ∀ q, shq q → ∀ R, isF E q (tF Y ++ R) = false := fun q hq R => by
 rw [e]; exact h.np q hq _
theorem zk3 {t : Tr} (ht : ExF t) (IH : ∀ u, (zp u).length < (zp t).length → (ExF u → XP E u) ∧ (El u → Elp E u)) : XP E t := by
 cases ht with
 | num b =>
  have hF : tF (.node 21 [] b []) = [nuT b] := by rw [zA]; rfl
  exact XP.leaf rfl (zds (k := nuT b) rfl hF (.inr (.inl ⟨rfl, rfl⟩))) fun q hq Y => by rw [hF]; rcases hq with rfl | rfl | rfl | rfl <;> rfl
 | tok k x hk =>
  rcases hk with rfl | rfl
  ·have hF : tF (nd 22 x []) = [txT x] := by rw [nd, zA]; rfl
   exact XP.leaf rfl (zds (k := txT x) rfl hF (.inr (.inr ⟨rfl, rfl⟩))) fun q hq Y => by rw [hF]; rcases hq with rfl | rfl | rfl | rfl <;> rfl
  ·have hF : tF (nd 27 x []) = [nmT x] := by rw [nd, zA]; rfl
   exact XP.leaf rfl (zds (k := nmT x) rfl hF (.inl ⟨rfl, rfl⟩)) fun q hq Y => by rw [hF]; rcases hq with rfl | rfl | rfl | rfl <;> rfl
 | wrd k hk =>
  obtain ⟨w, hF, hw⟩ : ∃ w, tF (nd k [] []) = [wd w] ∧ ((k = 23 ∧ w = [116, 114, 117, 101]) ∨ (k = 24 ∧ w = [102, 97, 108, 115, 101]) ∨ (k = 25 ∧ w = [110, 117, 108, 108]) ∨ (k = 26 ∧ w = [116, 104, 105, 115])) := by
   rcases hk with rfl | rfl | rfl | rfl
   ·exact ⟨_, by rw [nd, zA]; rfl, .inl ⟨rfl, rfl⟩⟩
   ·exact ⟨_, by rw [nd, zA]; rfl, .inr (.inl ⟨rfl, rfl⟩)⟩
   ·exact ⟨_, by rw [nd, zA]; rfl, .inr (.inr (.inl ⟨rfl, rfl⟩))⟩
   ·exact ⟨_, by rw [nd, zA]; rfl, .inr (.inr (.inr ⟨rfl, rfl⟩))⟩
  have hl : yP (nd k [] []) = true := by simp [yP, nd, Tr.kids]
  have e : ∀ R, pT (nd k [] []) ++ R = wd w :: R := fun R => by rw [uI hl, hF]; rfl
  refine XP.leaf hl ⟨fun R => ?_, fun R => ?_⟩ fun q hq Y => ?_
  ·rw [e];have f : ∀ q : List UInt8, isF E q (wd w :: R) = (w == q) := fun q => rfl
   have h1 : D E .fixedPrimary (wd w :: R) (.ok (nd k [] [], R)) := D.mk0 fun m => by
    rcases hw with ⟨rfl, rfl⟩ | ⟨rfl, rfl⟩ | ⟨rfl, rfl⟩ | ⟨rfl, rfl⟩ <;> (simp only [zg, f]; rfl)
   exact D.mk1 h1 fun m h0 => by
    have kk : (hd E (wd w :: R)).kind = 2 := rfl;simp only [zg, kk]; exact h0
  ·rw [e]; rcases hw with ⟨rfl, rfl⟩ | ⟨rfl, rfl⟩ | ⟨rfl, rfl⟩ | ⟨rfl, rfl⟩ <;> exact ⟨rfl, rfl, rfl⟩
  ·rw [hF]; rcases hw with ⟨rfl, rfl⟩ | ⟨rfl, rfl⟩ | ⟨rfl, rfl⟩ | ⟨rfl, rfl⟩ <;> rcases hq with rfl | rfl | rfl | rfl <;> rfl
 | arr l h =>
  have hk : ∀ u ∈ l, XP E u := fun u hu => (IH u (zk hu)).1 (h u hu)
  have e : ∀ R, tF (nd 28 [] l) ++ R = sg [91] :: (zC (l.map pT) ++ sg [93] :: R) := fun R => by rw [nd, zA, yi, zg5]; simp
  exact XP.leaf (by simp [yP, nd, Tr.kind, Tr.kids]) (znI (fun u hu => (hk u hu).nsh) fun u hu => (hk u hu).pr) fun q hq Y => by rw [e]; rcases hq with rfl | rfl | rfl | rfl <;> rfl
 | obj l h =>
  have hk : ∀ p ∈ l, XP E p.2 := fun p hp => (IH p.2 (Nat.lt_trans (zk (k := 30) (x := p.1) (b := 0) (kids := [p.2]) (by simp)) (zk (List.mem_map_of_mem (f := fun p : List UInt8 × Tr => nd 30 p.1 [p.2]) hp)))).1 (h p hp)
  have e : ∀ R, tF (nd 29 [] (l.map fun p => nd 30 p.1 [p.2])) ++ R = sg [123] :: (zC ((l.map fun p => nd 30 p.1 [p.2]).map tF) ++ sg [125] :: R) := fun R => by rw [nd, zA, yv, zgl]; simp
  exact XP.leaf (by simp [yP, nd, Tr.kind, Tr.kids]) (zmI fun p hp => (hk p hp).pr) fun q hq Y => by rw [e]; rcases hq with rfl | rfl | rfl | rfl <;> rfl
 | fn x ps bd h =>
  have hk : ∀ u ∈ bd, Elp E u := fun u hu => (IH u (Nat.lt_trans (zk (k := 20) (x := []) (b := 0) (kids := bd) hu) (zk (by simp [yJ])))).2 (h u hu)
  exact XP.leaf (by simp [yP, nd, Tr.kind, Tr.kids]) (zlt x ps hk) fun q hq Y => by rw [uV 31 (.inr rfl)]; rcases hq with rfl | rfl | rfl | rfl <;> rfl
 | dot x a h =>
  have h1 := (IH a (zk (by simp))).1 h;exact XP.non rfl (zm6 h1.pr x).ep (vc h1 (zdT x a))
 | idx a c h g =>
  have h1 := (IH a (zk (by simp))).1 h;have h2 := (IH c (zk (by simp))).1 g;exact XP.non rfl (zm7 h1.pr h2.ep).ep (vc h1 (zdU a c))
 | call a l h g =>
  have h1 := (IH a (zk (by simp))).1 h;have h2 : ∀ u ∈ l, XP E u := fun u hu => (IH u (zk (by simp [hu]))).1 (g u hu)
  exact XP.non rfl (zmc h1.pr (fun u hu => (h2 u hu).nsh) fun u hu => (h2 u hu).pr).ep (vc h1 (zcp a l))
 | new a l h g =>
  have h1 := (IH a (zk (by simp))).1 h;have h2 : ∀ u ∈ l, XP E u := fun u hu => (IH u (zk (by simp [hu]))).1 (g u hu)
  exact XP.non rfl (znG h1.pr (fun u hu => (h2 u hu).nsh) fun u hu => (h2 u hu).pr).ep fun q hq Y => by rw [zeG]; rcases hq with rfl | rfl | rfl | rfl <;> rfl
 | una p a hp h =>
  have h1 := (IH a (zk (by simp))).1 h;exact XP.non rfl (znH hp h1.pr).ep fun q hq Y => by rw [zeH]; exact zom hq (zmS hp hq) _
 | upd b p a hb hp ht h =>
  have h1 := (IH a (zk (by simp))).1 h;rcases hb with rfl | rfl
  ·have hpp : p = [43, 43] ∨ p = [45, 45] := by simpa [yG] using hp
   have e : ∀ R, tF (.node 37 p 0 [a]) ++ R = sg p :: (pT a ++ R) := fun R => by rw [zA, yi, zeI]; simp
   exact XP.non rfl (zme hp ht h1.pr).ep fun q hq Y => by rw [e]; rcases hpp with rfl | rfl <;> rcases hq with rfl | rfl | rfl | rfl <;> rfl
  ·have e : ∀ R, tF (.node 37 p 1 [a]) ++ R = pT a ++ sg p :: R := fun R => by rw [zA, yi, zeJ]; simp
   exact XP.non rfl (zmf hp ht h1.pr).ep (vc h1 e)
 | bin k p a c hk hp h g =>
  have h1 := (IH a (zk (by simp))).1 h;have h2 := (IH c (zk (by simp))).1 g;have hk2 : k = 38 ∨ k = 39 ∨ k = 41 := by rw [hk]; split <;> simp
  exact XP.non (by rcases hk2 with rfl | rfl | rfl <;> rfl) (zmF hk hp h1.pr h2.pr) (vc h1 (zar k hk2 p a c))
 | cnd a c d h g i =>
  have h1 := (IH a (zk (by simp))).1 h;have h2 := (IH c (zk (by simp))).1 g;have h3 := (IH d (zk (by simp))).1 i;exact XP.non rfl (zk0 h1.pr h2.pr h3.pr) (vc h1 (zb6 a c d))
 | asg p a c hp ht h g =>
  have h1 := (IH a (zk (by simp))).1 h;have h2 := (IH c (zk (by simp))).1 g;exact XP.non rfl (zmG hp ht h1.pr h2.pr) (vc h1 (zar 41 (.inr (.inr rfl)) p a c))
 | com a c h g =>
  have h1 := (IH a (zk (by simp))).1 h;have h2 := (IH c (zk (by simp))).1 g;have e : ∀ R, tF (nd 42 [] [a, c]) ++ R = pT a ++ sg [44] :: (pT c ++ R) := fun R => by
   rw [nd, zA, yi, List.map_cons, List.map_cons, List.map_nil, zfj]; simp
  exact XP.non rfl (zi7 h1.pr h2.pr) (vc h1 e)
theorem zG {t u : Tr} {k : Int} {x : List UInt8} {b : Int} {kids : List Tr} (h : (zp t).length < (zp u).length) (hu : u ∈ kids) : (zp t).length < (zp (.node k x b kids)).length := Nat.lt_trans h (zk hu)
theorem zk4 {t : Tr} (ht : Sm t) (IH : ∀ u, (zp u).length < (zp t).length → (ExF u → XP E u) ∧ (Sm u → Sp E u)) : Sp E t := by
 have pk : ∀ {c : List Tr} {K : List Tr}, qe c ∈ K → (∀ a ∈ c, ExF a) → (∀ u, (zp u).length < (zp (nd 10 [] K)).length → (ExF u → XP E u) ∧ (Sm u → Sp E u)) → Fp E (qe c) := fun {c K} hc h IH => by
  match c, hc, h with
  | [], _, _ => exact .inl rfl
  | [a], hc, h => exact zmT (c := [a]) (fun u hu => by rw [List.mem_singleton] at hu; subst hu; exact (IH u (zk hc)).1 (h u (by simp))) fun u hu => zk6 (h u hu)
  | a :: b :: l, _, _ => exact .inl rfl
 cases ht with
 | blk l h => exact zm5 fun u hu => (IH u (zk hu)).2 (h u hu)
 | var p l hl h =>
  have : ∀ u ∈ (p :: l).map yF, Dp E u := fun u hu => by
   obtain ⟨v, hv, rfl⟩ := List.mem_map.1 hu;exact zhF (hl v hv) fun a ha => (IH a (zG (zk (k := 4) (x := v.1) (b := 0) ha) (List.mem_map_of_mem (f := yF) hv))).1 (h v hv a ha)
  exact zpN this
 | emp => exact zlk
 | exp a h => exact zll ((IH a (zk (by simp))).1 h).ep
 | if2 a s h g => exact zpI ((IH a (zk (by simp))).1 h).ep ((IH s (zk (by simp))).2 g)
 | if3 a s u h g hs i => exact zpJ ((IH a (zk (by simp))).1 h).ep ((IH s (zk (by simp))).2 g) hs ((IH u (zk (by simp))).2 i)
 | whl a s h g => exact zlm ((IH a (zk (by simp))).1 h).ep ((IH s (zk (by simp))).2 g)
 | doW s a g h => exact zrh ((IH s (zk (by simp))).2 g) ((IH a (zk (by simp))).1 h).ep
 | forV p l hl h c d hc hd s g =>
  have : ∀ u ∈ (p :: l).map yF, Dp E u := fun u hu => by
   obtain ⟨v, hv, rfl⟩ := List.mem_map.1 hu;exact zhF (hl v hv) fun a ha => (IH a (zG (zG (k := 3) (x := []) (b := 0) (zk (k := 4) (x := v.1) (b := 0) ha) (List.mem_map_of_mem (f := yF) hv)) (by simp))).1 (h v hv a ha)
  exact zgy (zm8 this) (pk (by simp) hc IH) (pk (by simp) hd IH) ((IH s (zk (by simp))).2 g)
 | forE a h c d hc hd s g => exact zgy (zlr ((IH a (zG (zk (k := 6) (x := []) (b := 0) (kids := [a]) (by simp)) (by simp))).1 h).ep) (pk (by simp) hc IH) (pk (by simp) hd IH) ((IH s (zk (by simp))).2 g)
 | forN c d hc hd s g => exact zgy zjz (pk (by simp) hc IH) (pk (by simp) hd IH) ((IH s (zk (by simp))).2 g)
 | brk => exact zjx
 | con => exact zjy
 | ret0 => exact zhV
 | ret1 a h =>
  have h1 := (IH a (zk (by simp))).1 h;exact zhW h1.pr fun Y => h1.np [59] (by simp [shq]) Y
 | thr a h => exact zln ((IH a (zk (by simp))).1 h).pr
 | tryC a x b h g =>
  exact zna x (fun R => uq (fun u hu => (IH u (zG (zk (k := 2) (x := []) (b := 0) hu) (by simp))).2 (h u hu)) R) fun R => uq (fun u hu => (IH u (zG (zG (k := 16) (x := x) (b := 0) (zk (k := 2) (x := []) (b := 0) hu) (List.mem_singleton.2 rfl : nd 2 [] b ∈ [nd 2 [] b])) (by simp))).2 (g u hu)) R
 | tryF a c h g =>
  exact zm9 (fun R => uq (fun u hu => (IH u (zG (zk (k := 2) (x := []) (b := 0) hu) (by simp))).2 (h u hu)) R) fun R => uq (fun u hu => (IH u (zG (zG (k := 17) (x := []) (b := 0) (zk (k := 2) (x := []) (b := 0) hu) (List.mem_singleton.2 rfl : nd 2 [] c ∈ [nd 2 [] c])) (by simp))).2 (g u hu)) R
 | tryB a x b c h g i =>
  exact zls x (fun R => uq (fun u hu => (IH u (zG (zk (k := 2) (x := []) (b := 0) hu) (by simp))).2 (h u hu)) R) (fun R => uq (fun u hu => (IH u (zG (zG (k := 16) (x := x) (b := 0) (zk (k := 2) (x := []) (b := 0) hu) (List.mem_singleton.2 rfl : nd 2 [] b ∈ [nd 2 [] b])) (by simp))).2 (g u hu)) R) fun R => uq (fun u hu => (IH u (zG (zG (k := 17) (x := []) (b := 0) (zk (k := 2) (x := []) (b := 0) hu) (List.mem_singleton.2 rfl : nd 2 [] c ∈ [nd 2 [] c])) (by simp))).2 (i u hu)) R
theorem zhx : ∀ (n : Nat) (t : Tr), (zp t).length < n → (ExF t → XP E t) ∧ (Sm t → Sp E t) ∧ (El t → Elp E t)
 | 0, _, h => absurd h (Nat.not_lt_zero _)
 | n + 1, t, hn => by
  have IH : ∀ u, (zp u).length < (zp t).length → (ExF u → XP E u) ∧ (Sm u → Sp E u) ∧ (El u → Elp E u) := fun u hu => zhx n u (by omega)
  have hs : Sm t → Sp E t := fun h => zk4 h fun u hu => ⟨(IH u hu).1, (IH u hu).2.1⟩
  refine ⟨fun h => zk3 h fun u hu => ⟨(IH u hu).1, (IH u hu).2.2⟩, hs, fun h => ?_⟩;cases h with
  | st _ h => exact zpO (hs h)
  | named x hx ps bd h => exact zjB hx ps fun u hu => (IH u (zG (zk (k := 20) (x := []) (b := 0) hu) (by simp [yJ]))).2.2 (h u hu)
theorem zhy (l : List Tr) (h : ∀ t ∈ l, El t) : D E .program (tF (nd 1 [] l)) (.ok (bag l, [])) := by
 have e : tF (nd 1 [] l) = (l.map tF).flatten := by rw [nd, zA, yv]; rfl
 rw [e];exact zfA l fun t ht => (zhx _ t (Nat.lt_succ_self _)).2.2 (h t ht)
end
end
section
def xQ (R : List Tk) : Prop := ∀ t ∈ R, (t.kind ≠ 3 → t.bits = 0) ∧ (t.kind = 3 → t.text = []) ∧ (t.kind = 1 → t.text ≠ [])
theorem xQ.tail {R : List Tk} (h : xQ R) : xQ R.tail := fun t ht => h t (List.mem_of_mem_tail ht)
theorem xQ.hd {R : List Tk} (h : xQ R) (E : Int) : ((hd E R).kind ≠ 3 → (hd E R).bits = 0) ∧ ((hd E R).kind = 3 → (hd E R).text = []) ∧ ((hd E R).kind = 1 → (hd E R).text ≠ []) := by
 cases R with
 | nil => exact ⟨fun _ => rfl, fun h => absurd h (by show ¬ (0 : Int) = 3; decide), fun h => absurd h (by show ¬ (0 : Int) = 1; decide)⟩
 | cons a q => exact h a (by simp)
def Pq (x : Rs) (K : Tr → List Tk → Prop) : Prop := ∀ t R, x = some (.ok (t, R)) → K t R ∧ xQ R
section
variable {E : Int} {K L : Tr → List Tk → Prop} {x : Rs} {R : List Tk}
theorem Pq.ret {t : Tr} (h : K t R) (hR : xQ R) : Pq (Go.Proofs.YtfcgpphodacdmaaGreatDoor.ret t R) K := fun u R' e => by
 unfold Go.Proofs.YtfcgpphodacdmaaGreatDoor.ret at e; injection e with e; injection e with e; injection e with e1 e2; subst e1; subst e2; exact ⟨h, hR⟩
theorem Pq.bad : Pq (Go.Proofs.YtfcgpphodacdmaaGreatDoor.bad E R) K := fun u R' e => by unfold Go.Proofs.YtfcgpphodacdmaaGreatDoor.bad at e; injection e with e; cases e
theorem Pq.bnd {k : Tr → List Tk → Rs} (h : Pq x L) (g : ∀ t R, L t R → xQ R → Pq (k t R) K) : Pq (Go.Proofs.YtfcgpphodacdmaaGreatDoor.bnd x k) K := fun u R' e => by
 unfold Go.Proofs.YtfcgpphodacdmaaGreatDoor.bnd at e;cases x with
 | none => cases e
 | some z =>
  rcases z with p | ⟨t, R1⟩
  ·cases e
  ·obtain ⟨h1, h2⟩ := h t R1 rfl;exact g t R1 h1 h2 u R' e
theorem Pq.imp (h : Pq x L) (g : ∀ t R, L t R → K t R) : Pq x K := fun t R e => ⟨g t R (h t R e).1, (h t R e).2⟩
theorem Pq.ite {c : Prop} [Decidable c] {y : Rs} (h : c → Pq x K) (g : ¬ c → Pq y K) : Pq (if c then x else y) K := by
 split; exact h ‹_›; exact g ‹_›
theorem Pq.need {s : List UInt8} {k : List Tk → Rs} (hR : xQ R) (h : xQ R.tail → Pq (k R.tail) K) : Pq (Go.Proofs.YtfcgpphodacdmaaGreatDoor.need E s R k) K := by
 unfold Go.Proofs.YtfcgpphodacdmaaGreatDoor.need; split; exact h hR.tail; exact Pq.bad
theorem Pq.name {k : List UInt8 → List Tk → Rs} (hR : xQ R) (h : ∀ x, x ≠ [] → xQ R.tail → Pq (k x R.tail) K) : Pq (nameK E R k) K := by
 unfold nameK; split
 ·exact h _ ((hR.hd E).2.2 ‹_›) hR.tail
 ·exact Pq.bad
theorem Pq.key {k : List UInt8 → List Tk → Rs} (hR : xQ R) (h : ∀ x, xQ R.tail → Pq (k x R.tail) K) : Pq (keyK E R k) K := by
 unfold keyK; split; exact h _ hR.tail; exact Pq.bad
theorem Pq.prop {k : List UInt8 → List Tk → Rs} (hR : xQ R) (h : ∀ x, xQ R.tail → Pq (k x R.tail) K) : Pq (propK E R k) K := by
 unfold propK; split; exact h _ hR.tail; split; exact h _ hR.tail; exact Pq.key hR h
end
def zm0 (E : Int) (t : Tr) (R : List Tk) : Prop := yA t = true → isF E els R = false
def zgw (p : List UInt8 × List Tr) : Prop := p.2.length ≤ 1 ∧ ∀ a ∈ p.2, ExF a
def clI : NT → Tr → Prop
 | .decl, u => ∃ p, u = yF p ∧ zgw p
 | .assign, u => ExF u
 | .param, u => ∃ x, u = nd 19 x []
 | .prop, u => ∃ p : List UInt8 × Tr, u = nd 30 p.1 [p.2] ∧ ExF p.2
 | .statement, u => Sm u
 | .element, u => El u
 | _, _ => False
def zkx (t : Tr) : Prop := ∃ p l, t = nd 3 [] ((p :: l).map yF) ∧ ∀ u ∈ p :: l, zgw u
def clM (E : Int) : NT → Tr → List Tk → Prop
 | .element, t, R => El t ∧ zm0 E t R
 | .statement, t, R | .ifElse, t, R | .whileDo, t, R | .forLoop, t, R | .doWhile, t, R | .giveBack, t, R | .throwIt, t, R | .leave _, t, R | .tryIt, t, R => Sm t ∧ zm0 E t R
 | .block, t, _ => ∃ l, t = nd 2 [] l ∧ ∀ u ∈ l, Sm u
 | .vars, t, _ => zkx t
 | .decl, t, _ => clI .decl t
 | .param, t, _ => clI .param t
 | .prop, t, _ => clI .prop t
 | .row it, t, _ => t.kids ≠ [] ∧ ∀ u ∈ t.kids, clI it u
 | .rowMore it, t, _ | .list _ it, t, _ | .untl _ it, t, _ => ∀ u ∈ t.kids, clI it u
 | .called x, t, _ => ∃ l, t.kids = x :: l ∧ ∀ u ∈ l, ExF u
 | .function kind x, t, _ => ∃ ps bd, t = nd kind x (yJ ps bd) ∧ ∀ u ∈ bd, El u
 | .optional _, t, _ => ∃ c, t = qe c ∧ ∀ a ∈ c, ExF a
 | .forStart, t, _ => zkx t ∨ (∃ a, t = nd 6 [] [a] ∧ ExF a) ∨ t = nd 5 [] []
 | .catchIt, t, _ => ∃ x b, t = nd 16 x [nd 2 [] b] ∧ ∀ u ∈ b, Sm u
 | .program, t, _ => ∀ u ∈ t.kids, El u
 | _, t, _ => ExF t
def prM : NT → Prop
 | .exprMore x | .memMore x | .makMore x | .part x | .called x => ExF x
 | .binary l => 1 ≤ l
 | .binMore l x => 1 ≤ l ∧ ExF x
 | .row it | .rowMore it => it = .decl ∨ it = .assign ∨ it = .param ∨ it = .prop
 | .list _ it => it = .assign ∨ it = .param ∨ it = .prop
 | .untl _ it => it = .statement ∨ it = .element
 | .leave k => k = 11 ∨ k = 12
 | _ => True
theorem zfv : ∀ l : List Tr, (∀ u ∈ l, clI .decl u) → ∃ ps : List (List UInt8 × List Tr), l = ps.map yF ∧ ∀ p ∈ ps, zgw p
 | [], _ => ⟨[], rfl, fun p hp => by cases hp⟩
 | u :: l, h => by
  obtain ⟨p, rfl, hp⟩ := h u (by simp);obtain ⟨ps, rfl, hps⟩ := zfv l fun v hv => h v (by simp [hv])
  exact ⟨p :: ps, rfl, fun q hq => by rcases List.mem_cons.1 hq with rfl | hq; exact hp; exact hps q hq⟩
theorem zfw : ∀ l : List Tr, (∀ u ∈ l, clI .param u) → ∃ ps : List (List UInt8), l = ps.map fun p => nd 19 p []
 | [], _ => ⟨[], rfl⟩
 | u :: l, h => by
  obtain ⟨p, rfl⟩ := h u (by simp);obtain ⟨ps, rfl⟩ := zfw l fun v hv => h v (by simp [hv])
  exact ⟨p :: ps, rfl⟩
theorem zdN : ∀ l : List Tr, (∀ u ∈ l, clI .prop u) → ∃ ps : List (List UInt8 × Tr), l = (ps.map fun p => nd 30 p.1 [p.2]) ∧ ∀ p ∈ ps, ExF p.2
 | [], _ => ⟨[], rfl, fun p hp => by cases hp⟩
 | u :: l, h => by
  obtain ⟨p, rfl, hp⟩ := h u (by simp);obtain ⟨ps, rfl, hps⟩ := zdN l fun v hv => h v (by simp [hv])
  exact ⟨p :: ps, rfl, fun q hq => by rcases List.mem_cons.1 hq with rfl | hq; exact hp; exact hps q hq⟩
section
variable {E : Int} {rec : NT → List Tk → Rs}
theorem zhR {it : NT} (h : it = .decl ∨ it = .assign ∨ it = .param ∨ it = .prop) (H : ∀ nt R, xQ R → prM nt → Pq (rec nt R) (clM E nt)) (R : List Tk) (hR : xQ R) : Pq (rec it R) fun t _ => clI it t := by
 rcases h with rfl | rfl | rfl | rfl
 ·exact (H .decl R hR trivial).imp fun t R h => h
 ·exact (H .assign R hR trivial).imp fun t R h => h
 ·exact (H .param R hR trivial).imp fun t R h => h
 ·exact (H .prop R hR trivial).imp fun t R h => h
theorem zjv (H : ∀ nt R, xQ R → prM nt → Pq (rec nt R) (clM E nt)) (nt : NT) (R : List Tk) (hR : xQ R) (hp : prM nt) : Pq (zg E rec nt R) (clM E nt) := by
 cases nt with
 | element =>
  simp only [zg];refine Pq.ite (fun h1 => Pq.name hR.tail fun x hx hR1 => ?_) fun h1 => (H .statement R hR trivial).imp fun t R' h => ⟨.st t h.1, h.2⟩
  exact (H (.function 18 x) _ hR1 trivial).imp fun t R' ⟨ps, bd, e, h⟩ => by subst e; exact ⟨.named x hx ps bd h, fun h => by simp [yA, nd] at h⟩
 | statement =>
  simp only [zg];refine Pq.ite (fun _ => (H .block R hR trivial).imp fun t R' ⟨l, e, h⟩ => by subst e; exact ⟨.blk l h, fun h => by simp [yA, nd] at h⟩) fun _ => Pq.ite (fun _ => Pq.bnd (H .vars R hR trivial) fun t R' ⟨p, l, e, h⟩ hR1 => Pq.need hR1 fun hR2 => Pq.ret (by subst e; exact ⟨.var p l (fun u hu => (h u hu).1) (fun u hu => (h u hu).2), fun h => by simp [yA, nd] at h⟩) hR2) fun _ => Pq.ite (fun _ => Pq.need hR fun hR2 => Pq.ret ⟨.emp, fun h => by simp [yA, nd, qy] at h⟩ hR2) fun _ => Pq.ite (fun _ => H .ifElse R hR trivial) fun _ => Pq.ite (fun _ => H .whileDo R hR trivial) fun _ => Pq.ite (fun _ => H .doWhile R hR trivial) fun _ => Pq.ite (fun _ => H .forLoop R hR trivial) fun _ => Pq.ite (fun _ => H (.leave 11) R hR (.inl rfl)) fun _ => Pq.ite (fun _ => H (.leave 12) R hR (.inr rfl)) fun _ => Pq.ite (fun _ => H .giveBack R hR trivial) fun _ => Pq.ite (fun _ => H .throwIt R hR trivial) fun _ => Pq.ite (fun _ => H .tryIt R hR trivial) fun _ => Pq.ite (fun _ => Pq.bad) fun _ => ?_
  exact Pq.bnd (H .expr R hR trivial) fun t R' h hR1 => Pq.need hR1 fun hR2 => Pq.ret ⟨.exp t h, fun h => by simp [yA, nd] at h⟩ hR2
 | block =>
  simp only [zg];exact Pq.need hR fun hR1 => Pq.bnd (H (.untl [125] .statement) _ hR1 (.inl rfl)) fun t R' h hR2 => Pq.ret ⟨t.kids, rfl, h⟩ hR2
 | vars =>
  simp only [zg];refine Pq.need hR fun hR1 => Pq.bnd (H (.row .decl) _ hR1 (.inl rfl)) fun t R' h hR2 => Pq.ret ?_ hR2
  obtain ⟨ps, e, hps⟩ := zfv t.kids h.2;cases ps with
  | nil => exact absurd e h.1
  | cons p l => exact ⟨p, l, by rw [e], hps⟩
 | decl =>
  simp only [zg];refine Pq.name hR fun x hx hR1 => Pq.ite (fun _ => Pq.bnd (H .assign _ hR1.tail trivial) fun t R' h hR2 => Pq.ret ⟨(x, [t]), rfl, zd _, fun a ha => by rw [List.mem_singleton] at ha; subst ha; exact h⟩ hR2) fun _ => Pq.ret ⟨(x, []), rfl, Nat.zero_le _, fun a ha => by cases ha⟩ hR1
 | ifElse =>
  simp only [zg];refine Pq.need hR fun hR1 => Pq.bnd (H .bracketed _ hR1 trivial) fun a R2 ha hR2 => Pq.bnd (H .statement _ hR2 trivial) fun s R3 hs hR3 => ?_
  by_cases he : isF E [101, 108, 115, 101] R3 = true
  ·rw [if_pos he];refine Pq.bnd (H .statement _ hR3.tail trivial) fun u R4 hu hR4 => Pq.ret ⟨.if3 a s u ha hs.1 ?_ hu.1, fun h => hu.2 ?_⟩ hR4
   ·cases ho : yA s with
    | false => rfl
    | true => exact absurd (hs.2 ho) (by rw [he]; decide)
   ·simpa [yA, qy, nd] using h
  ·rw [if_neg he];exact Pq.ret ⟨.if2 a s ha hs.1, fun _ => by simpa using he⟩ hR3
 | whileDo =>
  simp only [zg];exact Pq.need hR fun hR1 => Pq.bnd (H .bracketed _ hR1 trivial) fun a R2 ha hR2 => Pq.bnd (H .statement _ hR2 trivial) fun s R3 hs hR3 => Pq.ret ⟨.whl a s ha hs.1, fun h => hs.2 (by simpa [yA, qy, nd] using h)⟩ hR3
 | doWhile =>
  simp only [zg];exact Pq.need hR fun hR1 => Pq.bnd (H .statement _ hR1 trivial) fun s R2 hs hR2 => Pq.need hR2 fun hR3 => Pq.bnd (H .bracketed _ hR3 trivial) fun a R4 ha hR4 => Pq.need hR4 fun hR5 => Pq.ret ⟨.doW s a hs.1 ha, fun h => by simp [yA, nd] at h⟩ hR5
 | forLoop =>
  simp only [zg];refine Pq.need hR fun hR1 => Pq.need hR1 fun hR2 => Pq.bnd (H .forStart _ hR2 trivial) fun a R3 ha hR3 => Pq.bnd (H (.optional [59]) _ hR3 trivial) fun c R4 ⟨c', ec, hc⟩ hR4 => Pq.bnd (H (.optional [41]) _ hR4 trivial) fun d R5 ⟨d', ed, hd⟩ hR5 => Pq.bnd (H .statement _ hR5 trivial) fun s R6 hs hR6 => Pq.ret ⟨?_, fun h => hs.2 (by simpa [yA, qy, nd] using h)⟩ hR6
  subst ec; subst ed;rcases ha with ⟨p, l, rfl, h⟩ | ⟨e, rfl, h⟩ | rfl
  ·exact .forV p l (fun u hu => (h u hu).1) (fun u hu => (h u hu).2) c' d' hc hd s hs.1
  ·exact .forE e h c' d' hc hd s hs.1
  ·exact .forN c' d' hc hd s hs.1
 | forStart =>
  simp only [zg];refine Pq.ite (fun _ => Pq.bnd (H .vars R hR trivial) fun t R' h hR1 => Pq.need hR1 fun hR2 => Pq.ret (.inl h) hR2) fun _ => Pq.ite (fun _ => Pq.need hR fun hR2 => Pq.ret (.inr (.inr rfl)) hR2) fun _ => Pq.bnd (H .expr R hR trivial) fun t R' h hR1 => Pq.need hR1 fun hR2 => Pq.ret (.inr (.inl ⟨t, rfl, h⟩)) hR2
 | giveBack =>
  simp only [zg];refine Pq.need hR fun hR1 => Pq.ite (fun _ => Pq.need hR1 fun hR2 => Pq.ret ⟨.ret0, fun h => by simp [yA, nd, qy] at h⟩ hR2) fun _ => Pq.bnd (H .expr _ hR1 trivial) fun t R' h hR2 => Pq.need hR2 fun hR3 => Pq.ret ⟨.ret1 t h, fun h => by simp [yA, nd] at h⟩ hR3
 | throwIt =>
  simp only [zg];exact Pq.need hR fun hR1 => Pq.bnd (H .expr _ hR1 trivial) fun t R' h hR2 => Pq.need hR2 fun hR3 => Pq.ret ⟨.thr t h, fun h => by simp [yA, nd] at h⟩ hR3
 | leave k =>
  simp only [zg];refine Pq.need hR.tail fun hR1 => Pq.ret ?_ hR1
  rcases hp with rfl | rfl
  ·exact ⟨.brk, fun h => by simp [yA, nd, qy] at h⟩
  ·exact ⟨.con, fun h => by simp [yA, nd, qy] at h⟩
 | tryIt =>
  simp only [zg];refine Pq.need hR fun hR1 => Pq.bnd (H .block _ hR1 trivial) fun a R2 ⟨l, ea, ha⟩ hR2 => Pq.ite (fun _ => Pq.bnd (H .catchIt _ hR2 trivial) fun b R3 ⟨x, b', eb, hb⟩ hR3 => Pq.ite (fun _ => Pq.bnd (H .block _ hR3.tail trivial) fun c R4 ⟨c', ec, hc⟩ hR4 => Pq.ret (by subst ea; subst eb; subst ec; exact ⟨.tryB l x b' c' ha hb hc, fun h => by simp [yA, nd] at h⟩) hR4) fun _ => Pq.ret (by subst ea; subst eb; exact ⟨.tryC l x b' ha hb, fun h => by simp [yA, nd] at h⟩) hR3) fun _ => Pq.ite (fun _ => Pq.bnd (H .block _ hR2.tail trivial) fun c R4 ⟨c', ec, hc⟩ hR4 => Pq.ret (by subst ea; subst ec; exact ⟨.tryF l c' ha hc, fun h => by simp [yA, nd] at h⟩) hR4) fun _ => Pq.bad
 | catchIt =>
  simp only [zg];exact Pq.need hR fun hR1 => Pq.need hR1 fun hR2 => Pq.name hR2 fun x hx hR3 => Pq.need hR3 fun hR4 => Pq.bnd (H .block _ hR4 trivial) fun b R5 ⟨l, eb, hb⟩ hR5 => Pq.ret ⟨x, l, by rw [eb], hb⟩ hR5
 | expr =>
  simp only [zg];exact Pq.bnd (H .assign R hR trivial) fun t R1 h hR1 => H (.exprMore t) R1 hR1 h
 | exprMore x =>
  simp only [zg];exact Pq.ite (fun _ => Pq.bnd (H .assign _ hR.tail trivial) fun t R1 h hR1 => H (.exprMore (nd 42 [] [x, t])) R1 hR1 (.com x t hp h)) fun _ => Pq.ret hp hR
 | assign =>
  simp only [zg];refine Pq.bnd (H .cond R hR trivial) fun t R1 h hR1 => Pq.ite (fun hq => Pq.ite (fun ht => Pq.bnd (H .assign _ hR1.tail trivial) fun u R2 hu hR2 => Pq.ret ?_ hR2) fun _ => Pq.bad) fun _ => Pq.ret h hR1
  have hx : (hd E R1).text = fx (hd E R1) := by
   unfold fx; split
   ·rfl
   ·rename_i hn; unfold fx at hq; rw [if_neg hn] at hq; exact absurd hq (by decide)
  rw [hx]; exact .asg _ t u hq ht h hu
 | cond =>
  simp only [zg];exact Pq.bnd (H (.binary 1) R hR (Int.le_refl 1)) fun t R1 h hR1 => Pq.ite (fun _ => Pq.bnd (H .assign _ hR1.tail trivial) fun u R2 hu hR2 => Pq.need hR2 fun hR3 => Pq.bnd (H .assign _ hR3 trivial) fun v R4 hv hR4 => Pq.ret (.cnd t u v h hu hv) hR4) fun _ => Pq.ret h hR1
 | binary l =>
  simp only [zg];exact Pq.bnd (H .unary R hR trivial) fun t R1 h hR1 => H (.binMore l t) R1 hR1 ⟨hp, h⟩
 | binMore l x =>
  simp only [zg];obtain ⟨hl, hx⟩ := hp;refine Pq.ite (fun _ => Pq.ret hx hR) fun hn => Pq.bnd (H (.binary (yj (fx (hd E R)) + 1)) _ hR.tail (show 1 ≤ yj (fx (hd E R)) + 1 by omega)) fun t R1 h hR1 => H (.binMore l _) R1 hR1 ⟨hl, .bin _ _ x t rfl (by omega) hx h⟩
 | unary =>
  simp only [zg];have hxx : ∀ L : List (List UInt8), L.contains [] = false → L.contains (fx (hd E R)) = true → (hd E R).text = fx (hd E R) := fun L hL hq => by
   unfold fx; split
   ·rfl
   ·rename_i hn; unfold fx at hq; rw [if_neg hn, hL] at hq; cases hq
  refine Pq.ite (fun hq => Pq.bnd (H .unary _ hR.tail trivial) fun t R1 h hR1 => Pq.ret (by rw [hxx _ rfl hq]; exact .una _ t hq h) hR1) fun _ => Pq.ite (fun hq => Pq.bnd (H .unary _ hR.tail trivial) fun t R1 h hR1 => Pq.ite (fun ht => Pq.ret (by rw [hxx _ rfl hq]; exact .upd 0 _ t (.inl rfl) hq ht h) hR1) fun _ => Pq.bad) fun _ => H .postfx R hR trivial
 | postfx =>
  simp only [zg];refine Pq.bnd (H .member R hR trivial) fun t R1 h hR1 => Pq.ite (fun hq => Pq.ite (fun ht => Pq.ret ?_ hR1.tail) fun _ => Pq.bad) fun _ => Pq.ret h hR1
  have hx : (hd E R1).text = fx (hd E R1) := by
   unfold fx; split
   ·rfl
   ·rename_i hn; unfold fx at hq; rw [if_neg hn] at hq; exact absurd hq (by decide)
  rw [hx]; exact .upd 1 _ t (.inr rfl) hq ht h
 | member =>
  simp only [zg];exact Pq.bnd (H .primaryOrNew R hR trivial) fun t R1 h hR1 => H (.memMore t) R1 hR1 h
 | memMore x =>
  simp only [zg];refine Pq.ite (fun _ => Pq.bnd (H (.part x) R hR hp) fun t R1 h hR1 => H (.memMore t) R1 hR1 h) fun _ => Pq.ite (fun _ => Pq.bnd (H (.part x) R hR hp) fun t R1 h hR1 => H (.memMore t) R1 hR1 h) fun _ => Pq.ite (fun _ => Pq.bnd (H (.called x) R hR hp) fun t R1 ⟨l, e, h⟩ hR1 => H (.memMore _) R1 hR1 (by rw [e]; exact .call x l hp h)) fun _ => Pq.ret hp hR
 | makMore x =>
  simp only [zg];exact Pq.ite (fun _ => Pq.bnd (H (.part x) R hR hp) fun t R1 h hR1 => H (.makMore t) R1 hR1 h) fun _ => Pq.ite (fun _ => Pq.bnd (H (.part x) R hR hp) fun t R1 h hR1 => H (.makMore t) R1 hR1 h) fun _ => Pq.ret hp hR
 | primaryOrNew =>
  simp only [zg];exact Pq.ite (fun _ => H .newObject R hR trivial) fun _ => H .primary R hR trivial
 | newObject =>
  simp only [zg];refine Pq.need hR fun hR1 => Pq.bnd (H .maker _ hR1 trivial) fun t R2 h hR2 => Pq.ite (fun _ => Pq.bnd (H (.called t) R2 hR2 h) fun u R3 ⟨l, e, hl⟩ hR3 => Pq.ret (by rw [e]; exact .new t l h hl) hR3) fun _ => Pq.ret (.new t [] h fun u hu => by cases hu) hR2
 | maker =>
  simp only [zg];exact Pq.ite (fun _ => H .newObject R hR trivial) fun _ => Pq.bnd (H .primary R hR trivial) fun t R1 h hR1 => H (.makMore t) R1 hR1 h
 | part x =>
  simp only [zg];exact Pq.ite (fun _ => Pq.key hR.tail fun y hR1 => Pq.ret (.dot y x hp) hR1) fun _ => Pq.need hR fun hR1 => Pq.bnd (H .expr _ hR1 trivial) fun t R2 h hR2 => Pq.need hR2 fun hR3 => Pq.ret (.idx x t hp h) hR3
 | called x =>
  simp only [zg];exact Pq.need hR fun hR1 => Pq.bnd (H (.list [41] .assign) _ hR1 (.inl rfl)) fun t R2 h hR2 => Pq.ret ⟨t.kids, rfl, h⟩ hR2
 | bracketed =>
  simp only [zg];exact Pq.need hR fun hR1 => Pq.bnd (H .expr _ hR1 trivial) fun t R2 h hR2 => Pq.need hR2 fun hR3 => Pq.ret h hR3
 | primary =>
  simp only [zg];have hk := hR.hd E;refine Pq.ite (fun h1 => Pq.ret ?_ hR.tail) fun _ => Pq.ite (fun h1 => Pq.ret ?_ hR.tail) fun _ => Pq.ite (fun h1 => Pq.ret ?_ hR.tail) fun _ => H .fixedPrimary R hR trivial
  ·rw [hk.1 (by omega)]; exact .tok 27 _ (.inr rfl)
  ·rw [hk.2.1 h1]; exact .num _
  ·rw [hk.1 (by omega)]; exact .tok 22 _ (.inl rfl)
 | fixedPrimary =>
  simp only [zg];refine Pq.ite (fun _ => Pq.ret (.wrd 26 (by simp)) hR.tail) fun _ => Pq.ite (fun _ => Pq.ret (.wrd 25 (by simp)) hR.tail) fun _ => Pq.ite (fun _ => Pq.ret (.wrd 23 (by simp)) hR.tail) fun _ => Pq.ite (fun _ => Pq.ret (.wrd 24 (by simp)) hR.tail) fun _ => Pq.ite (fun _ => H .bracketed R hR trivial) fun _ => Pq.ite (fun _ => Pq.bnd (H (.list [93] .assign) _ hR.tail (.inl rfl)) fun t R1 h hR1 => Pq.ret (.arr t.kids h) hR1) fun _ => Pq.ite (fun _ => Pq.bnd (H (.list [125] .prop) _ hR.tail (.inr (.inr rfl))) fun t R1 h hR1 => Pq.ret ?_ hR1) fun _ => Pq.ite (fun _ => Pq.ite (fun _ => (H (.function 31 []) _ hR.tail trivial).imp fun t R1 ⟨ps, bd, e, h⟩ => by subst e; exact .fn [] ps bd h) fun _ => Pq.name hR.tail fun x hx hR1 => (H (.function 31 x) _ hR1 trivial).imp fun t R1 ⟨ps, bd, e, h⟩ => by subst e; exact .fn x ps bd h) fun _ => Pq.bad
  obtain ⟨ps, e, hps⟩ := zdN t.kids h;rw [e]; exact .obj ps hps
 | prop =>
  simp only [zg];exact Pq.prop hR fun x hR1 => Pq.need hR1 fun hR2 => Pq.bnd (H .assign _ hR2 trivial) fun t R3 h hR3 => Pq.ret ⟨(x, t), rfl, h⟩ hR3
 | param =>
  simp only [zg];exact Pq.name hR fun x hx hR1 => Pq.ret ⟨x, rfl⟩ hR1
 | program =>
  cases R with
  | nil => exact Pq.ret (fun u hu => by cases hu) hR
  | cons a q =>
   show Pq (bnd (rec .element (a :: q)) fun x R1 => bnd (rec .program R1) fun l R2 => ret (bag (x :: l.kids)) R2) _
   exact Pq.bnd (H .element _ hR trivial) fun t R1 h hR1 => Pq.bnd (H .program R1 hR1 trivial) fun l R2 hl hR2 => Pq.ret (fun u hu => by rcases List.mem_cons.1 hu with rfl | hu; exact h.1; exact hl u hu) hR2
 | function kind x =>
  simp only [zg];refine Pq.need hR fun hR1 => Pq.bnd (H (.list [41] .param) _ hR1 (.inr (.inl rfl))) fun t R2 h hR2 => Pq.need hR2 fun hR3 => Pq.bnd (H (.untl [125] .element) _ hR3 (.inr rfl)) fun u R4 hu hR4 => Pq.ret ?_ hR4
  obtain ⟨ps, e⟩ := zfw t.kids h;exact ⟨ps, u.kids, by rw [e]; rfl, hu⟩
 | optional stop =>
  simp only [zg];exact Pq.ite (fun _ => Pq.ret ⟨[], rfl, fun a ha => by cases ha⟩ hR.tail) fun _ => Pq.bnd (H .expr R hR trivial) fun t R1 h hR1 => Pq.need hR1 fun hR2 => Pq.ret ⟨[t], rfl, fun a ha => by rw [List.mem_singleton] at ha; subst ha; exact h⟩ hR2
 | untl stop it =>
  simp only [zg];have hI : ∀ R, xQ R → Pq (rec it R) fun t _ => clI it t := fun R hR => by
   rcases hp with rfl | rfl
   ·exact (H .statement R hR trivial).imp fun t R h => h.1
   ·exact (H .element R hR trivial).imp fun t R h => h.1
  exact Pq.ite (fun _ => Pq.ret (fun u hu => by cases hu) hR.tail) fun _ => Pq.bnd (hI R hR) fun t R1 h hR1 => Pq.bnd (H (.untl stop it) R1 hR1 hp) fun l R2 hl hR2 => Pq.ret (fun u hu => by rcases List.mem_cons.1 hu with rfl | hu; exact h; exact hl u hu) hR2
 | row it =>
  simp only [zg];exact Pq.bnd (zhR hp H R hR) fun t R1 h hR1 => Pq.bnd (H (.rowMore it) R1 hR1 hp) fun l R2 hl hR2 => Pq.ret ⟨List.cons_ne_nil _ _, fun u hu => by rcases List.mem_cons.1 hu with rfl | hu; exact h; exact hl u hu⟩ hR2
 | rowMore it =>
  simp only [zg];exact Pq.ite (fun _ => Pq.bnd (zhR hp H _ hR.tail) fun t R1 h hR1 => Pq.bnd (H (.rowMore it) R1 hR1 hp) fun l R2 hl hR2 => Pq.ret (fun u hu => by rcases List.mem_cons.1 hu with rfl | hu; exact h; exact hl u hu) hR2) fun _ => Pq.ret (fun u hu => by cases hu) hR
 | list stop it =>
  simp only [zg];exact Pq.ite (fun _ => Pq.ret (fun u hu => by cases hu) hR.tail) fun _ => Pq.bnd (H (.row it) R hR (.inr hp)) fun l R1 hl hR1 => Pq.need hR1 fun hR2 => Pq.ret hl.2 hR2
theorem zky (E : Int) : ∀ (n : Nat) (nt : NT) (R : List Tk), xQ R → prM nt → Pq (Q E n nt R) (clM E nt)
 | 0, _, _, _, _ => fun t R e => by cases e
 | n + 1, nt, R, hR, hp => zjv (zky E n) nt R hR hp
theorem zbj {E : Int} {l : List Tk} {t : Tr} {R : List Tk} (hl : xQ l) (h : D E .program l (.ok (t, R))) : ∀ u ∈ t.kids, El u := by
 obtain ⟨n, h⟩ := h;exact (zky E n .program l hl trivial t R (h n (zd _))).1
end
end
abbrev Tg := Tk × List UInt8
abbrev h0 (t : Tk) : Tg := (t, [])
abbrev h1 (t : Tk) : Tg := (t, [32])
def zX (g : List UInt8) : List Tg → List Tg
 | [] => []
 | [x] => [(x.1, g)]
 | x :: y :: l => x :: zX g (y :: l)
theorem zcx (g : List UInt8) : ∀ l : List Tg, (zX g l).map (·.1) = l.map (·.1)
 | [] => rfl
 | [x] => rfl
 | x :: y :: l => by rw [zX, List.map_cons, zcx g (y :: l)]; rfl
def brG (t : Tr) (f : List Tg) : List Tg := if yP t then f else h0 (sg [40]) :: (f ++ [h0 (sg [41])])
def yz : List (List Tg) → List Tg
 | [] => []
 | [f] => f
 | f :: g :: l => f ++ h1 (sg [44]) :: yz (g :: l)
def vq (g : List UInt8) : List (List Tg) → List Tg
 | [] => []
 | f :: l => zX g f ++ vq g l
def ug (k : Int) (x : List UInt8) (b : Int) (f p e : List (List Tg)) : List Tg :=
  if k = 1 then vq [10] f
  else if k = 2 ∨ k = 20 then h1 (sg [123]) :: (vq [32] f ++ [h0 (sg [125])])
  else if k = 3 then h1 (wd [118, 97, 114]) :: (yz f ++ [h0 (sg [59])])
  else if k = 4 then (match p with | [a] => h1 (nmT x) :: h1 (sg [61]) :: a | _ => [h0 (nmT x)])
  else if k = 5 then [h0 (sg [59])]
  else if k = 6 then h0 (sg [40]) :: (f.flatten ++ [h0 (sg [41]), h0 (sg [59])])
  else if k = 7 then match f with
    | [a, c] => h1 (wd [105, 102]) :: h0 (sg [40]) :: (a ++ h1 (sg [41]) :: c)
    | [a, c, d] => h1 (wd [105, 102]) :: h0 (sg [40]) :: (a ++ h1 (sg [41]) :: (zX [32] c ++ h1 (wd [101, 108, 115, 101]) :: d))
    | _ => []
  else if k = 8 then match f with
    | [a, c] => h1 (wd [119, 104, 105, 108, 101]) :: h0 (sg [40]) :: (a ++ h1 (sg [41]) :: c)
    | _ => []
  else if k = 9 then match f with
    | [a, c] => h1 (wd [100, 111]) :: (zX [32] a ++ h1 (wd [119, 104, 105, 108, 101]) :: h0 (sg [40]) :: (c ++ [h0 (sg [41]), h0 (sg [59])]))
    | _ => []
  else if k = 11 then [h0 (wd [98, 114, 101, 97, 107]), h0 (sg [59])]
  else if k = 12 then [h0 (wd [99, 111, 110, 116, 105, 110, 117, 101]), h0 (sg [59])]
  else if k = 13 then (match p with | [] => [h0 (wd [114, 101, 116, 117, 114, 110]), h0 (sg [59])] | _ => h1 (wd [114, 101, 116, 117, 114, 110]) :: (p.flatten ++ [h0 (sg [59])]))
  else if k = 14 then h1 (wd [116, 104, 114, 111, 119]) :: (p.flatten ++ [h0 (sg [59])])
  else if k = 15 then match f with
    | [a, c] => h1 (wd [116, 114, 121]) :: (zX [32] a ++ c)
    | [a, c, d] => h1 (wd [116, 114, 121]) :: (zX [32] a ++ (zX [32] c ++ d))
    | _ => h1 (wd [116, 114, 121]) :: f.flatten
  else if k = 16 then h1 (wd [99, 97, 116, 99, 104]) :: h0 (sg [40]) :: h0 (nmT x) :: h1 (sg [41]) :: f.flatten
  else if k = 17 then h1 (wd [102, 105, 110, 97, 108, 108, 121]) :: f.flatten
  else if k = 18 ∨ k = 31 then h1 (wd [102, 117, 110, 99, 116, 105, 111, 110]) :: ((if x = [] then [] else [h0 (nmT x)]) ++ h0 (sg [40]) :: (yz f.dropLast ++ h1 (sg [41]) :: f.getLastD []))
  else if k = 19 ∨ k = 27 then [h0 (nmT x)]
  else if k = 21 then [h0 (nuT b)]
  else if k = 22 then [h0 (txT x)]
  else if k = 23 then [h0 (wd [116, 114, 117, 101])]
  else if k = 24 then [h0 (wd [102, 97, 108, 115, 101])]
  else if k = 25 then [h0 (wd [110, 117, 108, 108])]
  else if k = 26 then [h0 (wd [116, 104, 105, 115])]
  else if k = 28 then h0 (sg [91]) :: (yz p ++ [h0 (sg [93])])
  else if k = 29 then h0 (sg [123]) :: (yz f ++ [h0 (sg [125])])
  else if k = 30 then h0 (txT x) :: h1 (sg [58]) :: p.flatten
  else if k = 32 then p.flatten ++ [h0 (sg [46]), h0 (if zV x then wd x else nmT x)]
  else if k = 33 then match p, f with
    | [a, _], [_, c] => a ++ h0 (sg [91]) :: (c ++ [h0 (sg [93])])
    | _, _ => []
  else if k = 34 then p.headD [] ++ h0 (sg [40]) :: (yz p.tail ++ [h0 (sg [41])])
  else if k = 35 then h1 (wd [110, 101, 119]) :: (p.headD [] ++ h0 (sg [40]) :: (yz p.tail ++ [h0 (sg [41])]))
  else if k = 36 then h1 (opT x) :: p.flatten
  else if k = 37 then (if b = 0 then h0 (sg x) :: p.flatten else p.flatten ++ [h0 (sg x)])
  else if k = 38 ∨ k = 39 ∨ k = 41 then match p with
    | [a, c] => zX [32] a ++ h1 (opT x) :: c
    | _ => []
  else if k = 40 then match p with
    | [a, c, d] => zX [32] a ++ h1 (sg [63]) :: (zX [32] c ++ h1 (sg [58]) :: d)
    | _ => []
  else if k = 42 then match p with
    | [a, c] => a ++ h1 (sg [44]) :: c
    | _ => []
  else if k = 10 then (match f, e with
    | [a, _, _, g], [_, c, d, _] => h1 (wd [102, 111, 114]) :: h0 (sg [40]) :: (zX (if c = [] then [] else [32]) a ++ (c ++ (sg [59], if d = [] then [] else [32]) :: (d ++ h1 (sg [41]) :: g)))
    | _, _ => [])
  else []
mutual
def gF : Tr → List Tg
 | .node k x b kids => ug k x b (gFs kids) (gPs kids) (gEs kids)
def gFs : List Tr → List (List Tg)
 | [] => []
 | t :: l => gF t :: gFs l
def gPs : List Tr → List (List Tg)
 | [] => []
 | t :: l => brG t (gF t) :: gPs l
def gEs : List Tr → List (List Tg)
 | [] => []
 | t :: l => (if t.kind = 5 then [] else gF t) :: gEs l
end
abbrev fs1 (l : List Tg) : List Tk := l.map (·.1)
def mxT (x : Tk) : Prop := x.kind ≠ 5 ∨ mxS x.text = true
def okP (x y : Tg) : Prop := x.2 ≠ [] ∨ (x.1.kind = 5 ∧ mxS x.1.text = true) ∨ x.1.kind = 4 ∨ (x.1.kind ≠ 5 ∧ (y.1.kind = 5 ∨ y.1.kind = 4))
def ChG : List Tg → Prop
 | [] => True
 | [_] => True
 | x :: y :: l => okP x y ∧ ChG (y :: l)
structure Gq (f : List Tg) (T : List Tk) : Prop where
 fst : fs1 f = T
 ch : ChG f
 en : ∀ x, f.getLast? = some x → mxT x.1
theorem Gq.nil : Gq [] [] := ⟨rfl, trivial, fun x h => by cases h⟩
theorem Gq.one {t : Tk} (h : mxT t) (g : List UInt8) : Gq [(t, g)] [t] := ⟨rfl, trivial, fun x hx => by simp at hx; subst hx; exact h⟩
theorem ChG.app : ∀ {f g : List Tg}, ChG f → ChG g → (∀ x y, f.getLast? = some x → g.head? = some y → okP x y) → ChG (f ++ g)
 | [], g, _, hg, _ => hg
 | [x], [], _, _, _ => trivial
 | [x], y :: g, _, hg, hj => ⟨hj x y rfl rfl, hg⟩
 | x :: y :: f, g, hf, hg, hj => ⟨hf.1, ChG.app (f := y :: f) hf.2 hg fun a b ha hb => hj a b (by rw [List.getLast?_cons_cons]; exact ha) hb⟩
theorem Gq.app {f g : List Tg} {T U : List Tk} (hf : Gq f T) (hg : Gq g U) (hj : ∀ x y, f.getLast? = some x → g.head? = some y → okP x y) : Gq (f ++ g) (T ++ U) := by
 refine ⟨by rw [← hf.fst, ← hg.fst, fs1, List.map_append], hf.ch.app hg.ch hj, fun x hx => ?_⟩;cases g with
 | nil => rw [List.append_nil] at hx; exact hf.en x hx
 | cons a q =>
  rw [List.getLast?_append] at hx;cases hy : (a :: q).getLast? with
  | none => simp at hy
  | some y => rw [hy] at hx; simp at hx; subst hx; exact hg.en y hy
theorem Gq.cons {x : Tg} {g : List Tg} {U : List Tk} (hg : Gq g U) (hne : g ≠ []) (hx : x.2 ≠ [] ∨ (x.1.kind = 5 ∧ mxS x.1.text = true) ∨ x.1.kind = 4 ∨ ∃ y, g.head? = some y ∧ okP x y) : Gq (x :: g) (x.1 :: U) := by
 cases g with
 | nil => exact absurd rfl hne
 | cons a q =>
  refine ⟨by rw [← hg.fst]; rfl, ⟨?_, hg.ch⟩, fun y hy => hg.en y (by rw [List.getLast?_cons_cons] at hy; exact hy)⟩;rcases hx with h | h | h | ⟨y, h1, h2⟩
  ·exact .inl h
  ·exact .inr (.inl h)
  ·exact .inr (.inr (.inl h))
  ·simp at h1; subst h1; exact h2
theorem zqk {f : List Tg} {T : List Tk} (hf : Gq f T) {g : List Tg} {t : Tg} (ht : t.1.kind = 5 ∨ t.1.kind = 4) : ∀ x y, f.getLast? = some x → (t :: g).head? = some y → okP x y := fun x y hx hy => by
 simp at hy; subst hy;rcases hf.en x hx with h | h
 ·exact .inr (.inr (.inr ⟨h, ht⟩))
 ·by_cases hk : x.1.kind = 5
  ·exact .inr (.inl ⟨hk, h⟩)
  ·exact .inr (.inr (.inr ⟨hk, ht⟩))
theorem jR {g : List UInt8} : ∀ {f : List Tg} {x : Tg}, (zX g f).getLast? = some x → x.2 = g ∧ ∃ y, f.getLast? = some y ∧ y.1 = x.1
 | [], x, h => by cases h
 | [a], x, h => by simp [zX] at h; subst h; exact ⟨rfl, a, rfl, rfl⟩
 | a :: b :: l, x, h => by
  rw [zX] at h;have : (a :: zX g (b :: l)).getLast? = (zX g (b :: l)).getLast? := by
   cases hl : zX g (b :: l) with
   | nil => cases l <;> simp [zX] at hl
   | cons u q => rw [List.getLast?_cons_cons]
  rw [this] at h;obtain ⟨h1, y, h2, h3⟩ := jR h;exact ⟨h1, y, by rw [List.getLast?_cons_cons]; exact h2, h3⟩
theorem zga (g : List UInt8) : ∀ (b : Tg) (l : List Tg), ∃ q, zX g (b :: l) = (b.1, if l = [] then g else b.2) :: q
 | b, [] => ⟨[], rfl⟩
 | b, c :: l => ⟨zX g (c :: l), rfl⟩
theorem zdj (g : List UInt8) : ∀ f : List Tg, ChG f → ChG (zX g f)
 | [], _ => trivial
 | [a], _ => trivial
 | a :: b :: l, h => by
  obtain ⟨q, hq⟩ := zga g b l;have ih := zdj g (b :: l) h.2;rw [zX, hq];rw [hq] at ih;exact ⟨h.1, ih⟩
theorem Gq.gap {f : List Tg} {T : List Tk} (h : Gq f T) (g : List UInt8) : Gq (zX g f) T :=
 ⟨by rw [← h.fst, fs1, zcx], zdj g f h.ch, fun x hx => by obtain ⟨_, y, h1, h2⟩ := jR hx; rw [← h2]; exact h.en y h1⟩
theorem Gq.gapp {f g : List Tg} {T U : List Tk} (hf : Gq f T) {b : List UInt8} (hb : b ≠ []) (hg : Gq g U) : Gq (zX b f ++ g) (T ++ U) :=
 (hf.gap b).app hg fun x y hx _ => .inl (by rw [(jR hx).1]; exact hb)
theorem Gq.sgn {f g : List Tg} {T U : List Tk} (hf : Gq f T) {t : Tg} (ht : t.1.kind = 5 ∨ t.1.kind = 4) (hg : Gq (t :: g) U) : Gq (f ++ t :: g) (T ++ U) := hf.app hg (zqk hf ht)
theorem vW {α : Type} (F : α → List Tg) (T : α → List Tk) : ∀ l : List α, (∀ a ∈ l, Gq (F a) (T a)) → Gq (yz (l.map F)) (zC (l.map T))
 | [], _ => Gq.nil
 | [a], h => h a (by simp)
 | a :: b :: l, h => by
  have ih := vW F T (b :: l) fun u hu => h u (by simp [hu])
  show Gq (F a ++ h1 (sg [44]) :: yz (F b :: l.map F)) (T a ++ sg [44] :: zC (T b :: l.map T))
  refine (h a (by simp)).sgn (.inl rfl) ?_;by_cases hn : yz (F b :: l.map F) = []
  ·have e : zC (T b :: l.map T) = [] := by
    have := ih.fst;simp only [List.map_cons] at this;rw [hn] at this; simpa [fs1] using this.symm
   rw [hn, e]; exact Gq.one (.inr (by decide)) [32]
  ·exact ih.cons hn (.inl (by simp))
theorem zdk {α : Type} {g : List UInt8} (hg : g ≠ []) (F : α → List Tg) (T : α → List Tk) : ∀ l : List α, (∀ a ∈ l, Gq (F a) (T a)) → Gq (vq g (l.map F)) ((l.map T).flatten)
 | [], _ => Gq.nil
 | a :: l, h => (h a (by simp)).gapp hg (zdk hg F T l fun u hu => h u (by simp [hu]))
theorem ziU : ∀ P ∈ qN, ∀ c, P.head? = some c → npB (ci c) = false := by decide +kernel
theorem zdl : ∀ l : List Tg, (∀ x ∈ l, Gd x.1 ∧ (x.2 = [] ∨ x.2 = [32] ∨ x.2 = [10])) → ChG l → zdG l
 | [], _, _ => trivial
 | [x], h, _ => by
  obtain ⟨h1, h2⟩ := h x (by simp);refine ⟨h1, ?_, trivial⟩;rcases h2 with e | e | e
  ·exact .inr ⟨e, .inl rfl⟩
  ·rw [e]; exact .inl zic
  ·rw [e]; exact .inl zfF
 | x :: y :: l, h, hc => by
  obtain ⟨h1, h2⟩ := h x (by simp);refine ⟨h1, ?_, zdl (y :: l) (fun u hu => h u (by simp [hu])) hc.2⟩;rcases h2 with e | e | e
  ·refine .inr ⟨e, ?_⟩;obtain ⟨g1, g2⟩ := h y (by simp);have hne : ya y.1 ≠ [] := (jU g1 (J := []) (.inl rfl)).1;rw [uD];cases hp : ya y.1 with
   | nil => exact absurd hp hne
   | cons b q =>
    refine .inr ⟨b, q ++ (y.2 ++ yd l), rfl, ?_⟩;rcases hc.1 with k | k | k | ⟨k1, k2⟩
    ·exact absurd e k
    ·exact .inr (.inr (.inr (.inr k)))
    ·exact .inr (.inr (.inl k))
    ·refine .inr (.inr (.inr (.inl ⟨k1, ?_⟩)));rcases k2 with k2 | k2
     ·have e1 : ya y.1 = y.1.text := by unfold ya; rw [if_pos (by omega)]
      have hs : y.1.text ∈ qN := by
       rcases g1 with ⟨a, _⟩ | ⟨a, _⟩ | ⟨a, _⟩ | ⟨a, _⟩ | ⟨_, a, _⟩
       ·omega
       ·omega
       ·omega
       ·omega
       ·unfold xm at a; simpa using a
      exact ziU _ hs b (by rw [← e1, hp]; rfl)
     ·have e1 : ya y.1 = yf y.1.text := by unfold ya; rw [if_neg (by omega), if_neg (by omega), if_pos k2]
      rw [e1] at hp;have : b = 34 := by unfold yf at hp; simp at hp; exact hp.1.symm
      rw [this]; decide
  ·rw [e]; exact .inl zic
  ·rw [e]; exact .inl zfF
def GT (t : Tr) : Prop := Gq (gF t) (tF t) ∧ gF t ≠ []
def GPt (t : Tr) : Prop := Gq (brG t (gF t)) (pT t) ∧ brG t (gF t) ≠ []
theorem zpR {q : List UInt8} (h : mxS q = true) : mxT (sg q) := .inr h
theorem s1 {q : List UInt8} (h : mxS q = true) (g : List UInt8) : Gq [(sg q, g)] [sg q] := Gq.one (zpR h) g
theorem zv (k : Int) (x : List UInt8) (b : Int) (kids : List Tr) : gF (.node k x b kids) = ug k x b (gFs kids) (gPs kids) (gEs kids) := by rw [gF]
theorem yq : ∀ l : List Tr, gFs l = l.map gF
 | [] => by rw [gFs]; rfl
 | t :: l => by rw [gFs, yq l]; rfl
def gP (t : Tr) : List Tg := brG t (gF t)
theorem yH : ∀ l : List Tr, gPs l = l.map gP
 | [] => by rw [gPs]; rfl
 | t :: l => by rw [gPs, yH l]; rfl
theorem GT.p {t : Tr} (h : GT t) : Gq (gP t) (pT t) ∧ gP t ≠ [] := by
 unfold gP brG pT brT;split
 ·exact h
 ·exact ⟨(h.1.sgn (.inl rfl) (s1 (by decide) [])).cons (by simp) (.inr (.inl ⟨rfl, by decide⟩)), by simp⟩
theorem Gq.fin {f : List Tg} {T : List Tk} (h : Gq f T) {q : List UInt8} (hq : mxS q = true) (g : List UInt8) : Gq (f ++ [(sg q, g)]) (T ++ [sg q]) := h.sgn (.inl rfl) (s1 hq g)
theorem Gq.blank {g : List Tg} {U : List Tk} (hg : Gq g U) (hne : g ≠ []) (t : Tk) {b : List UInt8} (hb : b ≠ []) : Gq ((t, b) :: g) (t :: U) := hg.cons hne (.inl hb)
theorem Gq.opn {g : List Tg} {U : List Tk} (hg : Gq g U) (hne : g ≠ []) {q : List UInt8} (hq : mxS q = true) : Gq (h0 (sg q) :: g) (sg q :: U) := hg.cons hne (.inr (.inl ⟨rfl, hq⟩))
theorem znc {t : Tr} (h : GT t) (x : List UInt8) : GT (nd 32 x [t]) := by
 obtain ⟨h1, h2⟩ := h.p;have e : gF (nd 32 x [t]) = gP t ++ [h0 (sg [46]), h0 (if zV x then wd x else nmT x)] := by
  rw [nd, zv, yH, show ∀ (x : List UInt8) (b : Int) (f p e : List (List Tg)), ug 32 x b f p e = p.flatten ++ [h0 (sg [46]), h0 (if zV x then wd x else nmT x)] from fun _ _ _ _ _ => rfl]; simp
 have e2 : tF (nd 32 x [t]) = pT t ++ [sg [46], if zV x then wd x else nmT x] := by
  have := zdT x t []; simpa using this
 have hm : mxT (if zV x then wd x else nmT x) := by
  split
  ·exact .inl (show ¬ (2 : Int) = 5 by decide)
  ·exact .inl (show ¬ (1 : Int) = 5 by decide)
 exact ⟨by rw [e, e2]; exact h1.sgn (.inl rfl) ((Gq.one hm []).opn (by simp) (by decide)), by rw [e]; simp [h2]⟩
theorem znd {a c : Tr} (h : GT a) (g : GT c) : GT (nd 33 [] [a, c]) := by
 obtain ⟨h1, h2⟩ := h.p;have e : gF (nd 33 [] [a, c]) = gP a ++ h0 (sg [91]) :: (gF c ++ [h0 (sg [93])]) := by
  rw [nd, zv, yH, yq]; rfl
 have e2 : tF (nd 33 [] [a, c]) = pT a ++ sg [91] :: (tF c ++ [sg [93]]) := by
  have := zdU a c []; simpa using this
 exact ⟨by rw [e, e2]; exact h1.sgn (.inl rfl) ((g.1.fin (by decide) []).opn (by simp) (by decide)), by rw [e]; simp⟩
theorem zlA {a : Tr} {l : List Tr} (h : GT a) (g : ∀ t ∈ l, GT t) : GT (nd 34 [] (a :: l)) := by
 obtain ⟨h1, h2⟩ := h.p;have e : gF (nd 34 [] (a :: l)) = gP a ++ h0 (sg [40]) :: (yz (l.map gP) ++ [h0 (sg [41])]) := by
  rw [nd, zv, yH]; rfl
 have e2 : tF (nd 34 [] (a :: l)) = pT a ++ sg [40] :: (zC (l.map pT) ++ [sg [41]]) := by
  have := zcp a l []; simpa using this
 exact ⟨by rw [e, e2]; exact h1.sgn (.inl rfl) (((vW gP pT l fun t ht => (g t ht).p.1).fin (by decide) []).opn (by simp) (by decide)), by rw [e]; simp⟩
theorem zne {a : Tr} {l : List Tr} (h : GT a) (g : ∀ t ∈ l, GT t) : GT (nd 35 [] (a :: l)) := by
 obtain ⟨h1', h2⟩ := h.p;have e : gF (nd 35 [] (a :: l)) = h1 (wd [110, 101, 119]) :: (gP a ++ h0 (sg [40]) :: (yz (l.map gP) ++ [h0 (sg [41])])) := by
  rw [nd, zv, yH]; rfl
 have e2 : tF (nd 35 [] (a :: l)) = wd [110, 101, 119] :: (pT a ++ sg [40] :: (zC (l.map pT) ++ [sg [41]])) := by
  have := zeG a l []; simpa using this
 exact ⟨by rw [e, e2]; exact (h1'.sgn (.inl rfl) (((vW gP pT l fun t ht => (g t ht).p.1).fin (by decide) []).opn (by simp) (by decide))).blank (by simp) _ (by simp), by rw [e]; simp⟩
theorem znf {l : List Tr} (g : ∀ t ∈ l, GT t) : GT (nd 28 [] l) := by
 have e : gF (nd 28 [] l) = h0 (sg [91]) :: (yz (l.map gP) ++ [h0 (sg [93])]) := by rw [nd, zv, yH]; rfl
 have e2 : tF (nd 28 [] l) = sg [91] :: (zC (l.map pT) ++ [sg [93]]) := by rw [nd, zA, yi, zg5]
 exact ⟨by rw [e, e2]; exact ((vW gP pT l fun t ht => (g t ht).p.1).fin (by decide) []).opn (by simp) (by decide), by rw [e]; simp⟩
theorem zng {q : List UInt8} {a : Tr} (h : GT a) : GT (nd 36 q [a]) := by
 obtain ⟨h1', h2⟩ := h.p;have e : gF (nd 36 q [a]) = h1 (opT q) :: gP a := by
  rw [nd, zv, yH, show ∀ (x : List UInt8) (b : Int) (f p e : List (List Tg)), ug 36 x b f p e = h1 (opT x) :: p.flatten from fun _ _ _ _ _ => rfl]; simp
 have e2 : tF (nd 36 q [a]) = opT q :: pT a := by have := zeH q a []; simpa using this
 exact ⟨by rw [e, e2]; exact h1'.blank h2 _ (by simp), by rw [e]; simp⟩
theorem zlB {q : List UInt8} {a : Tr} (hq : yG.contains q = true) (h : GT a) : GT (.node 37 q 0 [a]) := by
 obtain ⟨h1', h2⟩ := h.p;have hm : mxS q = true := by
  have : q = [43, 43] ∨ q = [45, 45] := by simpa [yG] using hq
  rcases this with rfl | rfl <;> decide
 have e : gF (.node 37 q 0 [a]) = h0 (sg q) :: gP a := by
  rw [zv, yH, show ∀ (x : List UInt8) (f p e : List (List Tg)), ug 37 x 0 f p e = h0 (sg x) :: p.flatten from fun _ _ _ _ => rfl]; simp
 have e2 : tF (.node 37 q 0 [a]) = sg q :: pT a := by rw [zA, yi, zeI]; simp
 exact ⟨by rw [e, e2]; exact h1'.opn h2 hm, by rw [e]; simp⟩
theorem zlC {q : List UInt8} {a : Tr} (hq : yG.contains q = true) (h : GT a) : GT (.node 37 q 1 [a]) := by
 obtain ⟨h1', h2⟩ := h.p;have hm : mxS q = true := by
  have : q = [43, 43] ∨ q = [45, 45] := by simpa [yG] using hq
  rcases this with rfl | rfl <;> decide
 have e : gF (.node 37 q 1 [a]) = gP a ++ [h0 (sg q)] := by
  rw [zv, yH, show ∀ (x : List UInt8) (f p e : List (List Tg)), ug 37 x 1 f p e = p.flatten ++ [h0 (sg x)] from fun _ _ _ _ => rfl]; simp
 have e2 : tF (.node 37 q 1 [a]) = pT a ++ [sg q] := by rw [zA, yi, zeJ]; simp
 exact ⟨by rw [e, e2]; exact h1'.fin hm [], by rw [e]; simp⟩
theorem zif {k : Int} (hk : k = 38 ∨ k = 39 ∨ k = 41) {q : List UInt8} {a c : Tr} (h : GT a) (g : GT c) : GT (nd k q [a, c]) := by
 obtain ⟨h1', h2⟩ := h.p;obtain ⟨g1, g2⟩ := g.p;have e : gF (nd k q [a, c]) = zX [32] (gP a) ++ h1 (opT q) :: gP c := by rw [nd, zv, yH]; rcases hk with rfl | rfl | rfl <;> rfl
 have e2 : tF (nd k q [a, c]) = pT a ++ opT q :: pT c := by have := zar k hk q a c []; simpa using this
 exact ⟨by rw [e, e2]; exact h1'.gapp (by simp) (g1.blank g2 _ (by simp)), by rw [e]; simp⟩
theorem znh {a c d : Tr} (h : GT a) (g : GT c) (i : GT d) : GT (nd 40 [] [a, c, d]) := by
 obtain ⟨h1', h2⟩ := h.p;obtain ⟨g1, g2⟩ := g.p;obtain ⟨i1, i2⟩ := i.p;have e : gF (nd 40 [] [a, c, d]) = zX [32] (gP a) ++ h1 (sg [63]) :: (zX [32] (gP c) ++ h1 (sg [58]) :: gP d) := by rw [nd, zv, yH]; rfl
 have e2 : tF (nd 40 [] [a, c, d]) = pT a ++ sg [63] :: (pT c ++ sg [58] :: pT d) := by have := zb6 a c d []; simpa using this
 exact ⟨by rw [e, e2]; exact h1'.gapp (by simp) ((g1.gapp (by simp) (i1.blank i2 _ (by simp))).blank (by simp) _ (by simp)), by rw [e]; simp⟩
theorem zni {a c : Tr} (h : GT a) (g : GT c) : GT (nd 42 [] [a, c]) := by
 obtain ⟨h1', h2⟩ := h.p;obtain ⟨g1, g2⟩ := g.p;have e : gF (nd 42 [] [a, c]) = gP a ++ h1 (sg [44]) :: gP c := by rw [nd, zv, yH]; rfl
 have e2 : tF (nd 42 [] [a, c]) = pT a ++ sg [44] :: pT c := by rw [nd, zA, yi]; rfl
 exact ⟨by rw [e, e2]; exact h1'.sgn (.inl rfl) (g1.blank g2 _ (by simp)), by rw [e]; simp⟩
end Go.Proofs.YtfcgpphodacdmaaGreatDoor
