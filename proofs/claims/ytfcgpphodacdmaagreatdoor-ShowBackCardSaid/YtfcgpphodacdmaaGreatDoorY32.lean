/- Part of a proof: contracts of functions. -/
import Derived.Test.YtfcgpphodacdmaaGreatDoorY31
import Derived.Test.YtfcgpphodacdmaaGreatDoorY16
import Derived.WalkSmall
import Derived.OwnWalk
import Derived.Deep.LoopGhost
set_option maxRecDepth 100000
set_option maxHeartbeats 4000000
set_option linter.all false
namespace Go.Proofs.YtfcgpphodacdmaaGreatDoor
mutual
def htT : Tr → Nat
 | .node _ _ _ kids => qD kids + 1
def qD : List Tr → Nat
 | [] => 0
 | t :: l => max (htT t) (qD l)
end
def vA : List Nat → List Nat
 | [] => []
 | 0 :: [] => []
 | 0 :: y :: q => vA ((y - 1) :: q)
 | (x + 1) :: r => (x + 1) :: r
termination_by l => l.length
def vB : List Nat → Nat → List Nat → Nat
 | [], m, _ => m
 | n :: l, m, s => vB l (max m (s.length + 1)) (vA (n :: s))
def jT : List Nat → List Nat
 | [] => []
 | y :: q => vA ((y - 1) :: q)
theorem zcz (s : List Nat) : vA (0 :: s) = jT s := by cases s <;> simp [vA, jT]
theorem zdz (n : Nat) (s : List Nat) (h : 0 < n) : vA (n :: s) = n :: s := by
 cases n with
 | zero => omega
 | succ n => simp [vA]
mutual
theorem zcA : ∀ (t : Tr) (r : List Nat) (m : Nat) (s : List Nat), vB ((zp t).map LN.n ++ r) m s = vB r (max m (s.length + htT t)) (jT s)
 | .node k x b kids, r, m, s => by
  rw [zp, List.map_cons, List.cons_append, vB, htT];cases kids with
  | nil => simp only [zs, List.map_nil, List.nil_append, List.length_nil, qD]; rw [zcz, Nat.zero_add]
  | cons t l =>
   have hl : (t :: l).length ≠ 0 := by simp
   rw [show (⟨k, (t :: l).length, (zs (t :: l)).length + 1, x, b⟩ : LN).n = (t :: l).length from rfl, zdz _ _ (by omega), zbH (t :: l) r _ s (by simp)];have : max (max m (s.length + 1)) (s.length + 1 + qD (t :: l)) = max m (s.length + (qD (t :: l) + 1)) := by omega
   rw [this]
theorem zbH : ∀ (l : List Tr) (r : List Nat) (m : Nat) (s : List Nat), l ≠ [] → vB ((zs l).map LN.n ++ r) m (l.length :: s) = vB r (max m (s.length + 1 + qD l)) (jT s)
 | [], _, _, _, h => absurd rfl h
 | t :: l, r, m, s, _ => by
  rw [zs, List.map_append, List.append_assoc, zcA t];cases l with
  | nil =>
   simp only [zs, List.map_nil, List.nil_append, qD, List.length_cons, List.length_nil, jT];rw [show (0 + 1 - 1 : Nat) = 0 from rfl, zcz];congr 1; omega
  | cons u q =>
   rw [show jT ((t :: u :: q).length :: s) = (u :: q).length :: s by simp only [jT, List.length_cons]; rw [Nat.add_sub_cancel]; exact zdz _ _ (by omega), zbH (u :: q) r _ s (by simp)];simp only [qD, List.length_cons]; congr 1; omega
end
theorem zjf (t : Tr) : vB ((zp t).map LN.n) 0 [] = htT t := by
 have := zcA t [] 0 [];rw [List.append_nil] at this;rw [this]; simp [vB]
def kidsF (sz : Nat → Nat) (len : Nat) : Nat → Nat → List Nat
 | 0, _ => []
 | n + 1, p => if p < len then p :: (if sz p < 1 ∨ len - p < sz p then [] else kidsF sz len n (p + sz p)) else []
def zZ : List Tr → Nat → List Nat
 | [], _ => []
 | t :: l, p => p :: zZ l (p + (zp t).length)
def ux (L : List LN) (p : Nat) : Nat := (L[p]?.map LN.size).getD 0
theorem zhC (t : Tr) : ∃ l r, zp t = l :: r ∧ l.size = (zp t).length ∧ l.n = t.kids.length := by
 cases t with
 | node k x b kids => exact ⟨_, _, by rw [zp], by rw [zp, List.length_cons], rfl⟩
theorem zjg (A : List LN) (t : Tr) (B : List LN) : ux (A ++ zp t ++ B) A.length = (zp t).length := by
 obtain ⟨l, r, h1, h2, _⟩ := zhC t;unfold ux;rw [List.append_assoc, List.getElem?_append_right (zd _), Nat.sub_self, h1, List.cons_append, List.getElem?_cons_zero];rw [h1] at h2
 simpa using h2
theorem zhD (A : List LN) : ∀ (l : List Tr) (B : List LN), kidsF (ux (A ++ zs l ++ B)) (A ++ zs l ++ B).length l.length A.length = zZ l A.length := by
 intro l
 induction l generalizing A with
 | nil => intro B; rfl
 | cons t l ih =>
  intro B;have e : A ++ zs (t :: l) ++ B = A ++ zp t ++ (zs l ++ B) := by rw [zs]; simp [List.append_assoc]
  have e2 : A ++ zs (t :: l) ++ B = (A ++ zp t) ++ zs l ++ B := by rw [zs]; simp [List.append_assoc]
  have hs := zjg A t (zs l ++ B);have hp := yk t;have hlen : (A ++ zp t ++ (zs l ++ B)).length = A.length + (zp t).length + (zs l ++ B).length := by rw [List.length_append, List.length_append]
  rw [List.length_cons, kidsF, zZ];rw [e, hs, if_pos (by omega), if_neg (by omega)];have := ih (A ++ zp t) B;rw [← e2, e] at this;rw [show (A ++ zp t).length = A.length + (zp t).length from List.length_append] at this;rw [this]
def sumF (sz : Nat → Nat) (l : List Nat) : Nat := l.foldl (fun a p => a + sz p) 1
theorem qd : ∀ (l : List Tr) (p : Nat), (zZ l p).length = l.length
 | [], _ => rfl
 | t :: l, p => by rw [zZ, List.length_cons, List.length_cons, qd l]
def BDq (f : List Tk) (d : Int) : Prop := 0 ≤ d ∧ ∀ rest op, 0 ≤ op → op + d ≤ 240 → vQ rest op → vQ (f ++ rest) op
theorem BDq.nil {d : Int} (h : 0 ≤ d) : BDq [] d := ⟨h, fun _ _ _ _ h => h⟩
theorem BDq.mono {f : List Tk} {d e : Int} (h : BDq f d) (hd : d ≤ e) : BDq f e := ⟨by have := h.1; omega, fun rest op h0 h1 h2 => h.2 rest op h0 (by omega) h2⟩
theorem BDq.app {f g : List Tk} {d : Int} (h : BDq f d) (k : BDq g d) : BDq (f ++ g) d := ⟨h.1, fun rest op h0 h1 h2 => by rw [List.append_assoc]; exact h.2 _ op h0 h1 (k.2 rest op h0 h1 h2)⟩
def uk (t : Tk) : Prop := (t.kind == 5 && yR t.text) = false ∧ (t.kind == 5 && qh t.text) = false
theorem BDq.cons {t : Tk} {f : List Tk} {d : Int} (ht : uk t) (h : BDq f d) : BDq (t :: f) d := ⟨h.1, fun rest op h0 h1 h2 => by
  refine ⟨?_, ?_⟩
  · unfold yU; rw [ht.1]; rfl
  · have e : opA t op = op := by unfold opA; rw [ht.1, ht.2]; rfl
    rw [e]; exact h.2 rest op h0 h1 h2⟩
theorem BDq.brk {a b : List UInt8} {f g : List Tk} {d : Int} (ha : yR a = true) (hb : qh b = true) (hb2 : yR b = false) (h : BDq f d) (k : BDq g (d + 1)) : BDq (sg a :: (f ++ sg b :: g)) (d + 1) := ⟨k.1, fun rest op h0 h1 h2 => by
  have e1 : opA (sg a) op = op + 1 := by unfold opA; rw [show ((sg a).kind == 5 && yR (sg a).text) = true by rw [show (sg a).text = a from rfl, ha]; rfl]; rfl
  have e2 : opA (sg b) (op + 1) = op := by
    unfold opA;rw [show ((sg b).kind == 5 && yR (sg b).text) = false by rw [show (sg b).text = b from rfl, hb2]; rfl, show ((sg b).kind == 5 && qh (sg b).text) = true by rw [show (sg b).text = b from rfl, hb]; rfl];simp only [zc, if_false, if_true]; omega
  have hd := h.1;refine ⟨?_, ?_⟩
  · unfold yU; rw [show (op == 240) = false from beq_eq_false_iff_ne.2 (by omega)]; simp
  · rw [e1];show vQ ((f ++ sg b :: g) ++ rest) (op + 1)
    rw [List.append_assoc];refine h.2 _ (op + 1) (by omega) (by omega) ⟨?_, ?_⟩
    · unfold yU; rw [show yR (sg b).text = false from hb2]; simp
    · rw [e2]; exact k.2 rest op h0 h1 h2⟩
theorem BDq.ite {c : Prop} [Decidable c] {f g : List Tk} {d : Int} (h : c → BDq f d) (k : ¬ c → BDq g d) : BDq (if c then f else g) d := by
 split
 ·exact h ‹_›
 ·exact k ‹_›
theorem BDq.flat {d : Int} (hd : 0 ≤ d) : ∀ {l : List (List Tk)}, (∀ f ∈ l, BDq f d) → BDq l.flatten d
 | [], _ => BDq.nil hd
 | f :: l, h => (h f (by simp)).app (BDq.flat hd fun g hg => h g (by simp [hg]))
theorem zaU {q : List UInt8} (h : yR q = false ∧ qh q = false) : uk (sg q) := ⟨by show (_ && yR q) = false; rw [h.1]; simp, by show (_ && qh q) = false; rw [h.2]; simp⟩
theorem zaL {t : Tk} (h : t.kind ≠ 5) : uk t := by
 have : (t.kind == 5) = false := beq_eq_false_iff_ne.2 h;exact ⟨by rw [this]; rfl, by rw [this]; rfl⟩
theorem BDq.comma {d : Int} (hd : 0 ≤ d) : ∀ {l : List (List Tk)}, (∀ f ∈ l, BDq f d) → BDq (zC l) d
 | [], _ => BDq.nil hd
 | [f], h => h f (by simp)
 | f :: g :: l, h => (h f (by simp)).app (BDq.cons (zaU (by decide)) (BDq.comma hd (l := g :: l) fun u hu => h u (by simp [hu])))
def clK (k : Int) (x : List UInt8) : Prop := (k = 36 ∨ k = 38 ∨ k = 39 ∨ k = 41 → uk (opT x)) ∧ (k = 37 → uk (sg x))
theorem zkk {k : Int} {x : List UInt8} {b : Int} {f p e : List (List Tk)} {d : Int} (d0 : 0 ≤ d) (ho : clK k x) (hf : ∀ g ∈ f, BDq g d) (hp : ∀ g ∈ p, BDq g (d + 1)) (he : ∀ g ∈ e, BDq g d) : BDq (xi k x b f p e) (d + 2) := by
  obtain ⟨o1, o2⟩ := ho;have f2 : ∀ g ∈ f, BDq g (d + 2) := fun g hg => (hf g hg).mono (by omega)
  have f1 : ∀ g ∈ f, BDq g (d + 1) := fun g hg => (hf g hg).mono (by omega)
  have p2 : ∀ g ∈ p, BDq g (d + 2) := fun g hg => (hp g hg).mono (by omega)
  have e2 : ∀ g ∈ e, BDq g (d + 2) := fun g hg => (he g hg).mono (by omega)
  have e1 : ∀ g ∈ e, BDq g (d + 1) := fun g hg => (he g hg).mono (by omega)
  have n2 : BDq [] (d + 2) := BDq.nil (by omega);have n1 : BDq [] (d + 1) := BDq.nil (by omega);have hd : ∀ (l : List (List Tk)), (∀ g ∈ l, BDq g (d + 2)) → BDq (l.headD []) (d + 2) := fun l h => by
    cases l with
    | nil => exact n2
    | cons a q => exact h a (by simp)
  have gl : ∀ (l : List (List Tk)) (z : List Tk), BDq z (d + 2) → (∀ g ∈ l, BDq g (d + 2)) → BDq (l.getLastD z) (d + 2) := fun l => by
    induction l with
    | nil => intro z hz _; exact hz
    | cons a q ih => intro z _ h; rw [List.getLastD_cons]; exact ih a (h a (by simp)) fun g hg => h g (by simp [hg])
  have tl : ∀ g ∈ p.tail, BDq g (d + 1) := fun g hg => hp g (List.mem_of_mem_tail hg)
  have dl : ∀ g ∈ f.dropLast, BDq g (d + 1) := fun g hg => f1 g ((List.dropLast_sublist f).subset hg)
  have cs : ∀ q : List UInt8, (yR q = false ∧ qh q = false) → uk (sg q) := fun q h => zaU h
  have cw : ∀ q : List UInt8, uk (wd q) := fun q => zaL (show ¬ (2 : Int) = 5 by decide)
  have cn : ∀ q : List UInt8, uk (nmT q) := fun q => zaL (show ¬ (1 : Int) = 5 by decide)
  have ct : ∀ q : List UInt8, uk (txT q) := fun q => zaL (show ¬ (4 : Int) = 5 by decide)
  have cu : ∀ q : Int, uk (nuT q) := fun q => zaL (show ¬ (3 : Int) = 5 by decide)
  have s59 := cs [59] (by decide);have s61 := cs [61] (by decide);have s58 := cs [58] (by decide);have s46 := cs [46] (by decide);have s63 := cs [63] (by decide);have s44 := cs [44] (by decide);have R1 : ∀ {f g : List Tk}, BDq f (d + 1) → BDq g (d + 2) → BDq (sg [40] :: (f ++ sg [41] :: g)) (d + 2) := fun h k => BDq.brk (d := d + 1) (by decide) (by decide) (by decide) h (by rw [show d + 1 + 1 = d + 2 by omega]; exact k) |>.mono (by omega)
  have R2 : ∀ {f g : List Tk}, BDq f (d + 1) → BDq g (d + 2) → BDq (sg [91] :: (f ++ sg [93] :: g)) (d + 2) := fun h k => BDq.brk (d := d + 1) (by decide) (by decide) (by decide) h (by rw [show d + 1 + 1 = d + 2 by omega]; exact k) |>.mono (by omega)
  have R3 : ∀ {f g : List Tk}, BDq f (d + 1) → BDq g (d + 2) → BDq (sg [123] :: (f ++ sg [125] :: g)) (d + 2) := fun h k => BDq.brk (d := d + 1) (by decide) (by decide) (by decide) h (by rw [show d + 1 + 1 = d + 2 by omega]; exact k) |>.mono (by omega)
  have R4 : ∀ (x : List UInt8) {g : List Tk}, BDq g (d + 2) → BDq (sg [40] :: nmT x :: sg [41] :: g) (d + 2) := fun x g k => R1 (f := [nmT x]) (BDq.cons (cn x) n1) k
  have R5 : ∀ {a c u g : List Tk}, BDq a (d + 1) → BDq c (d + 1) → BDq u (d + 1) → BDq g (d + 2) → BDq (sg [40] :: (a ++ (c ++ sg [59] :: (u ++ sg [41] :: g)))) (d + 2) := fun {a c u g} h1 h2 h3 h4 => by
    have := R1 (h1.app (h2.app (BDq.cons s59 h3))) h4
    simpa [List.append_assoc] using this
  delta xi
  repeat' (refine BDq.ite (fun hk => ?_) (fun hk => ?_))
  all_goals (try split)
  all_goals repeat' (first
    | assumption
    | exact BDq.flat (by omega) f2
    | exact BDq.flat (by omega) f1
    | exact BDq.flat (by omega) p2
    | exact BDq.comma (by omega) f2
    | exact BDq.comma (by omega) f1
    | exact BDq.comma (by omega) hp
    | exact BDq.comma (by omega) tl
    | exact BDq.comma (by omega) dl
    | exact hd _ p2
    | exact gl _ _ n2 f2
    | refine R4 _ ?_
    | refine R5 ?_ ?_ ?_ ?_
    | refine R1 ?_ ?_
    | refine R2 ?_ ?_
    | refine R3 ?_ ?_
    | refine BDq.cons (cw _) ?_
    | refine BDq.cons (cn _) ?_
    | refine BDq.cons (ct _) ?_
    | refine BDq.cons (cu _) ?_
    | refine BDq.cons s59 ?_
    | refine BDq.cons s61 ?_
    | refine BDq.cons s58 ?_
    | refine BDq.cons s46 ?_
    | refine BDq.cons s63 ?_
    | refine BDq.cons s44 ?_
    | (refine BDq.cons (o1 ?_) ?_; omega)
    | (refine BDq.cons (o2 ?_) ?_; omega)
    | (refine f2 _ ?_; simp; done)
    | (refine f1 _ ?_; simp; done)
    | (refine p2 _ ?_; simp; done)
    | (refine e1 _ ?_; simp; done)
    | (refine e2 _ ?_; simp; done)
    | refine BDq.app ?_ ?_
    | refine BDq.ite (fun _ => ?_) (fun _ => ?_))
theorem zp4 {k : Int} {x : List UInt8} (h : opK k x) : clK k x := ⟨fun hk => by
  have hc := (h.1 hk).2;unfold opT;split
  · exact zaL (show ¬ (2 : Int) = 5 by decide)
  · exact zaU hc, fun hk => zaU (h.2 hk).2⟩
theorem BDq.br {t : Tr} {f : List Tk} {d : Int} (h : BDq f d) : BDq (brT t f) (d + 1) := by
 unfold brT; split
 ·exact h.mono (by omega)
 ·exact BDq.brk (by decide) (by decide) (by decide) h (BDq.nil (by have := h.1; omega))
mutual
theorem zfS : ∀ t : Tr, opN t → BDq (tF t) (2 * (htT t : Int))
 | .node k x b kids, o => by
  rw [opN] at o;have hk := zeF kids o.2;have d0 : (0 : Int) ≤ 2 * (qD kids : Int) := by omega
  rw [zA, htT];have hf : ∀ g ∈ tFs kids, BDq g (2 * (qD kids : Int)) := fun g hg => by
   rw [yv] at hg; obtain ⟨t, ht, rfl⟩ := List.mem_map.1 hg; exact hk t ht
  have hp : ∀ g ∈ tPs kids, BDq g (2 * (qD kids : Int) + 1) := fun g hg => by
   rw [yi] at hg; obtain ⟨t, ht, rfl⟩ := List.mem_map.1 hg; exact (hk t ht).br
  have he : ∀ g ∈ tEs kids, BDq g (2 * (qD kids : Int)) := fun g hg => by
   rw [zcf] at hg; obtain ⟨t, ht, rfl⟩ := List.mem_map.1 hg;unfold eT; split
   ·exact BDq.nil d0
   ·exact hk t ht
  have := zkk (b := b) d0 (zp4 o.1) hf hp he;rw [show 2 * ((qD kids + 1 : Nat) : Int) = 2 * (qD kids : Int) + 2 by omega];exact this
theorem zeF : ∀ l : List Tr, jQ l → ∀ t ∈ l, BDq (tF t) (2 * (qD l : Int))
 | [], _ => fun t h => by cases h
 | t :: l, o => by
  rw [jQ] at o;have e1 := zfS t o.1;have e2 := zeF l o.2;have h1 : htT t ≤ qD (t :: l) := by rw [qD]; omega
  have h2 : qD l ≤ qD (t :: l) := by rw [qD]; omega
  intro u hu;rcases List.mem_cons.1 hu with e | hu
  ·rw [e]; exact e1.mono (by omega)
  ·exact (e2 u hu).mono (by omega)
end
theorem ziC {t : Tr} (o : opN t) (h : htT t ≤ 60) : vQ (tF t) 0 := by
 have := (zfS t o).2 [] 0 (by omega) (by omega) trivial;rw [List.append_nil] at this; exact this
structure NI where
 kind : Int
 n : Int
 size : Int
 text : List UInt8
 bits : Int
def LN.i (l : LN) : NI := ⟨l.kind, l.n, l.size, l.text, l.bits⟩
def szI (L : List NI) (p : Nat) : Int := (L[p]?.map NI.size).getD 0
def kdI (L : List NI) (p : Nat) : Int := (L[p]?.map NI.kind).getD 0
theorem znO {L : List NI} {p : Nat} (h : p < L.length) : szI L p = L[p].size := by unfold szI; rw [List.getElem?_eq_getElem h]; rfl
theorem znP {L : List NI} {p : Nat} (h : p < L.length) : kdI L p = L[p].kind := by unfold kdI; rw [List.getElem?_eq_getElem h]; rfl
def qQ (sz : Nat → Int) (len : Nat) : Nat → Nat → Option (List Nat × Nat)
 | 0, p => some ([], p)
 | n + 1, p => if p < len ∧ 1 ≤ sz p ∧ sz p ≤ (len : Int) - p then (qQ sz len n (p + (sz p).toNat)).map fun q => (p :: q.1, q.2) else none
def yY (L : List NI) (i : Nat) (n : Int) : List Nat × Nat :=
 if n < 0 then ([], 0) else match qQ (szI L) L.length n.toNat (i + 1) with
  | none => ([], 0)
  | some q => (q.1, q.2 - i)
theorem zeQ (sz : Nat → Int) (len : Nat) : ∀ (n p : Nat) (q : List Nat × Nat), p ≤ len → qQ sz len n p = some q → (∀ x ∈ q.1, p ≤ x ∧ x < len) ∧ p + q.1.length ≤ q.2 ∧ q.2 ≤ len ∧ q.1.length = n
 | 0, p, q, hp, h => by
  rw [qQ] at h; injection h with h; subst h
  exact ⟨fun x hx => (by cases hx), zd _, hp, rfl⟩
 | n + 1, p, q, hp, h => by
  rw [qQ] at h;split at h
  ·rename_i hc
   obtain ⟨q', h', rfl⟩ := Option.map_eq_some_iff.1 h;have := zeQ sz len n _ q' (by omega) h';refine ⟨fun x hx => ?_, ?_, this.2.2.1, ?_⟩
   ·rcases List.mem_cons.1 hx with rfl | hx
    ·omega
    ·have := this.1 x hx; omega
   ·simp only [List.length_cons]; have := this.2.1; omega
   ·simp only [List.length_cons]; have := this.2.2.2; omega
  ·cases h
theorem zeR (L : List NI) (i : Nat) (n : Int) (hi : i < L.length) : (∀ x ∈ (yY L i n).1, i < x ∧ x < L.length) ∧ (yY L i n).2 ≤ L.length ∧ (yY L i n).1.length ≤ L.length := by
 unfold yY;split
 ·exact ⟨fun x hx => (by cases hx), Nat.zero_le _, Nat.zero_le _⟩
 ·split
  ·exact ⟨fun x hx => (by cases hx), Nat.zero_le _, Nat.zero_le _⟩
  ·rename_i q hq
   have := zeQ _ _ _ _ q (by omega) hq;exact ⟨fun x hx => by have := this.1 x hx; omega, by show q.2 - i ≤ _; omega, by show q.1.length ≤ _; omega⟩
def opP (L : List NI) : Nat → Nat → Bool
 | 0, _ => false
 | f + 1, i => match L[i]? with
  | none => false
  | some n => if n.kind = 7 ∧ n.n = 2 then true else if n.kind = 7 ∨ n.kind = 8 ∨ n.kind = 10 then (match (yY L i n.n).1.getLast? with | none => false | some j => opP L f j) else false
def zeS (L : List NI) (i : Nat) (x : NI) : Bool :=
 !((yY L i x.n).2 == 0) && (x.size == ((yY L i x.n).2 : Int)) && yB x.kind x.text && ue x.kind x.bits && zP x.kind ((yY L i x.n).1.map fun p => zl (kdI L p)) && (x.kind != 7 || (yY L i x.n).1.length == 2 || (match (yY L i x.n).1[1]? with | none => true | some j => !opP L L.length j))
def LI (L : List LN) : List NI := L.map LN.i
theorem jb (L : List LN) : (LI L).length = L.length := by simp [LI]
end Go.Proofs.YtfcgpphodacdmaaGreatDoor
namespace Go.Proofs.YtfcgpphodacdmaaGreatDoor
open Go.RowKit
theorem zag : (Tryz.prog.info? 3).map (fun i => (i.zero, i.size, i.bytes)) = some (some (.int .i64 0), 1, 8) := by kernel_rfl
def LN.val (l : LN) : Value := .agg #[.int .i64 l.kind, .int .i64 (l.n : Int), .int .i64 (l.size : Int), .string (bs l.text), .int .u64 l.bits]
def xf (w : World) (v : Value) (L : List LN) : Prop :=
 (L = [] ∧ ∃ ao cap, v = .slice ao 0 cap) ∨ ∃ g cap, g < w.heap.size ∧ v = .slice (some ⟨g, 0, none⟩) L.length cap ∧ ∀ (i : Nat) (h : i < L.length), w.cell? ⟨g, i * 5, none⟩ = some (.int .i64 L[i].kind) ∧ w.cell? ⟨g, i * 5 + 1, none⟩ = some (.int .i64 (L[i].n : Int)) ∧ w.cell? ⟨g, i * 5 + 2, none⟩ = some (.int .i64 (L[i].size : Int)) ∧ w.cell? ⟨g, i * 5 + 3, none⟩ = some (.string (bs L[i].text)) ∧ w.cell? ⟨g, i * 5 + 4, none⟩ = some (.int .u64 L[i].bits)
theorem xf.below {w w' : World} {v : Value} {L : List LN} (h : xf w v L) (hb : Below w.heap.size w w') : xf w' v L := by
 rcases h with h | ⟨g, cap, hg, hv, hc⟩
 ·exact .inl h
 ·refine .inr ⟨g, cap, Nat.lt_of_lt_of_le hg hb.size, hv, fun i hi => ?_⟩;obtain ⟨h0, h1, h2, h3, h4⟩ := hc i hi;exact ⟨(hb.cell (p := ⟨g, _, none⟩) hg).trans h0, (hb.cell (p := ⟨g, _, none⟩) hg).trans h1, (hb.cell (p := ⟨g, _, none⟩) hg).trans h2, (hb.cell (p := ⟨g, _, none⟩) hg).trans h3, (hb.cell (p := ⟨g, _, none⟩) hg).trans h4⟩
theorem xf.slice {w : World} {v : Value} {L : List LN} (h : xf w v L) : ∃ ao cap, v = .slice ao L.length cap := by
 rcases h with ⟨rfl, ao, cap, h⟩ | ⟨g, cap, _, h, _⟩
 ·exact ⟨ao, cap, h⟩
 ·exact ⟨_, cap, h⟩
theorem xf.get {w : World} {ao : Option Addr} {cap : Nat} {L : List LN} (h : xf w (.slice ao L.length cap) L) (hl : 0 < L.length) : ∃ g, ao = some ⟨g, 0, none⟩ ∧ g < w.heap.size ∧ ∀ (i : Nat) (h : i < L.length), w.cell? ⟨g, i * 5, none⟩ = some (.int .i64 L[i].kind) ∧ w.cell? ⟨g, i * 5 + 1, none⟩ = some (.int .i64 (L[i].n : Int)) ∧ w.cell? ⟨g, i * 5 + 2, none⟩ = some (.int .i64 (L[i].size : Int)) ∧ w.cell? ⟨g, i * 5 + 3, none⟩ = some (.string (bs L[i].text)) ∧ w.cell? ⟨g, i * 5 + 4, none⟩ = some (.int .u64 L[i].bits) := by
 rcases h with ⟨h, _⟩ | ⟨g, cap', hg, hv, hc⟩
 ·rw [h] at hl; exact absurd hl (Nat.lt_irrefl 0)
 ·injection hv with h1 _ _;exact ⟨g, h1, hg, hc⟩
theorem zio : ∀ (L : List LN) (i k : Nat) (h : i < L.length), k < 5 → (qf L)[i * 5 + k]? = (L[i].cells)[k]? := by
 intro L
 induction L with
 | nil => intro i k h; simp at h
 | cons l r ih =>
  intro i k h hk;have e : qf (l :: r) = l.cells ++ qf r := by simp [qf]
  have h5 : l.cells.length = 5 := rfl;rw [e];cases i with
  | zero => rw [Nat.zero_mul, Nat.zero_add, List.getElem?_append_left (by omega)]; rfl
  | succ i =>
   rw [List.getElem?_append_right (by omega), h5, show (i + 1) * 5 + k - 5 = i * 5 + k by omega, ih i k (by simpa using h) hk];rfl
theorem xf.own {w : World} {B : Nat} {v : Value} {L : List LN} (h : w.ownsRow B 40 5 v L.length (qf L)) : xf w v L := by
 obtain ⟨ao, cap, rfl⟩ := yb h;by_cases h0 : L.length = 0
 ·exact .inl ⟨List.eq_nil_of_length_eq_zero h0, ao, cap, by rw [h0]⟩
 ·obtain ⟨g, cp, hv, hg1, hg2⟩ := h.form (by omega);injection hv with hv _ _;subst hv;refine .inr ⟨g, cap, hg2, rfl, fun i hi => ?_⟩;have c := fun k (hk : k < 5) => (h.cellAt (i * 5 + k) (by omega)).trans (zio L i k hi hk)
  exact ⟨c 0 (by omega), c 1 (by omega), c 2 (by omega), c 3 (by omega), c 4 (by omega)⟩
def vj (s : List Nat) : List Value := s.reverse.map fun (n : Nat) => Value.int .i64 (n : Int)
theorem uu (x : Nat) (s : List Nat) : vj (x :: s) = vj s ++ [.int .i64 (x : Int)] := by simp [vj]
theorem zep {w : World} {B g n cap : Nat} {x : Nat} {r : List Nat} (hn : n = r.length + 1) (h : w.ownsRow B 3 1 (.slice (some ⟨g, 0, none⟩) n cap) n (vj (x :: r))) : w.cell? ⟨g, r.length, none⟩ = some (.int .i64 (x : Int)) := by
 subst hn;have := h.cellAt r.length (by omega);rw [this, uu, List.getElem?_append_right (by simp [vj]), show r.length - (vj r).length = 0 by simp [vj]]; rfl
theorem zfN {w : World} {B g n cap size : Nat} {e : TypeId} {xs : List Value} (h : w.ownsRow B e size (.slice (some ⟨g, 0, none⟩) n cap) n xs) : n ≤ cap := by
 rcases h.2 with ⟨h1, _⟩ | ⟨g', cap', cur, h1, _, _, h2, _⟩
 ·cases h1
 ·injection h1 with _ _ h1; omega
theorem zj1 (x u : Nat) (r : List Nat) : (vj (x :: r)).set r.length (.int .i64 (u : Int)) = vj (u :: r) := by
 rw [uu, uu, List.set_append_right _ _ (by simp [vj]), show r.length - (vj r).length = 0 by simp [vj]]; rfl
theorem zj2 (s : List Nat) : (vj s).length = s.length := by simp [vj]
theorem zgS (w : World) (v : Value) (L : List LN) (h : xf w v L) (hl : L.length ≤ 100000) (hn : ∀ l ∈ L, l.n < 1000000) :
  Calls Tryz.prog 27 #[v] w fun e w' => e = .returned (.int .i64 ((vB (L.map LN.n) 0 [] : Nat) : Int)) ∧ Below w.heap.size w w' := by
 obtain ⟨ao, cp, rfl⟩ := h.slice;have HN := za h;obtain ⟨i0, hi, hz0, hz1', hz2⟩ := info_parts zag;have HI := za hi;have HZ0 := za hz0;have HZ1 := za hz1';have HZ2 := za hz2;have HNN := za hn;clear h hi hz0 hz1' hz2 hn;obtain ⟨G, hG⟩ : ∃ G : Nat, G = vB (L.map LN.n) 0 [] := ⟨_, rfl⟩;rw [← hG];have HG := za hG;clear hG
 go_enter Tryz.func27, Tryz.ntmps27
 go_wp2_with fail
 go_loopg [3, 4, 9] L.length (fun g hh ll ii wr => ∃ (i m : Nat) (s : List Nat), hh = .int .i64 (m : Int) ∧ ii = .int .i64 (i : Int) ∧ g = L.length - i ∧ i ≤ L.length ∧ s.length ≤ i ∧ m ≤ i ∧ Hid (∀ x ∈ s, 1 ≤ x ∧ x < 1000000) ∧ Hid (wr.ownsRow w.heap.size 3 1 ll s.length (vj s)) ∧ Hid (Below w.heap.size w wr) ∧ Hid (G = vB ((L.drop i).map LN.n) m s))
 case atStart => exact ⟨0, 0, [], rfl, rfl, rfl, Nat.zero_le _, Nat.zero_le _, Nat.zero_le _, fun x hx => (by simp at hx), World.ownsRow_nil _ _ _ _, ze _ _, HG.out⟩
 case round =>
  obtain ⟨i, m, s, rfl, rfl, rfl, hi, hsi, hmi, HS, HR, HB, HGG⟩ := hrel;obtain ⟨ao2, cp2, rfl⟩ := yb HR.out;by_cases hlt : i < L.length
  ·have HNB := HN.out.below HB.out;obtain ⟨g, rfl, hg, hc⟩ := HNB.get (by omega);obtain ⟨c0, c1, c2, c3, c4⟩ := hc i hlt;clear hc HNB;have hni := HNN.out L[i] (List.getElem_mem hlt);have hdr : L.drop i = L[i] :: L.drop (i + 1) := List.drop_eq_getElem_cons hlt;generalize hq : L[i] = q at *;obtain ⟨qk, qn, qs, qx, qb⟩ := q;simp only at c0 c1 c2 c3 c4 hni;have HDR := za hdr;have HQ := za hq;clear hdr hq;have hown := HR.out;have hi := HI.out;have hz0 := HZ0.out;have hz1 := HZ1.out;have hz2 := HZ2.out;have hsz : w.heap.size ≤ wr.heap.size := HB.out.size;go_wp2_with (at_builtin; refine wpList_append_own _ rfl _ _ 45 rfl w.heap.size 3 i0 _ 1 8 Tryz.underlying45 hi hz0 hz1 hz2 rfl (by decide) _ _ _ rfl ((hown.alloc _).alloc _) ⟨wr.heap.size + 1, 0, none⟩ 1 1 [.int .i64 (qn : Int)] rfl rfl ?c1 ?c2 ?c3 ?c4 ?c5 ?_)
   case c1 =>
    intro j u hj
    match j, hj with
    | 0, hj => simp at hj; subst hj; simp [Addr.add]
   case c2 => intro u hu; simp at hu; subst hu; rfl
   case c3 => unfold maxLen; omega
   case c4 => omega
   case c5 => simp; omega
   intro v' w3 hown' hgrow _;have hbel : Below w.heap.size wr w3 := (((ze _ wr).alloc hsz _).alloc (by simp; omega) _).grown hgrow (by simp; omega) (fun k hk => (hown.lt k hk).1);have HB3 := za (HB.out.trans hbel);rw [← uu] at hown';have HW3 := za hown';obtain ⟨ao3, cp3, rfl⟩ := yb hown';clear hown' hgrow hbel hown hi hz0 hz1 hz2 c0 c1 c2 c3 c4 hg;have HG3 : Hid (G = vB ((L.drop (i + 1)).map LN.n) (max m (s.length + 1)) (vA (qn :: s))) := by
    show _ = _; rw [HGG.out, HDR.out, List.map_cons, vB]
   have HS3 : Hid (∀ x ∈ (qn :: s), x < 1000000) := fun x hx => by
    rcases List.mem_cons.1 hx with rfl | hx
    ·exact hni
    ·exact (HS.out x hx).2
   have HS4 : Hid (∀ x ∈ (qn :: s).tail, 1 ≤ x) := fun x hx => (HS.out x hx).1
   clear HGG HR HB HDR HQ hsz;go_wp2_with fail
   all_goals
    go_loopg [4] (s.length + 1) (fun g2 ll2 wr2 => ∃ (cur : List Nat), g2 = cur.length ∧ cur.length ≤ i + 1 ∧ Hid (∀ x ∈ cur, x < 1000000) ∧ Hid (∀ x ∈ cur.tail, 1 ≤ x) ∧ Hid (wr2.ownsRow w.heap.size 3 1 ll2 cur.length (vj cur)) ∧ Hid (Below w.heap.size w wr2) ∧ Hid (vA cur = vA (qn :: s)))
    case atStart => exact ⟨qn :: s, rfl, by simp; omega, HS3.out, HS4.out, HW3.out, HB3.out, rfl⟩
    case round =>
     obtain ⟨cur, rfl, hcl, C3, C4, CW, CB, CP⟩ := hrel;obtain ⟨ao4, cp4, rfl⟩ := yb CW.out;cases cur with
     | nil =>
      go_wp2_with fail
      go_roundg (L.length - (i + 1))
      case measure => omega
      case rel => exact ⟨i + 1, max m (s.length + 1), [], by congr 1; omega, rfl, rfl, hlt, Nat.zero_le _, by omega, fun x hx => (by simp at hx), CW.out, CB.out, by have := HG3.out; rw [← CP.out, vA] at this; exact this⟩
     | cons x r =>
      have hx := C3.out x List.mem_cons_self;obtain ⟨g4, cp5, hv, hg4, hg5⟩ := CW.out.form (by simp);injection hv with hv _ hv2;subst hv; subst hv2;have cx := zep (by simp) CW.out;rw [List.length_cons] at CW hcl;cases x with
      | succ x =>
       have hx1 : ¬ ((x : Int) + 1) < 1 := by omega
       go_wp2_with fail
       go_roundg (L.length - (i + 1))
       case measure => omega
       case rel => exact ⟨i + 1, max m (s.length + 1), (x + 1) :: r, by congr 1; omega, rfl, rfl, hlt, by rw [List.length_cons]; omega, by omega, fun y hy => (by rcases List.mem_cons.1 hy with rfl | hy; exact ⟨by omega, hx⟩; exact ⟨C4.out y hy, C3.out y (List.mem_cons_of_mem _ hy)⟩), CW.out, CB.out, by have := HG3.out; rw [← CP.out, vA] at this; exact this⟩
      | zero =>
       have hcap := zfN CW.out;have hpop1 := ownsRow_pop (w := wr) (n := r.length) (xs := vj r) (last := [.int .i64 ((0 : Nat) : Int)]) (by rw [zj2, Nat.mul_one]) (by rw [← uu]; exact CW.out);have HP1 := za hpop1;clear hpop1;cases r with
       | nil =>
        have hcap0 : (0 : Int) ≤ (cp4 : Int) := by omega
        have hcap1 : ¬ cp4 = 0 := by have h2 : 0 + 1 ≤ cp4 := hcap; omega
        have cx0 : wr.cell? ⟨g4, 0, none⟩ = some (.int .i64 0) := cx;go_wp2_with fail
        go_roundg 0
        case measure => simp
        case rel => exact ⟨[], rfl, Nat.zero_le _, fun x hx => (by simp at hx), fun x hx => (by simp at hx), HP1.out, CB.out, by have := CP.out; rw [vA] at this; rw [vA]; exact this⟩
       | cons y q =>
        have cy := zep (by simp) HP1.out;have fy : wr.frozen? ⟨g4, q.length, none⟩ = false := HP1.out.frozenAt _;have hy := C4.out y List.mem_cons_self;have hy2 := C3.out y (List.mem_cons_of_mem _ List.mem_cons_self);simp only [List.length_cons] at CW hcl HP1 cx cy hcap;have hcap0 : (q.length : Int) + 1 ≤ (cp4 : Int) := by omega
        have hcap1 : ¬ cp4 = 0 := by omega
        go_wp2_with fail;have hst := (HP1.out.stored q.length (.int .i64 ((y - 1 : Nat) : Int))).1;rw [zj1, show ((y - 1 : Nat) : Int) = (y : Int) - 1 by omega] at hst
        go_roundg (q.length + 1)
        case measure => omega
        case rel => exact ⟨(y - 1) :: q, rfl, by simp only [List.length_cons]; omega, fun z hz => (by rcases List.mem_cons.1 hz with rfl | hz; omega; exact C3.out z (List.mem_cons_of_mem _ (List.mem_cons_of_mem _ hz))), fun z hz => C4.out z (List.mem_cons_of_mem _ hz), hst, CB.out.setCell hg4 _, by have := CP.out; rw [vA] at this; exact this⟩
  ·go_wp2_with fail;have he : i = L.length := by omega
   subst he;have hgg := HGG.out;rw [List.drop_length, List.map_nil, vB] at hgg;subst hgg;go_ret;exact ⟨rfl, HB.out⟩
mutual
theorem zbV : ∀ (t : Tr) (l : LN), l ∈ zp t → l.n ≤ (zp t).length ∧ l.size ≤ (zp t).length
 | .node k x b kids, l, h => by
  rw [zp] at h ⊢;rw [List.length_cons];rcases List.mem_cons.1 h with rfl | h
  ·refine ⟨?_, zd _⟩;show kids.length ≤ _
   have := zcQ kids; omega
  ·have := zfU kids l h; omega
theorem zfU : ∀ (ts : List Tr) (l : LN), l ∈ zs ts → l.n ≤ (zs ts).length ∧ l.size ≤ (zs ts).length
 | [], l, h => by simp [zs] at h
 | t :: r, l, h => by
  rw [zs, List.length_append];rw [zs] at h;rcases List.mem_append.1 h with h | h
  ·have := zbV t l h; omega
  ·have := zfU r l h; omega
theorem zcQ : ∀ l : List Tr, l.length ≤ (zs l).length
 | [] => zd _
 | t :: l => by rw [zs, List.length_append, List.length_cons]; have := zcQ l; have := yk t; omega
end
theorem za4 (w : World) (v : Value) (t : Tr) (h : xf w v (zp t)) (hl : (zp t).length ≤ 100000) :
  Calls Tryz.prog 27 #[v] w fun e w' => e = .returned (.int .i64 ((htT t : Nat) : Int)) ∧ Below w.heap.size w w' := by
 have := zgS w v (zp t) h hl fun l hm => by have := zbV t l hm; omega
 rw [zjf] at this;exact this
def qA (l : List Nat) : List Value := l.map fun (n : Nat) => Value.int .i64 (n : Int)
theorem zbW (l : List Nat) (x : Nat) : qA (l ++ [x]) = qA l ++ [.int .i64 (x : Int)] := by simp [qA]
theorem zmg {L : List LN} {p : Nat} (h : p < L.length) : ux L p = L[p].size := by unfold ux; rw [List.getElem?_eq_getElem h]; rfl
theorem xC (w : World) (v : Value) (L : List LN) (h : xf w v L) (hl : L.length ≤ 100000) (hn : ∀ l ∈ L, l.n < 1000000 ∧ l.size < 1000000) (i : Nat) (hi : i < L.length) :
  Calls Tryz.prog 38 #[v, .int .i64 (i : Int)] w fun e w' => ∃ v', e = .returned v' ∧ w'.ownsRow w.heap.size 3 1 v' (kidsF (ux L) L.length L[i].n (i + 1)).length (qA (kidsF (ux L) L.length L[i].n (i + 1))) ∧ Below w.heap.size w w' := by
 obtain ⟨ao, cp, rfl⟩ := h.slice;obtain ⟨g, rfl, hg, hc⟩ := h.get (by omega);obtain ⟨i0, hi0, hz0, hz1', hz2⟩ := info_parts zag;have HI := za hi0;have HZ0 := za hz0;have HZ1 := za hz1';have HZ2 := za hz2;have HNN := za hn;have c1 := (hc i hi).2.1;have HC := za hc;have hni := (hn _ (List.getElem_mem hi)).1;generalize L[i].n = N at *;obtain ⟨G, hG⟩ : ∃ G, G = kidsF (ux L) L.length N (i + 1) := ⟨_, rfl⟩;rw [← hG];have HG := za hG;clear hG;clear h hi0 hz0 hz1' hz2 hn hc;have hi1 : ¬ (i : Int) < 0 := by omega
 have hi2 : ¬ (L.length : Int) ≤ (i : Int) := by omega
 go_enter Tryz.func38, Tryz.ntmps38
 go_wp2_with fail
 go_loopg [5, 6, 7] N (fun gg kk aa nn wr => ∃ (n p : Nat) (acc : List Nat), aa = .int .i64 (p : Int) ∧ nn = .int .i64 (n : Int) ∧ gg = n ∧ n < 1000000 ∧ p ≤ L.length ∧ acc.length ≤ p ∧ Hid (wr.ownsRow w.heap.size 3 1 kk acc.length (qA acc)) ∧ Hid (Below w.heap.size w wr) ∧ Hid (G = acc ++ kidsF (ux L) L.length n p))
 case atStart => exact ⟨N, i + 1, [], by simp, rfl, rfl, hni, hi, Nat.zero_le _, World.ownsRow_nil _ _ _ _, ze _ _, HG.out⟩
 case round =>
  obtain ⟨n, p, acc, rfl, rfl, rfl, hn1, hp1, ha1, HR, HB, HGG⟩ := hrel;obtain ⟨ao2, cp2, rfl⟩ := yb HR.out;cases gk with
  | zero =>
   have hgg := HGG.out;rw [kidsF, List.append_nil] at hgg;subst hgg;go_wp2_with fail;go_ret;exact ⟨_, rfl, HR.out, HB.out⟩
  | succ n =>
   have hn0 : (0 : Int) < (n : Int) + 1 := by omega
   by_cases hlt : p < L.length
   ·have hcp := HC.out p hlt;have hsz := (HNN.out _ (List.getElem_mem hlt)).2;have hgs : kidsF (ux L) L.length (n + 1) p = p :: (if L[p].size < 1 ∨ L.length - p < L[p].size then [] else kidsF (ux L) L.length n (p + L[p].size)) := by rw [kidsF, if_pos hlt, zmg hlt]
    have c2 := hcp.2.2.1;generalize L[p].size = z at *;have HGS := za hgs;clear hgs hcp;have hown := HR.out;have hi := HI.out;have hz0 := HZ0.out;have hz1 := HZ1.out;have hz2 := HZ2.out;have hsz2 : w.heap.size ≤ wr.heap.size := HB.out.size;go_wp2_with (at_builtin; refine wpList_append_own _ rfl _ _ 45 rfl w.heap.size 3 i0 _ 1 8 Tryz.underlying45 hi hz0 hz1 hz2 rfl (by decide) _ _ _ rfl (hown.alloc _) ⟨wr.heap.size, 0, none⟩ 1 1 [.int .i64 (p : Int)] rfl rfl ?c1 ?c2 ?c3 ?c4 ?c5 ?_)
    case c1 =>
     intro j u hj
     match j, hj with
     | 0, hj => simp at hj; subst hj; simp [Addr.add]
    case c2 => intro u hu; simp at hu; subst hu; rfl
    case c3 => unfold maxLen; omega
    case c4 => omega
    case c5 => simp; omega
    intro v' w3 hown' hgrow _;have hbel : Below w.heap.size wr w3 := ((ze _ wr).alloc hsz2 _).grown hgrow (by simp; omega) (fun k hk => (hown.lt k hk).1);have HB3 := za (HB.out.trans hbel);rw [← zbW] at hown';have HW3 := za hown';obtain ⟨ao3, cp3, rfl⟩ := yb hown';have d2 : w3.cell? ⟨g, p * 5 + 2, none⟩ = some (.int .i64 (z : Int)) := (HB3.out.cell (p := ⟨g, _, none⟩) hg).trans c2;clear hown' hgrow hbel hown hi hz0 hz1 hz2 c2;by_cases hz : z < 1 ∨ L.length - p < z
    ·have hgg := HGG.out;rw [HGS.out, if_pos hz] at hgg;subst hgg;have hlen : (acc ++ [p]).length = acc.length + 1 := by simp
     have hz1 : (z : Int) < 1 ∨ (¬ (z : Int) < 1 ∧ (L.length : Int) - (p : Int) < (z : Int)) := by omega
     rcases hz1 with hz1 | ⟨hz1, hz2⟩
     ·go_wp2_with fail;go_ret;exact ⟨_, rfl, by first | exact HW3.out | (rw [hlen]; exact HW3.out), HB3.out⟩
     ·go_wp2_with fail;go_ret;exact ⟨_, rfl, by first | exact HW3.out | (rw [hlen]; exact HW3.out), HB3.out⟩
    ·have hgg := HGG.out;rw [HGS.out, if_neg hz] at hgg;have HGG2 := za hgg;clear hgg;have hz1 : ¬ (z : Int) < 1 := by omega
     have hz2 : ¬ (L.length : Int) - (p : Int) < (z : Int) := by omega
     go_wp2_with fail
     go_roundg n
     case measure => omega
     case rel => exact ⟨n, p + z, acc ++ [p], by simp, by simp, rfl, by omega, by omega, by simp; omega, by have := HW3.out; rw [List.length_append]; exact this, HB3.out, by show _ = _; rw [HGG2.out, List.append_assoc]; rfl⟩
   ·have hgg := HGG.out;rw [kidsF, if_neg hlt, List.append_nil] at hgg;subst hgg;have he : p = L.length := by omega
    subst he;go_wp2_with fail;go_ret;exact ⟨_, rfl, HR.out, HB.out⟩
end Go.Proofs.YtfcgpphodacdmaaGreatDoor
