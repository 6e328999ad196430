/- Part of a proof: contracts of functions. -/
import Derived.Test.YtfcgpphodacdmaaGreatDoorY34
import Derived.Test.YtfcgpphodacdmaaGreatDoorY31
import Derived.Test.YtfcgpphodacdmaaGreatDoorY32
import Derived.Test.YtfcgpphodacdmaaGreatDoorY33
import Derived.Test.YtfcgpphodacdmaaGreatDoorY11
import Derived.Test.YtfcgpphodacdmaaGreatDoorY24
import Derived.Test.YtfcgpphodacdmaaGreatDoorJsh
import Derived.Test.YtfcgpphodacdmaaGreatDoorY19
set_option maxRecDepth 100000
set_option maxHeartbeats 4000000
set_option linter.all false
namespace Go.Proofs.YtfcgpphodacdmaaGreatDoor
open Go.RowKit
theorem zf7 {w : World} {B g n cap : Nat} {l : List Nat} (h : w.ownsRow B 3 1 (.slice (some ⟨g, 0, none⟩) n cap) n (qA l)) (hn : n = l.length) (j : Nat) (hj : l.getLast? = some j) : w.cell? ⟨g, n - 1, none⟩ = some (.int .i64 (j : Int)) := by
 subst hn;rw [List.getLast?_eq_getElem?] at hj;have hl : l.length - 1 < l.length := by
  rcases Nat.lt_or_ge (l.length - 1) l.length with h | h
  ·exact h
  ·rw [List.getElem?_eq_none h] at hj; cases hj
 rw [List.getElem?_eq_getElem hl] at hj;injection hj with hj;rw [h.cellAt (l.length - 1) (by omega)];simp [qA, hl, hj]
theorem zf8 (w : World) (v : Value) (L : List NI) (h : NRi w v L) (hl : L.length ≤ 100000) (hn : zaQ L) (i : Nat) (hi : i < L.length) (f : Nat) (hf : L.length - i ≤ f) :
  Calls Tryz.prog 65 #[v, .int .i64 (i : Int)] w fun e w' => e = .returned (.bool (opP L f i)) ∧ Below w.heap.size w w' := by
 obtain ⟨ao, cp, rfl⟩ := h.slice;obtain ⟨g, rfl, hg, hc⟩ := h.get (by omega);have KO := za (fun (w1 : World) (hb : Below w.heap.size w w1) j hj => zbT w1 _ L (h.below hb) hl hn j hj);have HC := za hc;obtain ⟨G, hG⟩ : ∃ G, G = opP L f i := ⟨_, rfl⟩;rw [← hG];have HG := za hG;clear h hc hG hn
 go_enter Tryz.func65, Tryz.ntmps65
 go_wp2_with fail
 go_loopg [1, 4, 5, 6] f (fun gg jj rr kk ss wr => ∃ j : Nat, jj = .int .i64 (j : Int) ∧ rr = .bool false ∧ j < L.length ∧ L.length - j ≤ gg ∧ Hid (Below w.heap.size w wr) ∧ Hid (G = opP L gg j))
 case atStart => exact ⟨i, rfl, rfl, hi, hf, ze _ _, HG.out⟩
 case round =>
  obtain ⟨j, rfl, rfl, hj, hjf, HB, HGG⟩ := hrel;cases gk with
  | zero => exfalso; omega
  | succ F =>
   obtain ⟨q0, q1, q2, q3, q4⟩ := HC.out j hj;have c0 := (HB.out.cell (p := ⟨g, j * 5, none⟩) hg).trans q0;have c1 := (HB.out.cell (p := ⟨g, j * 5 + 1, none⟩) hg).trans q1;have hgg := HGG.out;rw [opP, List.getElem?_eq_getElem hj] at hgg;simp only at hgg;have KJ := za (KO.out wr HB.out j hj);have hkl := zeR L j L[j].n hj;generalize hK : yY L j L[j].n = K at *;generalize L[j].kind = k at *;generalize L[j].n = N at *;obtain ⟨ks, sz⟩ := K;simp only at hgg hkl;have HKL := za hkl;clear q0 q1 q2 q3 q4 hkl hK;have hj0 : ¬ (j : Int) < 0 := by omega
   have hj1 : ¬ (L.length : Int) ≤ (j : Int) := by omega
   -- the way on
   by_cases h7 : k = 7 ∧ N = 2
   ·obtain ⟨rfl, rfl⟩ := h7;rw [if_pos ⟨rfl, rfl⟩] at hgg;subst hgg;go_wp2_with fail;go_ret;exact ⟨rfl, HB.out⟩
   ·rw [if_neg h7] at hgg;by_cases hk : k = 7 ∨ k = 8 ∨ k = 10
    ·rw [if_pos hk] at hgg;have e7 : (k == 7) = decide (k = 7) := by by_cases h : k = 7 <;> simp [h]
     have hN : k = 7 → (N == 2) = false := fun h => beq_eq_false_iff_ne.2 fun e => h7 ⟨h, e⟩
     have HGG2 := za hgg;clear hgg h7;rcases hk with rfl | rfl | rfl
     all_goals
      (try have hN2 := hN rfl)
      clear hN e7;go_wp2_with fail;refine KJ.out.mono ?_;rintro e w2 ⟨kv, rfl, hko, hB2⟩;have HKO := za hko;have HB2 := za (HB.out.trans (hB2.mono HB.out.size));obtain ⟨ak, ck, rfl⟩ := yb hko;clear hko hB2;cases hlast : ks.getLast? with
      | none =>
       have hks : ks = [] := List.getLast?_eq_none_iff.1 hlast;subst hks;have hgf : G = false := HGG2.out;subst hgf;go_wp2_with fail;go_ret;exact ⟨rfl, HB2.out⟩
      | some m =>
       have hgf : G = opP L F m := by have := HGG2.out; rw [hlast] at this; exact this
       have HGF := za hgf;clear hgf;have hne : 0 < ks.length := by
        cases ks
        ·cases hlast
        ·exact Nat.succ_pos _
       have hmem : m ∈ ks := List.mem_of_getLast? hlast;have hm := HKL.out.1 m hmem;have hkl := HKL.out.2.2;obtain ⟨gk2, ck2, hv, hgk1, hgk2⟩ := HKO.out.form (by omega);injection hv with hv _ hv2;subst hv; subst hv2;have cj := zf7 HKO.out rfl m hlast;have hz : ((ks.length : Int) == 0) = false := beq_eq_false_iff_ne.2 (by omega);obtain ⟨u, hu⟩ : ∃ u, ks.length = u + 1 := ⟨ks.length - 1, by omega⟩;rw [hu] at hz cj hkl ⊢;rw [show u + 1 - 1 = u from rfl] at cj;clear hlast hmem hne hu;go_wp2_with fail
       go_roundg F
       case measure => omega
       case rel => exact ⟨m, rfl, rfl, hm.2, by omega, HB2.out, HGF.out⟩
    ·rw [if_neg hk] at hgg;subst hgg;have e7 : (k == 7) = false := beq_eq_false_iff_ne.2 fun e => hk (.inl e)
     have e8 : (k == 8) = false := beq_eq_false_iff_ne.2 fun e => hk (.inr (.inl e))
     have e10 : (k == 10) = false := beq_eq_false_iff_ne.2 fun e => hk (.inr (.inr e))
     clear hk h7;go_wp2_with fail;go_ret;exact ⟨rfl, HB.out⟩
end Go.Proofs.YtfcgpphodacdmaaGreatDoor
namespace Go.Proofs.YtfcgpphodacdmaaGreatDoor
def wS (kids : List Tr) : Nat := (kids.map fun t => (fB t).length + 4).sum
theorem vd (t : Tr) : (pB t).length ≤ (fB t).length + 2 := by
 unfold pB brB; split
 ·omega
 ·simp
theorem zdx (t : Tr) : (eB t).length ≤ (fB t).length + 1 := by
 unfold eB; split
 ·simp
 ·simp
theorem qC (t : Tr) (l : List Tr) : wS (t :: l) = (fB t).length + 4 + wS l := by simp [wS]
theorem vO : ∀ l : List Tr, (zE (l.map fB)).length ≤ wS l
 | [] => by simp [zE]
 | [t] => by rw [qC]; show (fB t).length ≤ _; omega
 | t :: u :: l => by
  have := vO (u :: l);rw [qC];show (fB t ++ ([44, 32] ++ zE ((u :: l).map fB))).length ≤ _
  simp only [List.length_append, List.length_cons, List.length_nil]; omega
theorem jF : ∀ l : List Tr, (zE (l.map pB)).length ≤ wS l
 | [] => by simp [zE]
 | [t] => by rw [qC]; have := vd t; show (pB t).length ≤ _; omega
 | t :: u :: l => by
  have := jF (u :: l);have h1 := vd t;rw [qC];show (pB t ++ ([44, 32] ++ zE ((u :: l).map pB))).length ≤ _
  simp only [List.length_append, List.length_cons, List.length_nil]; omega
theorem jG (s : List UInt8) (hs : s.length ≤ 4) : ∀ l : List Tr, (yw s (l.map fB)).length ≤ wS l
 | [] => by simp [yw]
 | t :: l => by
  have := jG s hs l;rw [qC];have e : yw s ((t :: l).map fB) = (fB t ++ s) ++ yw s (l.map fB) := by simp [yw]
  rw [e]; simp only [List.length_append]; omega
theorem zmO (l : List Tr) : ((l.map fB).headD []).length ≤ wS l := by
 cases l with
 | nil => simp
 | cons t l => rw [qC]; show (fB t).length ≤ _; omega
theorem zmP (l : List Tr) : ((l.map pB).headD []).length ≤ wS l := by
 cases l with
 | nil => simp
 | cons t l => rw [qC]; have := vd t; show (pB t).length ≤ _; omega
theorem zmQ (l : List Tr) : ((l.map pB).headD []).length + (zE (l.map pB).tail).length ≤ wS l := by
 cases l with
 | nil => simp [zE]
 | cons t l => rw [qC]; have := vd t; have := jF l; show (pB t).length + (zE (l.map pB)).length ≤ _; omega
theorem zmR : ∀ (l : List Tr), (zE (l.map fB).dropLast).length + ((l.map fB).getLastD []).length ≤ wS l := fun l => by
 by_cases h : l = []
 ·subst h; simp [zE]
 ·obtain ⟨m, t, rfl⟩ : ∃ m t, l = m ++ [t] := ⟨l.dropLast, l.getLast h, (List.dropLast_concat_getLast h).symm⟩;have e : (m ++ [t]).map fB = m.map fB ++ [fB t] := by rw [List.map_append]; rfl
  have h2 : wS (m ++ [t]) = wS m + ((fB t).length + 4) := by simp [wS]
  have h3 := vO m;rw [e, h2];have e1 : (m.map fB ++ [fB t]).dropLast = m.map fB := by simp
  have e2 : (m.map fB ++ [fB t]).getLastD [] = fB t := by simp
  rw [e1, e2]; omega
theorem ln2 {α : Type} {l : List Tr} {F : Tr → α} {a c : α} (h : l.map F = [a, c]) : ∃ t u, l = [t, u] ∧ F t = a ∧ F u = c := by
 match l, h with
 | [t, u], h => simp only [List.map_cons, List.map_nil, List.cons.injEq, and_true] at h; exact ⟨t, u, rfl, h⟩
theorem ln3 {α : Type} {l : List Tr} {F : Tr → α} {a c d : α} (h : l.map F = [a, c, d]) : ∃ t u v, l = [t, u, v] ∧ F t = a ∧ F u = c ∧ F v = d := by
 match l, h with
 | [t, u, v], h => simp only [List.map_cons, List.map_nil, List.cons.injEq, and_true] at h; exact ⟨t, u, v, rfl, h⟩
theorem ln4 {α : Type} {l : List Tr} {F : Tr → α} {a c d e : α} (h : l.map F = [a, c, d, e]) : ∃ t u v y, l = [t, u, v, y] ∧ F t = a ∧ F u = c ∧ F v = d ∧ F y = e := by
 match l, h with
 | [t, u, v, y], h => simp only [List.map_cons, List.map_nil, List.cons.injEq, and_true] at h; exact ⟨t, u, v, y, rfl, h⟩
theorem zdy {x : List UInt8} {M : Nat} (h : x.length ≤ M) : (yf x).length ≤ 6 * M + 30 := zim (t := txT x) h
theorem zhA (b : Int) : (vZ b).length ≤ 30 := by
 have e : (vZ b).length = (Bt.textI b).size := zL _;have := zbs b;omega
def Sh (N : Nat) (z : List UInt8) : Prop := z.length + 4 ≤ N
theorem Sh.ite {N : Nat} {c : Prop} [Decidable c] {y z : List UInt8} (h : c → Sh N y) (g : ¬ c → Sh N z) : Sh N (if c then y else z) := by
 split; exact h ‹_›; exact g ‹_›
theorem wS2 (t u : Tr) : wS [t, u] = (fB t).length + 4 + ((fB u).length + 4) := by simp [wS]
theorem wS3 (t u v : Tr) : wS [t, u, v] = (fB t).length + 4 + ((fB u).length + 4) + ((fB v).length + 4) := by simp [wS]; omega
theorem wS4 (t u v y : Tr) : wS [t, u, v, y] = (fB t).length + 4 + ((fB u).length + 4) + ((fB v).length + 4) + ((fB y).length + 4) := by simp [wS]; omega
theorem zje (M : Nat) (k : Int) (x : List UInt8) (b : Int) (l : List Tr) (hx : x.length ≤ M) : Sh (6 * M + 100 + wS l) (zbG k x b (l.map fB) (l.map pB) (l.map eB)) := by
  have q := zdy hx;have nn := zhA b;have j1 := vO l;have j2 := jF l;have j3 := jG [10] (by decide) l;have j4 := jG [32] (by decide) l;have j5 := jG [] (by decide) l;have j6 := zmO l;have j7 := zmP l;have j8 := zmQ l;have j9 := zmR l;unfold zbG
  repeat' (refine Sh.ite (fun _ => ?_) (fun _ => ?_))
  all_goals try (unfold Sh; first | omega | (simp only [List.length_append, List.length_cons, List.length_nil]; omega))
  all_goals split
  all_goals try (unfold Sh; first | omega | (simp only [List.length_append, List.length_cons, List.length_nil]; omega))
  all_goals unfold Sh
  all_goals simp only [List.length_append, List.length_cons, List.length_nil]
  all_goals first
    | (rename_i h
       obtain ⟨t, u, rfl, rfl, rfl⟩ := ln2 h;have p1 := vd t;have p2 := vd u;have p3 := wS2 t u;omega)
    | (rename_i h
       obtain ⟨t, u, y, rfl, rfl, rfl, rfl⟩ := ln3 h;have p1 := vd t;have p2 := vd u;have p4 := vd y;have p3 := wS3 t u y;omega)
    | (rename_i h
       rw [h] at j7;simp only [List.headD_cons] at j7;omega)
    | (rename_i h1 h2
       obtain ⟨t, u, rfl, rfl, _⟩ := ln2 h1;simp only [List.map_cons, List.map_nil, List.cons.injEq, and_true] at h2;obtain ⟨_, rfl⟩ := h2;have p1 := vd t;have p3 := wS2 t u;omega)
    | (rename_i h1 h2
       obtain ⟨t, u, y, z, rfl, rfl, _, _, rfl⟩ := ln4 h1;simp only [List.map_cons, List.map_nil, List.cons.injEq, and_true] at h2;obtain ⟨_, rfl, rfl, _⟩ := h2;have p1 := zdx u;have p2 := zdx y;have p3 := wS4 t u y z;omega)
mutual
theorem zhB {M : Nat} : ∀ t : Tr, lnN M t → (fB t).length + 4 ≤ (6 * M + 100) * (zp t).length
 | .node k x b kids, h => by
  rw [lnN] at h;have h1 := zb9 kids h.2;have h2 := zje M k x b kids h.1.1;rw [zt];unfold Sh at h2;have e : (zp (.node k x b kids)).length = (zs kids).length + 1 := by rw [zp, List.length_cons]
  rw [e, Nat.mul_add, Nat.mul_one];omega
theorem zb9 {M : Nat} : ∀ l : List Tr, qw M l → wS l ≤ (6 * M + 100) * (zs l).length
 | [], _ => by simp [wS]
 | t :: l, h => by
  rw [qw] at h;have h1 := zhB t h.1;have h2 := zb9 l h.2;rw [qC, zs, List.length_append, Nat.mul_add];omega
end
theorem zhs : ∀ (z : List (Tk × List UInt8)) (a : Int), st (jp z a) = st (z.map (·.1))
 | [], a => rfl
 | x :: r, a => by
  show _ :: st (jp r _) = _ :: st (r.map (·.1))
  rw [zhs r]
theorem zdq : ∀ l : List Tg, Gxs l → chk (yd l) 0 = none
 | [], _ => zch
 | x :: r, h => by
  obtain ⟨h1, h2⟩ := h x (by simp);rw [uD];refine vg (jx h1) (vg (qK _ ?_ _ 0 (zd _)) (zdq r fun y hy => h y (by simp [hy])));rcases h2 with h2 | h2 | h2 <;> rw [h2] <;> decide
theorem zcw {L : List UInt8} {t : Tr} (h : Out L (.ok t)) : ∃ (l : List Tk) (u : Tr), yQ L = .ok l ∧ D L.length .program l (.ok (u, [])) ∧ t = nd 1 [] u.kids ∧ htT t ≤ 60 := by
 unfold Out at h;cases hx : yQ L with
 | error x => rw [hx] at h; cases h
 | ok l =>
  rw [hx] at h;obtain ⟨q, hd, h⟩ := h;rcases q with p | ⟨u, R⟩
  ·cases h
  ·obtain ⟨rfl, h⟩ := h;split at h
   ·cases h
   ·injection h with h;subst h;exact ⟨l, u, rfl, hd, rfl, by omega⟩
theorem zi5 {L : List UInt8} {l : List Tk} (h : yQ L = .ok l) : L.length ≤ 4096 := by
 unfold yQ at h;split at h
 ·cases h
 ·omega
theorem zht {M : Nat} : ∀ {l : List Tr}, (∀ t ∈ l, lnN M t) → qw M l
 | [], _ => zeP
 | t :: l, h => zcr (h t (by simp)) (zht fun u hu => h u (by simp [hu]))
theorem zb4 {L : List UInt8} {t : Tr} (h : Out L (.ok t)) : okT t ∧ lnN 16500 t ∧ t.kind = 1 ∧ htT t ≤ 60 := by
 obtain ⟨l, u, hx, hd, rfl, hh⟩ := zcw h;have hg : y9 l := (j0 hx).2.1;have h1 := zbj (zb0 hg) hd;have h2 := zbZ hg hd;have hL := zi5 hx;have ht : xg 16500 l := fun t ht => by
  have h3 := (zen hx).2 t ht;have h4 := zfM (hg t ht);exact ⟨by omega, h4.1, h4.2⟩
 have h3 := zmj (by decide) ht hd;exact ⟨zkY h1 h2, zc7 zc8 (zht h3), rfl, hh⟩
theorem zi6 {L : List UInt8} {t : Tr} (h : Out L (.ok t)) (hl : (fB t).length ≤ 4096) : Out (fB t) (.ok t) := by
 obtain ⟨hok, _⟩ := zb4 h;obtain ⟨l, u, hx, hd, rfl, hh⟩ := zcw h;have hg : y9 l := (j0 hx).2.1;have h1 := zbj (zb0 hg) hd;have h2 := zbZ hg hd;have ho : opN (nd 1 [] u.kids) := qg (yp (by decide)) fun t ht => (zc5 _ t (Nat.lt_succ_self _)).2.2 (h1 t ht)
 have hdp := ziC ho hh;obtain ⟨hlex, hfst⟩ := zgT hg hd hdp;have hb : zkJ (nd 1 [] u.kids) = fB (nd 1 [] u.kids) := zgo hok;have gx : GX (nd 1 [] u.kids) := by
  have hk := zba u.kids fun v hv => zb1 v (h2 v hv) ((zc5 _ v (Nat.lt_succ_self _)).2.2 (h1 v hv))
  show Gxs (gF (.node 1 [] 0 u.kids))
  rw [zv];exact za9 (ja (by decide)) (yp (by decide)) hk.1 hk.2.1 hk.2.2
 have q := zcM u.kids h1;have hadj := zdl _ gx q.ch;have hgap : gap (fB (nd 1 [] u.kids)) = (0, true) := by rw [← hb]; exact zfs _ hadj
 have hchk : chk (fB (nd 1 [] u.kids)) 0 = none := by rw [← hb]; exact zdq _ gx
 have hL : yQ (fB (nd 1 [] u.kids)) = .ok (jp (gF (nd 1 [] u.kids)) 0) := by
  unfold yQ;rw [if_neg (by omega), hchk];show xq (fB (nd 1 [] u.kids)) 0 0 = _
  unfold xq;rw [hgap];show xe ((fB (nd 1 [] u.kids)).drop 0) (0 + ((0 : Nat) : Int)) 0 = _
  rw [List.drop_zero, ← hb];exact hlex
 have hst : st (tF (nd 1 [] u.kids)) = st (jp (gF (nd 1 [] u.kids)) 0) := by
  rw [zhs];have : (gF (nd 1 [] u.kids)).map (·.1) = tF (nd 1 [] u.kids) := hfst;rw [this]
 obtain ⟨R1, hr1, hd2⟩ := D.elsewhere (E' := ((fB (nd 1 [] u.kids)).length : Int)) hst (zhy (E := 0) u.kids h1);have hR : R1 = [] := by
  cases R1 with
  | nil => rfl
  | cons a q => simp [st] at hr1
 subst hR;unfold Out;rw [hL];refine ⟨.ok (bag u.kids, []), hd2, rfl, ?_⟩;show _ = if 60 < htT (nd 1 [] (bag u.kids).kids) then _ else _
 have e : nd 1 [] (bag u.kids).kids = nd 1 [] u.kids := rfl;rw [e, if_neg (by omega)]
end Go.Proofs.YtfcgpphodacdmaaGreatDoor
namespace Go.Proofs.YtfcgpphodacdmaaGreatDoor
open Go.RowKit
def wkL : List Tk := [⟨1, 0, [97], 0⟩, ⟨5, 1, [46], 0⟩, ⟨1, 2, [98], 0⟩, ⟨5, 4, [61], 0⟩, ⟨3, 6, [], 4607182418800017408⟩, ⟨5, 8, [43], 0⟩, ⟨3, 10, [], 4611686018427387904⟩, ⟨5, 11, [59], 0⟩]
def wkK : List Tr := [nd 6 [] [nd 41 [61] [nd 32 [98] [.node 27 [97] 0 []], nd 38 [43] [.node 21 [] 4607182418800017408 [], .node 21 [] 4611686018427387904 []]]]]
section
theorem zdA : ∀ (j : Nat) (R : List UInt8) (a op : Int) (m : List Tk), R.length ≤ j → xe R a op = .ok m → ∀ t ∈ m, a ≤ t.pos ∧ t.pos ≤ a + R.length
 | j, [], a, op, m, _, h => by rw [xe] at h; injection h with h; subst h; intro t ht; simp at ht
 | 0, c :: r, a, op, m, hj, h => by simp at hj
 | j + 1, c :: r, a, op, m, hj, h => by
  rw [q8] at h;cases ht : yh (c :: r) with
  | none => rw [ht] at h; cases h
  | some x =>
   obtain ⟨t, n⟩ := x;rw [ht] at h;have hts := vH ht;simp only [List.length_cons] at hts;simp only at h;split at h
   ·cases h
   ·cases hg : gap (r.drop (n - 1)) with
    | mk k f =>
     cases f
     ·rw [jm hg] at h; cases h
     ·rw [zaP hg] at h;have hk := ut _ (r.drop (n - 1)) (zd _);rw [hg, List.length_drop] at hk;simp only at hk;cases hx : xe ((r.drop (n - 1)).drop k) (a + n + k) (opA t op) with
      | error e => rw [hx] at h; cases h
      | ok l =>
       rw [hx] at h;simp only [vN, Except.ok.injEq] at h;subst h;have ih := zdA j _ _ _ l (by rw [List.length_drop, List.length_drop]; simp at hj; omega) hx;rw [List.length_drop, List.length_drop] at ih;intro u hu;rcases List.mem_cons.1 hu with rfl | hu
       ·simp; omega
       ·have := ih u hu; simp; omega
theorem zk7 {L : List UInt8} {m : List Tk} (h : yQ L = .ok m) : ∀ t ∈ m, 0 ≤ t.pos ∧ t.pos ≤ L.length := by
 obtain ⟨_, _, h⟩ := zcF h;cases hg : gap L with
 | mk k f =>
  cases f
  ·rw [jm hg] at h; cases h
  ·rw [zaP hg] at h;have hk := ut _ L (zd _);rw [hg] at hk;simp only at hk;have := zdA _ _ _ _ m (zd _) h;rw [List.length_drop] at this;intro t ht;have := this t ht; omega
theorem zbI : ∀ (j : Nat) (R : List UInt8) (a op p c : Int), R.length ≤ j → xe R a op = .error (p, c) → a ≤ p ∧ p ≤ a + R.length
 | j, [], a, op, p, c, _, h => by rw [xe] at h; cases h
 | 0, d :: r, a, op, p, c, hj, h => by simp at hj
 | j + 1, d :: r, a, op, p, c, hj, h => by
  rw [q8] at h;cases ht : yh (d :: r) with
  | none =>
   rw [ht] at h;injection h with h; injection h with h _;simp only [List.length_cons]; omega
  | some x =>
   obtain ⟨t, n⟩ := x;rw [ht] at h;have hts := vH ht;simp only [List.length_cons] at hts ⊢;simp only at h;split at h
   ·injection h with h; injection h with h _; omega
   ·cases hg : gap (r.drop (n - 1)) with
    | mk k f =>
     have hk := ut _ (r.drop (n - 1)) (zd _);rw [hg, List.length_drop] at hk;simp only at hk;cases f
     ·rw [jm hg] at h;simp only [vN, Except.error.injEq, Prod.mk.injEq] at h;omega
     ·rw [zaP hg] at h;cases hx : xe ((r.drop (n - 1)).drop k) (a + n + k) (opA t op) with
      | ok l => rw [hx] at h; cases h
      | error e =>
       obtain ⟨p', c'⟩ := e;rw [hx] at h;simp only [vN, Except.error.injEq, Prod.mk.injEq] at h;have ih := zbI j _ _ _ _ _ (by rw [List.length_drop, List.length_drop]; simp at hj; omega) hx;rw [List.length_drop, List.length_drop] at ih;omega
theorem zcC (L : List UInt8) : ∀ (j a k : Nat), L.length - a ≤ j → chk L a = some k → k ≤ L.length
 | j, a, k, hj, h => by
  rw [chk] at h;split at h
  ·rename_i hlt
   split at h
   ·injection h with h; omega
   ·match j, hj with
    | 0, hj => omega
    | j + 1, hj => exact zcC L j (a + zH L a) k (by have := xW L a; omega) h
  ·cases h
theorem zhG {L : List UInt8} {p c : Int} (h : yQ L = .error (p, c)) : 0 ≤ p ∧ p ≤ L.length := by
 unfold yQ at h;split at h
 ·injection h with h; injection h with h _; omega
 ·split at h
  ·rename_i k hk
   injection h with h; injection h with h _;have := zcC L _ 0 k (zd _) hk;omega
  ·cases hg : gap L with
   | mk k f =>
    have hk := ut _ L (zd _);rw [hg] at hk;simp only at hk;cases f
    ·rw [jm hg] at h; injection h with h; injection h with h _; omega
    ·rw [zaP hg] at h;have := zbI _ _ _ _ _ _ (zd _) h;rw [List.length_drop] at this; omega
def Er (E : Int) (R0 : List Tk) (x : Rs) : Prop := (∀ p, x = some (.error p) → p = E ∨ ∃ t ∈ R0, p = t.pos) ∧ ∀ t R, x = some (.ok (t, R)) → ∀ u ∈ R, u ∈ R0
section
variable {E : Int} {R0 R : List Tk}
def Sq (R R0 : List Tk) : Prop := ∀ u ∈ R, u ∈ R0
theorem Sq.tail (h : Sq R R0) : Sq R.tail R0 := fun u hu => h u (List.mem_of_mem_tail hu)
theorem Er.ret {t : Tr} (h : Sq R R0) : Er E R0 (Go.Proofs.YtfcgpphodacdmaaGreatDoor.ret t R) := by
 refine ⟨fun p e => (by cases e), fun t' R' e => ?_⟩;unfold Go.Proofs.YtfcgpphodacdmaaGreatDoor.ret at e;injection e with e; injection e with e; injection e with _ e; subst e; exact h
theorem Er.bad (h : Sq R R0) : Er E R0 (Go.Proofs.YtfcgpphodacdmaaGreatDoor.bad E R) := by
 refine ⟨fun p e => ?_, fun t' R' e => (by cases e)⟩;unfold Go.Proofs.YtfcgpphodacdmaaGreatDoor.bad at e;injection e with e; injection e with e;cases R with
 | nil => exact .inl e.symm
 | cons a l => exact .inr ⟨a, h a List.mem_cons_self, e.symm⟩
theorem Er.bnd {x : Rs} {k : Tr → List Tk → Rs} (h : Er E R0 x) (g : ∀ t R1, Sq R1 R0 → Er E R0 (k t R1)) : Er E R0 (Go.Proofs.YtfcgpphodacdmaaGreatDoor.bnd x k) := by
 unfold Go.Proofs.YtfcgpphodacdmaaGreatDoor.bnd;rcases x with _ | (p | ⟨t, R1⟩)
 ·exact ⟨fun p e => (by cases e), fun t R e => (by cases e)⟩
 ·exact ⟨fun q e => h.1 q e, fun t R e => (by cases e)⟩
 ·exact g t R1 (h.2 t R1 rfl)
theorem Er.ite {c : Prop} [Decidable c] {a b : Rs} (h : Er E R0 a) (g : Er E R0 b) : Er E R0 (if c then a else b) := by split; exact h; exact g
theorem Er.need {s : List UInt8} {k : List Tk → Rs} (h : Sq R R0) (g : Sq R.tail R0 → Er E R0 (k R.tail)) : Er E R0 (Go.Proofs.YtfcgpphodacdmaaGreatDoor.need E s R k) := Er.ite (g h.tail) (Er.bad h)
theorem Er.nameK {k : List UInt8 → List Tk → Rs} (h : Sq R R0) (g : ∀ x, Sq R.tail R0 → Er E R0 (k x R.tail)) : Er E R0 (Go.Proofs.YtfcgpphodacdmaaGreatDoor.nameK E R k) := Er.ite (g _ h.tail) (Er.bad h)
theorem Er.keyK {k : List UInt8 → List Tk → Rs} (h : Sq R R0) (g : ∀ x, Sq R.tail R0 → Er E R0 (k x R.tail)) : Er E R0 (Go.Proofs.YtfcgpphodacdmaaGreatDoor.keyK E R k) := Er.ite (g _ h.tail) (Er.bad h)
theorem Er.propK {k : List UInt8 → List Tk → Rs} (h : Sq R R0) (g : ∀ x, Sq R.tail R0 → Er E R0 (k x R.tail)) : Er E R0 (Go.Proofs.YtfcgpphodacdmaaGreatDoor.propK E R k) := Er.ite (g _ h.tail) (Er.ite (g _ h.tail) (Er.keyK h g))
end
theorem zk8 {E : Int} {R0 : List Tk} {rec : NT → List Tk → Rs} (H : ∀ nt R, Sq R R0 → Er E R0 (rec nt R)) (nt : NT) (R : List Tk) (h : Sq R R0) : Er E R0 (zg E rec nt R) := by
  cases nt
  case program =>
    simp only [zg];cases R with
    | nil => exact Er.ret h
    | cons a l => exact Er.bnd (H _ _ h) fun t R1 h1 => Er.bnd (H _ _ h1) fun t2 R2 h2 => Er.ret h2
  all_goals
    simp only [zg]
    repeat' (first
      | exact H _ _ (by assumption)
      | exact H _ _ (Sq.tail (by assumption))
      | exact Er.bad (by assumption)
      | exact Er.ret (by assumption)
      | exact Er.ret (Sq.tail (by assumption))
      | (refine Er.need (by first | assumption | exact Sq.tail (by assumption)) fun _ => ?_)
      | (refine Er.nameK (by first | assumption | exact Sq.tail (by assumption)) fun _ _ => ?_)
      | (refine Er.keyK (by first | assumption | exact Sq.tail (by assumption)) fun _ _ => ?_)
      | (refine Er.propK (by first | assumption | exact Sq.tail (by assumption)) fun _ _ => ?_)
      | (refine Er.bnd (H _ _ (by first | assumption | exact Sq.tail (by assumption))) fun _ _ _ => ?_)
      | (refine Er.ite ?_ ?_))
theorem zmV (E : Int) (R0 : List Tk) : ∀ (n : Nat) (nt : NT) (R : List Tk), Sq R R0 → Er E R0 (Q E n nt R)
 | 0, _, _, _ => ⟨fun p e => (by cases e), fun t R e => (by cases e)⟩
 | n + 1, nt, R, h => zk8 (zmV E R0 n) nt R h
theorem D.place {E : Int} {nt : NT} {R : List Tk} {p : Int} (h : D E nt R (.error p)) : p = E ∨ ∃ t ∈ R, p = t.pos := by
 obtain ⟨n, h⟩ := h;exact (zmV E R n nt R fun _ hu => hu).1 p (h n (zd _))
theorem zk9 {L : List UInt8} {a c : Int} (h : Out L (.error (a, c))) : 3 ≤ c ∧ c ≤ 7 ∧ 0 ≤ a ∧ a ≤ L.length := by
 unfold Out at h;cases hx : yQ L with
 | error x =>
  rw [hx] at h;injection h with h;subst h;have := zfB hx;have := zhG hx;omega
 | ok l =>
  rw [hx] at h;obtain ⟨q, hd, h⟩ := h;rcases q with p | ⟨t, R⟩
  ·injection h with h; injection h with h1 h2;subst h1; subst h2;rcases hd.place with e | ⟨t, ht, e⟩
   ·omega
   ·have := zk7 hx t ht; omega
  ·have h := h.2;split at h
   ·injection h with h; injection h with h1 h2; omega
   ·cases h
end
theorem zho (t : Tr) (h : 0 < (zp t).length) : (zp t)[0]'h = ⟨t.kind, t.kids.length, (zp t).length, t.text, t.bits⟩ := by
 cases t
 simp only [zp, List.getElem_cons_zero, List.length_cons]; rfl
theorem zdm {w : World} {B g n cap : Nat} {l : List Nat} (h : w.ownsRow B 3 1 (.slice (some ⟨g, 0, none⟩) n cap) n (qA l)) (hn : n = l.length) (j : Nat) (hj : j < l.length) : w.cell? ⟨g, j, none⟩ = some (.int .i64 (l[j] : Int)) := by
 subst hn;rw [h.cellAt j (by omega)];simp [qA, hj]
theorem zir (L : List NI) (l : List Nat) : Rng (l.map fun p => zl (kdI L p)) := fun k hk => by
 obtain ⟨p, _, rfl⟩ := List.mem_map.1 hk;exact zaf _
theorem zfQ {w : World} {B : Nat} {v : Value} {L : List Int} (h : w.ownsRow B 3 1 v L.length (L.map fun x => Value.int .i64 x)) : IRo w v L := by
 obtain ⟨ao, cap, rfl⟩ := yb h;by_cases h0 : L.length = 0
 ·exact .inl ⟨List.eq_nil_of_length_eq_zero h0, ao, cap, by rw [h0]⟩
 ·obtain ⟨g, cp, hv, hg1, hg2⟩ := h.form (by omega);injection hv with hv _ hv2;subst hv;refine .inr ⟨g, 0, cap, hg2, zfN h, rfl, fun i hi => ?_⟩;have := h.cellAt i (by omega);rw [Nat.zero_add, this]; simp [hi]
def uZ (L : List NI) (ks : List Nat) (j : Nat) : List Int := ((ks.take j).map fun p => zl (kdI L p)) ++ List.replicate (ks.length - j) 0
theorem zj3 (L : List NI) (ks : List Nat) (j : Nat) (h : j < ks.length) : (uZ L ks j).set j (zl (kdI L ks[j])) = uZ L ks (j + 1) := by
 unfold uZ;have e : ks.length - j = (ks.length - (j + 1)) + 1 := by omega
 have e2 : ((ks.take j).map fun p => zl (kdI L p)).length = j := by rw [List.length_map, List.length_take]; omega
 rw [List.set_append_right _ _ (by omega), e2, Nat.sub_self, e, List.replicate_succ, List.set_cons_zero, List.take_succ_eq_append_getElem h, List.map_append];simp
theorem zj4 (L : List NI) (ks : List Nat) : uZ L ks ks.length = ks.map fun p => zl (kdI L p) := by
 unfold uZ; rw [Nat.sub_self, List.take_length]; simp
theorem zlU (L : List NI) (ks : List Nat) (j : Nat) (h : j < ks.length) : ((uZ L ks j).map fun x => Value.int .i64 x)[j]? = some (.int .i64 0) := by
 unfold uZ;have e2 : ((ks.take j).map fun p => zl (kdI L p)).length = j := by rw [List.length_map, List.length_take]; omega
 rw [List.getElem?_map, List.getElem?_append_right (by omega), e2, Nat.sub_self];have e : ks.length - j = (ks.length - (j + 1)) + 1 := by omega
 rw [e, List.replicate_succ]; rfl
theorem zp1 {ks : List Int} (h : zP 7 ks = true) : ks.length = 2 ∨ ks.length = 3 := by
 have h2 : (if ks.length = 3 then zw ks [4, 2, 2] else zw ks [4, 2]) = true := h;split at h2
 ·exact .inr (by assumption)
 ·exact .inl (zaF h2)
theorem zis (n : Nat) : (madeCells (Value.int .i64 0).cells (n * 1)).toList = (List.replicate n (0 : Int)).map fun x => Value.int .i64 x := by
 unfold madeCells;rw [Nat.mul_one];apply List.ext_getElem
 ·simp
 ·intro i h1 h2;simp [Value.cells, Nat.mod_one]
theorem zit (w : World) (v : Value) (L : List NI) (h : NRi w v L) (hl : L.length ≤ 100000) (hn : zaQ L) (hr : qR w) (i : Nat) (hi : i < L.length) (hm : zeS L i L[i] = true) :
    Calls Tryz.prog 35 #[v, .int .i64 (i : Int)] w fun e w' => e = .returned (.bool true) ∧ Below w.heap.size w w' := by
  obtain ⟨ao, cp, rfl⟩ := h.slice;obtain ⟨g, rfl, hg, hc⟩ := h.get (by omega);have KO := za (fun (w1 : World) (hb : Below w.heap.size w w1) => zbT w1 _ L (h.below hb) hl hn i hi);have OP := za (fun (w1 : World) (hb : Below w.heap.size w w1) j hj => zf8 w1 _ L (h.below hb) hl hn j hj L.length (by omega));have RO := za (fun (w1 : World) (hb : Below w.heap.size w w1) k => jz k w1 (hr.below hb));have HC := za hc;have hx := hn _ (List.getElem_mem hi);obtain ⟨c0, c1, c2, c3, c4⟩ := hc i hi;have hkl := zeR L i L[i].n hi;generalize L[i] = x at *;obtain ⟨xk, xn, xs, xt, xb⟩ := x;simp only at c0 c1 c2 c3 c4 hx KO hkl;unfold zeS at hm;simp only at hm;generalize yY L i xn = K at *;obtain ⟨ks, sz⟩ := K;simp only [Bool.and_eq_true] at hm hkl KO;obtain ⟨⟨⟨⟨⟨m1, m2⟩, m3⟩, m4⟩, m5⟩, m6⟩ := hm;have IT := za (fun w => zfX xk xn xs xt xb hx.2.2.2.2 w);have IB := za (fun w => zgr xk xn xs xt xb hx.2.2.1 hx.2.2.2.1 w);rw [m3] at IT;rw [m4] at IB;have MH := za (fun w v h => ze9 xk w v (ks.map fun p => zl (kdI L p)) h (by rw [List.length_map]; omega) (zir L ks));rw [m5] at MH;have HM5 := za m5;have hi0 : ¬ (i : Int) < 0 := by omega
  have hi1 : ¬ (L.length : Int) ≤ (i : Int) := by omega
  have hsz : ((sz : Int) == 0) = false := beq_eq_false_iff_ne.2 (by simp at m1; omega);have hxs : xs = (sz : Int) := by simpa using m2
  have hne : (xs != (sz : Int)) = false := by rw [hxs]; simp
  obtain ⟨i0, qi, qz0, qz1, qz2⟩ := info_parts zag;have HI := za qi;have HZ0 := za qz0;have HZ1 := za qz1;have HZ2 := za qz2;have HKL := za hkl;have HM6 := za m6;clear h hc hn hr hx m1 m2 m3 m4 m5 m6 qi qz0 qz1 qz2 hkl hxs
  go_enter Tryz.func35, Tryz.ntmps35
  go_wp2_with fail;have hA : Below w.heap.size w (w.alloc (.cells #[.int .i64 xk, .int .i64 xn, .int .i64 xs, .string (bs xt), .int .u64 xb] 40)) := (ze _ _).alloc (zd _) _;have n0 : (w.alloc (.cells #[.int .i64 xk, .int .i64 xn, .int .i64 xs, .string (bs xt), .int .u64 xb] 40)).cell? ⟨w.heap.size, 0, none⟩ = some (.int .i64 xk) := zR _ _ _ 0;have n1 : (w.alloc (.cells #[.int .i64 xk, .int .i64 xn, .int .i64 xs, .string (bs xt), .int .u64 xb] 40)).cell? ⟨w.heap.size, 1, none⟩ = some (.int .i64 xn) := zR _ _ _ 1;have n2 : (w.alloc (.cells #[.int .i64 xk, .int .i64 xn, .int .i64 xs, .string (bs xt), .int .u64 xb] 40)).cell? ⟨w.heap.size, 2, none⟩ = some (.int .i64 xs) := zR _ _ _ 2;have n3 : (w.alloc (.cells #[.int .i64 xk, .int .i64 xn, .int .i64 xs, .string (bs xt), .int .u64 xb] 40)).cell? ⟨w.heap.size, 3, none⟩ = some (.string (bs xt)) := zR _ _ _ 3;have n4 : (w.alloc (.cells #[.int .i64 xk, .int .i64 xn, .int .i64 xs, .string (bs xt), .int .u64 xb] 40)).cell? ⟨w.heap.size, 4, none⟩ = some (.int .u64 xb) := zR _ _ _ 4;have hzA : w.heap.size < (w.alloc (.cells #[.int .i64 xk, .int .i64 xn, .int .i64 xs, .string (bs xt), .int .u64 xb] 40)).heap.size := by simp
  generalize w.alloc (.cells #[.int .i64 xk, .int .i64 xn, .int .i64 xs, .string (bs xt), .int .u64 xb] 40) = wa at *;have HA := za hA;clear hA;refine (KO.out wa HA.out).mono ?_;rintro e w1 ⟨kv, rfl, hko, hB1⟩;obtain ⟨ak, ck, rfl⟩ := yb hko;have HB1 := za (HA.out.trans (hB1.mono HA.out.size));have p0 := (hB1.cell (p := ⟨w.heap.size, 0, none⟩) hzA).trans n0;have p1 := (hB1.cell (p := ⟨w.heap.size, 1, none⟩) hzA).trans n1;have p2 := (hB1.cell (p := ⟨w.heap.size, 2, none⟩) hzA).trans n2;have p3 := (hB1.cell (p := ⟨w.heap.size, 3, none⟩) hzA).trans n3;have p4 := (hB1.cell (p := ⟨w.heap.size, 4, none⟩) hzA).trans n4;have hz1 : w.heap.size < w1.heap.size := Nat.lt_of_lt_of_le hzA hB1.size;have HKO := za hko;clear n0 n1 n2 n3 n4 hB1 hko c0 c1 c2 c3 c4;go_wp2_with fail;refine (IT.out w1).mono ?_;rintro e w2 ⟨rfl, hB2⟩;have r0 := (hB2.cell (p := ⟨w.heap.size, 0, none⟩) hz1).trans p0;have r1 := (hB2.cell (p := ⟨w.heap.size, 1, none⟩) hz1).trans p1;have r2 := (hB2.cell (p := ⟨w.heap.size, 2, none⟩) hz1).trans p2;have r3 := (hB2.cell (p := ⟨w.heap.size, 3, none⟩) hz1).trans p3;have r4 := (hB2.cell (p := ⟨w.heap.size, 4, none⟩) hz1).trans p4;have hz2 : w.heap.size < w2.heap.size := Nat.lt_of_lt_of_le hz1 hB2.size;have HKO2 := za (qq HKO.out hB2);have HB2 := za (HB1.out.trans (hB2.mono HB1.out.size));clear p0 p1 p2 p3 p4 hB2;go_wp2_with fail;refine (IB.out w2).mono ?_;rintro e w3 ⟨rfl, hB3⟩;have q0 := (hB3.cell (p := ⟨w.heap.size, 0, none⟩) hz2).trans r0;have hz3 : w.heap.size < w3.heap.size := Nat.lt_of_lt_of_le hz2 hB3.size;have HKO3 := za (qq HKO2.out hB3);have HB3 := za (HB2.out.trans (hB3.mono HB2.out.size));clear r0 r1 r2 r3 r4 hB3;obtain ⟨w4, hmk, hown, hgrow⟩ := run_makeSlice_full (P := Tryz.prog) w3 w3.heap.size 45 3 i0 (.int .i64 0) 1 Tryz.underlying45 HI.out HZ0.out HZ1.out .i64 .i64 ks.length (by have := HKL.out.2.2; omega) (by rw [HZ2.out]; have := HKL.out.2.2; omega) (by unfold maxLen; have := HKL.out.2.2; omega) (zd _);rw [zis] at hown;have hB4 : Below w3.heap.size w3 w4 := (ze _ _).grown hgrow (zd _) (fun k hk => by cases hk);have hown2 : w4.ownsRow w3.heap.size 3 1 (.slice (some ⟨w3.heap.size, 0, none⟩) ks.length ks.length) ks.length ((uZ L ks 0).map fun x => Value.int .i64 x) := by
    have e : uZ L ks 0 = List.replicate ks.length 0 := by unfold uZ; simp
    rw [e]; exact hown
  have HOW := za hown2;have HB4 := za hB4;clear hown hown2 hgrow hB4;have hkl0 := HKL.out.2.2;go_wp2_with fail;clear hmk
  go_loopg [9, 10, 44] ks.length (fun gg x9 x10 jj wr => ∃ j : Nat, jj = .int .i64 (j : Int) ∧ gg = ks.length - j ∧ j ≤ ks.length ∧ Hid (Below w3.heap.size w3 wr) ∧ Hid (wr.ownsRow w3.heap.size 3 1 (.slice (some ⟨w3.heap.size, 0, none⟩) ks.length ks.length) ks.length ((uZ L ks j).map fun x => Value.int .i64 x)))
  case atStart => exact ⟨0, rfl, rfl, Nat.zero_le _, HB4.out, HOW.out⟩
  case round =>
    obtain ⟨j, rfl, rfl, hj, HBB, HRW⟩ := hrel;have HW := za (HB3.out.trans (HBB.out.mono HB3.out.size));by_cases hjl : j < ks.length
    · have hko := qq HKO3.out HBB.out;obtain ⟨gk, ck2, hv, hgk1, hgk2⟩ := hko.form (by omega);injection hv with hv _ hv2;subst hv; subst hv2;have cj := zdm hko rfl j hjl;have hkm := HKL.out.1 _ (List.getElem_mem hjl);have cd := (HW.out.cell (p := ⟨g, ks[j] * 5, none⟩) hg).trans (HC.out _ hkm.2).1;rw [← znP hkm.2] at cd;have old := (HRW.out.cellAt j (by omega)).trans (zlU L ks j hjl);have fz := HRW.out.frozenAt j;have hset := za (zj3 L ks j hjl);have hkm2 := hkm.2;clear hko hkm;generalize kdI L ks[j] = kd at *;generalize ks[j] = kj at *;go_wp2_with fail;refine (RO.out wr HW.out kd).mono ?_;rintro e w' ⟨rfl, rfl⟩;go_wp2_with fail;have hst := (HRW.out.stored j (.int .i64 (zl kd))).1
      go_roundg (ks.length - (j + 1))
      case measure => omega
      case rel => exact ⟨j + 1, by simp, rfl, hjl, HBB.out.setCell (zd _) _, by
        show World.ownsRow _ _ _ _ _ _ _
        rw [← hset.out, List.map_set]; exact hst⟩
    · have hje : j = ks.length := by omega
      subst hje;have hro := HRW.out;rw [zj4] at hro;have cn := (HBB.out.cell (p := ⟨w.heap.size, 0, none⟩) hz3).trans q0;have MR := za (MH.out wr _ (zfQ (by rw [List.length_map]; exact hro)));have HKB := za (qq HKO3.out HBB.out);clear hro;go_wp2_with fail;refine MR.out.mono ?_;rintro e w6 ⟨rfl, hB6⟩;have HW6 := za (HW.out.trans (hB6.mono HW.out.size));have hz4 := HBB.out.size;have cn6 := (hB6.cell (p := ⟨w.heap.size, 0, none⟩) (Nat.lt_of_lt_of_le hz3 hz4)).trans cn;have HK6 := za (qq HKB.out hB6);clear hB6 cn MR;by_cases h7 : xk = 7
      · subst h7;rcases zp1 HM5.out with hl2 | hl3
        · rw [List.length_map] at hl2;have hl2' : ((ks.length : Int) == 2) = true := beq_iff_eq.2 (by omega);clear hl2;go_wp2_with fail;go_ret;exact ⟨rfl, HW6.out⟩
        · rw [List.length_map] at hl3;have hl2' : ((ks.length : Int) == 2) = false := beq_eq_false_iff_ne.2 (by omega);obtain ⟨a, b, c, rfl⟩ : ∃ a b c, ks = [a, b, c] := by
            match ks, hl3 with
            | [a, b, c], _ => exact ⟨a, b, c, rfl⟩
          have hop : opP L L.length b = false := by
            have := HM6.out
            simpa using this
          obtain ⟨gk, ck2, hv, hgk1, hgk2⟩ := HK6.out.form (by simp);injection hv with hv _ hv2;subst hv; subst hv2;have cj := zdm HK6.out rfl 1 (by simp);have hbm := HKL.out.1 b (by simp);have OB := za (OP.out w6 HW6.out b hbm.2);rw [hop] at OB;simp only [List.length_cons, List.length_nil, List.getElem_cons_succ, List.getElem_cons_zero] at cj hl2' ⊢;clear hl3;go_wp2_with fail;refine OB.out.mono ?_;rintro e w7 ⟨rfl, hB7⟩;have HW7 := za (HW6.out.trans (hB7.mono HW6.out.size));clear hB7;go_wp2_with fail;go_ret;exact ⟨rfl, HW7.out⟩
      · have h7' : (xk != 7) = true := bne_iff_ne.2 h7;clear h7;go_wp2_with fail;go_ret;exact ⟨rfl, HW6.out⟩
theorem zbm {M : Nat} {t : Tr} (h : lnN M t) (hM : M ≤ 1000000) (hl : (zp t).length ≤ 100000) : zaQ (LI (zp t)) := fun l hm => by
 obtain ⟨a, ha, rfl⟩ := List.mem_map.1 hm;have h1 := zbV t a ha;have h2 := ziE t h a ha;exact ⟨⟨by show (-9223372036854775808 : Int) ≤ (a.n : Int); omega, by show (a.n : Int) ≤ _; omega⟩, ⟨by show (-9223372036854775808 : Int) ≤ (a.size : Int); omega, by show (a.size : Int) ≤ _; omega⟩, h2.2.1, h2.2.2, Nat.le_trans h2.1 hM⟩
theorem zau (w : World) (v : Value) (t : Tr) (h : xf w v (zp t)) (hl : (zp t).length ≤ 100000) (ok : okT t) (hk : t.kind = 1) (hh : htT t ≤ 60) (hn : zaQ (LI (zp t))) (hr : qR w) :
  Calls Tryz.prog 17 #[v] w fun e w' => e = .returned (.tuple #[.int .i64 0, .int .i64 0]) ∧ Below w.heap.size w w' := by
 have hpos := yk t;have HT := za (fun (w1 : World) (hb : Below w.heap.size w w1) => za4 w1 v t (h.below hb) hl);have MB := za (fun (w1 : World) (hb : Below w.heap.size w w1) (i : Nat) (hi : i < (LI (zp t)).length) => zit w1 v (LI (zp t)) (h.i.below hb) (by rw [jb]; exact hl) hn (hr.below hb) i hi (zhO ok i hi));obtain ⟨ao, cp, rfl⟩ := h.slice;obtain ⟨g, rfl, hg, hc⟩ := h.get (by omega);obtain ⟨c0, c1, c2, c3, c4⟩ := hc 0 (by omega);rw [zho t (by omega)] at c0 c1 c2 c3 c4;simp only [hk] at c0 c1 c2 c3 c4;have e5 : (LI (zp t)).length = (zp t).length := jb _;rw [e5] at MB;have hh2 : ¬ (60 : Int) < (htT t : Int) := by omega
 clear h hc hn hr ok c1 c3 c4 hk hh e5;generalize htT t = H at *;generalize (zp t).length = n at *;have hn0 : ((n : Int) == 0) = false := beq_eq_false_iff_ne.2 (by omega);have hnn : ((n : Int) != (n : Int)) = false := by simp
 have hp : (0 : Int) < (n : Int) := by omega
 go_enter Tryz.func17, Tryz.ntmps17
 go_wp2_with fail
 go_loopg [2, 3, 4, 24] n (fun gg aa ee ii jj wr => ∃ j : Nat, aa = .int .i64 0 ∧ ee = .int .i64 0 ∧ jj = .int .i64 (j : Int) ∧ gg = n - j ∧ j ≤ n ∧ Hid (Below w.heap.size w wr))
 case atStart => exact ⟨0, rfl, rfl, rfl, rfl, Nat.zero_le _, ze _ _⟩
 case round =>
  obtain ⟨j, rfl, rfl, rfl, rfl, hj, HB⟩ := hrel;by_cases hlt : j < n
  ·go_wp2_with fail;refine (MB.out wr HB.out j hlt).mono ?_;rintro e w2 ⟨rfl, hB2⟩;have HB2 := za (HB.out.trans (hB2.mono HB.out.size));clear hB2;go_wp2_with fail
   go_roundg (n - (j + 1))
   case measure => omega
   case rel => exact ⟨j + 1, rfl, rfl, by simp, rfl, hlt, HB2.out⟩
  ·have he : j = n := by omega
   subst he;go_wp2_with fail;refine (HT.out wr HB.out).mono ?_;rintro e w2 ⟨rfl, hB2⟩;have HB2 := za (HB.out.trans (hB2.mono HB.out.size));clear hB2;go_wp2_with fail;go_ret2;exact ⟨rfl, HB2.out⟩
theorem z7 (a b : List UInt8) : bs (a ++ b) = bs a ++ bs b := by
 unfold bs; apply ByteArray.ext; simp
def CtF (w : World) (f : Nat) (v : Value) (p : Int) (s : List UInt8) : Prop := ∀ w1, Below w.heap.size w w1 → Calls Tryz.prog f #[v, .int .i64 p] w1 fun e w' => e = .returned (.string (bs s)) ∧ Below w1.heap.size w1 w'
theorem CtF.below {w w1 : World} {f : Nat} {v : Value} {p : Int} {s : List UInt8} (h : CtF w f v p s) (hb : Below w.heap.size w w1) : CtF w1 f v p s := fun w2 h2 => h w2 (hb.trans (h2.mono hb.size))
def zS (w : World) (s : List UInt8) (e : Ending) (w' : World) : Prop := e = .returned (.string (bs s)) ∧ Below w.heap.size w w'
theorem hmf (fn : Fn) (first cap : Array Value) (w : World) : (Instr.makeFunc fn first cap).run Tryz.prog w = .ok (.func fn first cap) w := rfl
theorem zbz (x : List UInt8) (kv fv : Value) (w : World) (hk : IRo w kv []) :
  Calls Tryz.prog 43 #[.string (bs x), kv, fv] w (zS w []) := by
 obtain ⟨ao, cp, rfl⟩ := hk.slice
 go_enter Tryz.func43, Tryz.ntmps43
 go_wp2_with fail;go_ret;exact ⟨rfl, ze _ _⟩
theorem zkm (x : List UInt8) (kv v : Value) (p : Int) (ps : List Int) (s : List UInt8) (w : World) (hk : IRo w kv (p :: ps)) (hf : CtF w 28 v p s) (hx : (bs x).size ≤ 1000000000) (hs : (bs s).size ≤ 1000000000) :
  Calls Tryz.prog 43 #[.string (bs x), kv, .func (.func 28) #[v] #[]] w (zS w (x ++ s)) := by
 obtain ⟨ao, cp, rfl⟩ := hk.slice;obtain ⟨g, o, rfl, hg, hcap, hc⟩ := hk.get (by simp);have c0 : w.cell? ⟨g, o, none⟩ = some (.int .i64 p) := hc 0 (by simp);have HF := za (hf w (ze _ _));have hl : (((p :: ps).length : Int) == 0) = false := beq_eq_false_iff_ne.2 (by rw [List.length_cons]; omega);have hl2 : (0 : Int) < ((p :: ps).length : Int) := by rw [List.length_cons]; omega
 clear hk hf hc;generalize (p :: ps).length = n at *
 go_enter Tryz.func43, Tryz.ntmps43
 go_wp2_with fail;refine HF.out.mono ?_;rintro e w1 ⟨rfl, hB⟩;have HB := za hB;clear hB;go_wp2_with fail;go_ret;exact ⟨by rw [z7]; first | done | rfl, HB.out⟩
theorem za5 (x : List UInt8) (kv v : Value) (p : Int) (ps : List Int) (s : List UInt8) (w : World) (hk : IRo w kv (p :: ps)) (hf : CtF w 44 v p s) (hx : (bs x).size ≤ 1000000000) (hs : (bs s).size ≤ 1000000000) :
  Calls Tryz.prog 43 #[.string (bs x), kv, .func (.func 44) #[v] #[]] w (zS w (x ++ s)) := by
 obtain ⟨ao, cp, rfl⟩ := hk.slice;obtain ⟨g, o, rfl, hg, hcap, hc⟩ := hk.get (by simp);have c0 : w.cell? ⟨g, o, none⟩ = some (.int .i64 p) := hc 0 (by simp);have HF := za (hf w (ze _ _));have hl : (((p :: ps).length : Int) == 0) = false := beq_eq_false_iff_ne.2 (by rw [List.length_cons]; omega);have hl2 : (0 : Int) < ((p :: ps).length : Int) := by rw [List.length_cons]; omega
 clear hk hf hc;generalize (p :: ps).length = n at *
 go_enter Tryz.func43, Tryz.ntmps43
 go_wp2_with fail;refine HF.out.mono ?_;rintro e w1 ⟨rfl, hB⟩;have HB := za hB;clear hB;go_wp2_with fail;go_ret;exact ⟨by rw [z7]; first | done | rfl, HB.out⟩
theorem zeL : (Tryz.prog.info? 9).map (fun i => (i.zero, i.size, i.bytes)) = some (some (.string ⟨#[]⟩), 1, 16) := by kernel_rfl
theorem zcR (n : Nat) : (madeCells (Value.string ⟨#[]⟩).cells (n * 1)).toList = (List.replicate n ([] : List UInt8)).map fun x => Value.string (bs x) := by
 unfold madeCells;rw [Nat.mul_one];apply List.ext_getElem
 ·simp
 ·intro i h1 h2;simp [Value.cells, Nat.mod_one, bs]
theorem zcq : ∀ l : List (List UInt8), Lib.join l [44, 32] = zE l
 | [] => rfl
 | [f] => by rw [Lib.join_one]; rfl
 | f :: g :: l => by
  have := zcq (g :: l);show _ = f ++ ([44, 32] ++ zE (g :: l))
  rw [← this]; rfl
def vE (ss : List (List UInt8)) (j : Nat) : List (List UInt8) := ss.take j ++ List.replicate (ss.length - j) []
theorem zeM (ss : List (List UInt8)) (j : Nat) (h : j < ss.length) : (vE ss j).set j ss[j] = vE ss (j + 1) := by
 unfold vE;have e : ss.length - j = (ss.length - (j + 1)) + 1 := by omega
 have e2 : (ss.take j).length = j := by rw [List.length_take]; omega
 rw [List.set_append_right _ _ (by omega), e2, Nat.sub_self, e, List.replicate_succ, List.set_cons_zero, List.take_succ_eq_append_getElem h, List.append_assoc];rfl
theorem zeN (ss : List (List UInt8)) : vE ss ss.length = ss := by
 unfold vE; rw [Nat.sub_self, List.take_length]; simp
theorem zaW (ss : List (List UInt8)) (j : Nat) (h : j < ss.length) : ((vE ss j).map fun x => Value.string (bs x))[j]? = some (.string (bs [])) := by
 unfold vE;have e2 : (ss.take j).length = j := by rw [List.length_take]; omega
 rw [List.getElem?_map, List.getElem?_append_right (by omega), e2, Nat.sub_self];have e : ss.length - j = (ss.length - (j + 1)) + 1 := by omega
 rw [e, List.replicate_succ]; rfl
theorem zcS {w : World} {B g n cap : Nat} {L : List (List UInt8)} (h : w.ownsRow B 9 1 (.slice (some ⟨g, 0, none⟩) n cap) n (L.map fun x => Value.string (bs x))) (hn : n = L.length) : ∀ (j : Nat) x, (L.map bs)[j]? = some x → w.cell? ⟨g, 0 + j, none⟩ = some (.string x) := by
 intro j x hx;rw [List.getElem?_map] at hx;cases hj : L[j]? with
 | none => rw [hj] at hx; cases hx
 | some y =>
  rw [hj] at hx;injection hx with hx; subst hx;have hjl : j < L.length := by
   rcases Nat.lt_or_ge j L.length with h1 | h1
   ·exact h1
   ·rw [List.getElem?_eq_none h1] at hj; cases hj
  rw [Nat.zero_add, h.cellAt j (by omega), List.getElem?_map, hj]; rfl
theorem zak (kv v : Value) (L : List (Int × List UInt8)) (w : World) (hk : IRo w kv (L.map (·.1))) (hf : ∀ q ∈ L, CtF w 28 v q.1 q.2) (hl : L.length ≤ 100000) (hb : (zE (L.map (·.2))).length ≤ 1000000000) :
    Calls Tryz.prog 42 #[kv, .func (.func 28) #[v] #[]] w (zS w (zE (L.map (·.2)))) := by
  have HK := za hk;have HF := za hf;have HBB := za hb;obtain ⟨ao, cp, rfl⟩ := hk.slice;obtain ⟨ss, hss⟩ : ∃ ss, ss = L.map (·.2) := ⟨_, rfl⟩;have hl1 : (L.map (·.1)).length = ss.length := by rw [hss]; simp
  have hl2 : L.length = ss.length := by rw [hss]; simp
  rw [← hss] at HBB ⊢;have HSS := za hss;rw [hl1];rw [hl2] at hl;obtain ⟨i0, qi, qz0, qz1, qz2⟩ := info_parts zeL;obtain ⟨w4, hmk, hown, hgrow⟩ := run_makeSlice_full (P := Tryz.prog) w w.heap.size 42 9 i0 (.string ⟨#[]⟩) 1 Tryz.underlying42 qi qz0 qz1 .i64 .i64 ss.length (by omega) (by rw [qz2]; omega) (by unfold maxLen; omega) (zd _);rw [zcR] at hown;have hB4 : Below w.heap.size w w4 := (ze _ _).grown hgrow (zd _) (fun k hk => by cases hk);have hown2 : w4.ownsRow w.heap.size 9 1 (.slice (some ⟨w.heap.size, 0, none⟩) ss.length ss.length) ss.length ((vE ss 0).map fun x => Value.string (bs x)) := by
    have e : vE ss 0 = List.replicate ss.length [] := by unfold vE; simp
    rw [e]; exact hown
  have HOW := za hown2;have HB4 := za hB4;clear hown hown2 hgrow hB4 hk hf hb hss qi qz0 qz1 qz2;have HL1 := za hl1;have HL2 := za hl2;clear hl1 hl2
  go_enter Tryz.func42, Tryz.ntmps42
  go_wp2_with fail;clear hmk
  go_loopg [6, 7, 13] ss.length (fun gg x6 x7 jj wr => ∃ j : Nat, jj = .int .i64 (j : Int) ∧ gg = ss.length - j ∧ j ≤ ss.length ∧ Hid (Below w.heap.size w wr) ∧ Hid (wr.ownsRow w.heap.size 9 1 (.slice (some ⟨w.heap.size, 0, none⟩) ss.length ss.length) ss.length ((vE ss j).map fun x => Value.string (bs x))))
  case atStart => exact ⟨0, rfl, rfl, Nat.zero_le _, HB4.out, HOW.out⟩
  case round =>
    obtain ⟨j, rfl, rfl, hj, HB, HRW⟩ := hrel;by_cases hjl : j < ss.length
    · have hkr := HK.out.below HB.out;rw [HL1.out] at hkr;have hkr2 : ∃ g o, ao = some ⟨g, o, none⟩ ∧ g < wr.heap.size ∧ ss.length ≤ cp ∧ ∀ (h : j < L.length), wr.cell? ⟨g, o + j, none⟩ = some (.int .i64 L[j].1) := by
        have h1 := HL1.out;rcases HK.out.below HB.out with ⟨h, _⟩ | ⟨g, o, cap, hg, hcap, hv, hc⟩
        · rw [h] at h1; simp at h1; omega
        · injection hv with hv1 hv2 hv3;subst hv3;refine ⟨g, o, hv1, hg, by omega, fun h => ?_⟩;have := hc j (by simpa using h);rw [List.getElem_map] at this; exact this
      obtain ⟨g, o, rfl, hg, hcap, hc⟩ := hkr2;have hjL : j < L.length := by rw [HL2.out]; exact hjl
      have cj := hc hjL;have FC := za (HF.out _ (List.getElem_mem hjL) wr HB.out);have hsj : L[j].2 = ss[j] := by
        have := HSS.out;subst this;rw [List.getElem_map]
      rw [hsj] at FC;have hset := za (zeM ss j hjl);have old := (HRW.out.cellAt j (by omega)).trans (zaW ss j hjl);clear hkr hc hsj;generalize L[j].1 = pj at *;generalize ss[j] = sj at *;go_wp2_with fail;refine FC.out.mono ?_;rintro e w2 ⟨rfl, hB2⟩;have HRW2 := za (qq HRW.out hB2);have HB2 := za (HB.out.trans (hB2.mono HB.out.size));have fz := HRW2.out.frozenAt j;have old2 := (HRW2.out.cellAt j (by omega)).trans (zaW ss j hjl);clear hB2;go_wp2_with fail;have hst := (HRW2.out.stored j (.string (bs sj))).1
      go_roundg (ss.length - (j + 1))
      case measure => omega
      case rel => exact ⟨j + 1, by simp, rfl, hjl, HB2.out.setCell (zd _) _, by
        show World.ownsRow _ _ _ _ _ _ _
        rw [← hset.out, List.map_set]; exact hst⟩
    · have hje : j = ss.length := by omega
      subst hje;have hro := HRW.out;rw [zeN] at hro;have hbj := HBB.out;have SJ : Hid (Calls Tryz.prog 71 #[.slice (some ⟨w.heap.size, 0, none⟩) ss.length ss.length, .string ⟨#[44, 32]⟩] wr fun e w' => e = .returned (.string (bs (zE ss))) ∧ Below wr.heap.size wr w') := by
        have e3 : Lib.join ((ss.map bs).map (·.data.toList)) (⟨#[44, 32]⟩ : ByteArray).data.toList = zE ss := by
          rw [List.map_map];have : ss.map ((·.data.toList) ∘ bs) = ss := by
            conv => rhs; rw [← List.map_id ss]
            rfl
          rw [this]; exact zcq ss
        by_cases h0 : ss.length = 0
        · have hs0 : ss = [] := List.eq_nil_of_length_eq_zero h0;rw [hs0];exact (Tryz.strings_Join_none _ _ _ wr).mono fun e w' ⟨he, hw⟩ => ⟨he, hw ▸ ze _ _⟩
        have hlt : w.heap.size < wr.heap.size := by
          obtain ⟨g5, c5, hv5, hg5, hg6⟩ := hro.form (by omega);injection hv5 with hv5; injection hv5 with hv5; injection hv5 with hv5;subst hv5; exact hg6
        have := Tryz.strings_Join w.heap.size 0 ss.length (ss.map bs) ⟨#[44, 32]⟩ wr (zcS hro rfl) hlt (by rw [List.length_map]; omega) (by rw [List.length_map]; exact zd _) (by rw [e3]; omega);rw [e3, List.length_map] at this;exact this
      clear hro;go_wp2_with fail;refine SJ.out.mono ?_;rintro e w2 ⟨rfl, hB2⟩;have HB2 := za (HB.out.trans (hB2.mono HB.out.size));clear hB2;go_wp2_with fail;go_ret;exact ⟨rfl, HB2.out⟩
theorem jA (kv v : Value) (L : List (Int × List UInt8)) (w : World) (hk : IRo w kv (L.map (·.1))) (hf : ∀ q ∈ L, CtF w 44 v q.1 q.2) (hl : L.length ≤ 100000) (hb : (zE (L.map (·.2))).length ≤ 1000000000) :
    Calls Tryz.prog 42 #[kv, .func (.func 44) #[v] #[]] w (zS w (zE (L.map (·.2)))) := by
  have HK := za hk;have HF := za hf;have HBB := za hb;obtain ⟨ao, cp, rfl⟩ := hk.slice;obtain ⟨ss, hss⟩ : ∃ ss, ss = L.map (·.2) := ⟨_, rfl⟩;have hl1 : (L.map (·.1)).length = ss.length := by rw [hss]; simp
  have hl2 : L.length = ss.length := by rw [hss]; simp
  rw [← hss] at HBB ⊢;have HSS := za hss;rw [hl1];rw [hl2] at hl;obtain ⟨i0, qi, qz0, qz1, qz2⟩ := info_parts zeL;obtain ⟨w4, hmk, hown, hgrow⟩ := run_makeSlice_full (P := Tryz.prog) w w.heap.size 42 9 i0 (.string ⟨#[]⟩) 1 Tryz.underlying42 qi qz0 qz1 .i64 .i64 ss.length (by omega) (by rw [qz2]; omega) (by unfold maxLen; omega) (zd _);rw [zcR] at hown;have hB4 : Below w.heap.size w w4 := (ze _ _).grown hgrow (zd _) (fun k hk => by cases hk);have hown2 : w4.ownsRow w.heap.size 9 1 (.slice (some ⟨w.heap.size, 0, none⟩) ss.length ss.length) ss.length ((vE ss 0).map fun x => Value.string (bs x)) := by
    have e : vE ss 0 = List.replicate ss.length [] := by unfold vE; simp
    rw [e]; exact hown
  have HOW := za hown2;have HB4 := za hB4;clear hown hown2 hgrow hB4 hk hf hb hss qi qz0 qz1 qz2;have HL1 := za hl1;have HL2 := za hl2;clear hl1 hl2
  go_enter Tryz.func42, Tryz.ntmps42
  go_wp2_with fail;clear hmk
  go_loopg [6, 7, 13] ss.length (fun gg x6 x7 jj wr => ∃ j : Nat, jj = .int .i64 (j : Int) ∧ gg = ss.length - j ∧ j ≤ ss.length ∧ Hid (Below w.heap.size w wr) ∧ Hid (wr.ownsRow w.heap.size 9 1 (.slice (some ⟨w.heap.size, 0, none⟩) ss.length ss.length) ss.length ((vE ss j).map fun x => Value.string (bs x))))
  case atStart => exact ⟨0, rfl, rfl, Nat.zero_le _, HB4.out, HOW.out⟩
  case round =>
    obtain ⟨j, rfl, rfl, hj, HB, HRW⟩ := hrel;by_cases hjl : j < ss.length
    · have hkr := HK.out.below HB.out;rw [HL1.out] at hkr;have hkr2 : ∃ g o, ao = some ⟨g, o, none⟩ ∧ g < wr.heap.size ∧ ss.length ≤ cp ∧ ∀ (h : j < L.length), wr.cell? ⟨g, o + j, none⟩ = some (.int .i64 L[j].1) := by
        have h1 := HL1.out;rcases HK.out.below HB.out with ⟨h, _⟩ | ⟨g, o, cap, hg, hcap, hv, hc⟩
        · rw [h] at h1; simp at h1; omega
        · injection hv with hv1 hv2 hv3;subst hv3;refine ⟨g, o, hv1, hg, by omega, fun h => ?_⟩;have := hc j (by simpa using h);rw [List.getElem_map] at this; exact this
      obtain ⟨g, o, rfl, hg, hcap, hc⟩ := hkr2;have hjL : j < L.length := by rw [HL2.out]; exact hjl
      have cj := hc hjL;have FC := za (HF.out _ (List.getElem_mem hjL) wr HB.out);have hsj : L[j].2 = ss[j] := by
        have := HSS.out;subst this;rw [List.getElem_map]
      rw [hsj] at FC;have hset := za (zeM ss j hjl);have old := (HRW.out.cellAt j (by omega)).trans (zaW ss j hjl);clear hkr hc hsj;generalize L[j].1 = pj at *;generalize ss[j] = sj at *;go_wp2_with fail;refine FC.out.mono ?_;rintro e w2 ⟨rfl, hB2⟩;have HRW2 := za (qq HRW.out hB2);have HB2 := za (HB.out.trans (hB2.mono HB.out.size));have fz := HRW2.out.frozenAt j;have old2 := (HRW2.out.cellAt j (by omega)).trans (zaW ss j hjl);clear hB2;go_wp2_with fail;have hst := (HRW2.out.stored j (.string (bs sj))).1
      go_roundg (ss.length - (j + 1))
      case measure => omega
      case rel => exact ⟨j + 1, by simp, rfl, hjl, HB2.out.setCell (zd _) _, by
        show World.ownsRow _ _ _ _ _ _ _
        rw [← hset.out, List.map_set]; exact hst⟩
    · have hje : j = ss.length := by omega
      subst hje;have hro := HRW.out;rw [zeN] at hro;have hbj := HBB.out;have SJ : Hid (Calls Tryz.prog 71 #[.slice (some ⟨w.heap.size, 0, none⟩) ss.length ss.length, .string ⟨#[44, 32]⟩] wr fun e w' => e = .returned (.string (bs (zE ss))) ∧ Below wr.heap.size wr w') := by
        have e3 : Lib.join ((ss.map bs).map (·.data.toList)) (⟨#[44, 32]⟩ : ByteArray).data.toList = zE ss := by
          rw [List.map_map];have : ss.map ((·.data.toList) ∘ bs) = ss := by
            conv => rhs; rw [← List.map_id ss]
            rfl
          rw [this]; exact zcq ss
        by_cases h0 : ss.length = 0
        · have hs0 : ss = [] := List.eq_nil_of_length_eq_zero h0;rw [hs0];exact (Tryz.strings_Join_none _ _ _ wr).mono fun e w' ⟨he, hw⟩ => ⟨he, hw ▸ ze _ _⟩
        have hlt : w.heap.size < wr.heap.size := by
          obtain ⟨g5, c5, hv5, hg5, hg6⟩ := hro.form (by omega);injection hv5 with hv5; injection hv5 with hv5; injection hv5 with hv5;subst hv5; exact hg6
        have := Tryz.strings_Join w.heap.size 0 ss.length (ss.map bs) ⟨#[44, 32]⟩ wr (zcS hro rfl) hlt (by rw [List.length_map]; omega) (by rw [List.length_map]; exact zd _) (by rw [e3]; omega);rw [e3, List.length_map] at this;exact this
      clear hro;go_wp2_with fail;refine SJ.out.mono ?_;rintro e w2 ⟨rfl, hB2⟩;have HB2 := za (HB.out.trans (hB2.mono HB.out.size));clear hB2;go_wp2_with fail;go_ret;exact ⟨rfl, HB2.out⟩
end Go.Proofs.YtfcgpphodacdmaaGreatDoor
