/- Part of a proof: contracts of functions. -/
import Derived.Test.YtfcgpphodacdmaaGreatDoorY13
import Derived.Laws.OwnMore
import Derived.Deep.AppendLies
import Derived.Test.YtfcgpphodacdmaaGreatDoorY6
import Derived.Test.YtfcgpphodacdmaaGreatDoorY3
import Derived.Test.YtfcgpphodacdmaaGreatDoorY5
import Derived.Test.YtfcgpphodacdmaaGreatDoorY2
set_option maxRecDepth 100000
set_option maxHeartbeats 4000000
set_option linter.all false
namespace Go.Proofs.YtfcgpphodacdmaaGreatDoor
open Go.RowKit
theorem zgz (l : List Tk) : ∀ (k : Nat) (h : k < l.length),
  (cellsOf l)[k * 4]? = some (.int .i64 l[k].kind) ∧ (cellsOf l)[k * 4 + 1]? = some (.int .i64 l[k].pos) ∧ (cellsOf l)[k * 4 + 2]? = some (.string (bs l[k].text)) ∧ (cellsOf l)[k * 4 + 3]? = some (.int .u64 l[k].bits) := by
 induction l with
 | nil => intro k h; simp at h
 | cons t r ih =>
  intro k h;rcases k with _ | k
  ·simp [cellsOf, tkC]
  ·have := ih k (by simpa using h);have e : cellsOf (t :: r) = .int .i64 t.kind :: .int .i64 t.pos :: .string (bs t.text) :: .int .u64 t.bits :: cellsOf r := rfl;rw [e, show (k + 1) * 4 = k * 4 + 1 + 1 + 1 + 1 by omega]
   simpa using this
theorem znb {w : World} {B e g cap : Nat} {l : List Tk} (h : w.ownsRow B e 4 (.slice (some ⟨g, 0, none⟩) l.length cap) l.length (cellsOf l)) (k : Nat) (hk : k < l.length) :
  w.cell? ⟨g, k * 4, none⟩ = some (.int .i64 l[k].kind) ∧ w.cell? ⟨g, k * 4 + 1, none⟩ = some (.int .i64 l[k].pos) ∧ w.cell? ⟨g, k * 4 + 2, none⟩ = some (.string (bs l[k].text)) ∧ w.cell? ⟨g, k * 4 + 3, none⟩ = some (.int .u64 l[k].bits) := by
 obtain ⟨a, b, c, d⟩ := zgz l k hk;exact ⟨(h.cellAt _ (by omega)).trans a, (h.cellAt _ (by omega)).trans b, (h.cellAt _ (by omega)).trans c, (h.cellAt _ (by omega)).trans d⟩
theorem zjC {s : ByteArray} (h0 : 0 < s.size) (hd : digB (s[0].toNat : Int) = true) : yC s.data.toList = false := by
 have hL := zO s 0 h0;rw [List.drop_zero] at hL;have hl : jv (s[0].toNat : Int) = false := by
  unfold digB at hd; unfold jv; simp only [decide_eq_true_eq] at hd; rw [decide_eq_false_iff_not]; omega
 have : xI s.data.toList = 0 := by rw [hL]; unfold xI ci; simp [hl]
 unfold yC; rw [this, hL]; simp
theorem zh0 {s : ByteArray} (h : nmL s.data.toList < s.size) : yC s.data.toList = false := by
 have : xI s.data.toList ≤ nmL s.data.toList := by unfold xI; split; exact Nat.zero_le _; split; exact zd _; exact Nat.zero_le _
 unfold yC;rw [show (xI s.data.toList == s.data.toList.length) = false by rw [zb, zL]; omega]; simp
theorem zh1 {s : ByteArray} (h0 : 0 < s.size) (hd : digB (s[0].toNat : Int) = false) (h : nmL s.data.toList = s.size) : yC s.data.toList = !zV s.data.toList := by
 have hL := zO s 0 h0;rw [List.drop_zero] at hL;have hnp : npB (s[0].toNat : Int) = true := by
  cases hn : npB (s[0].toNat : Int)
  ·have e : nmL s.data.toList = 0 := by rw [hL, nmL]; unfold ci; rw [hn]; rfl
   omega
  ·rfl
 have hl : jv (s[0].toNat : Int) = true := by
  unfold digB at hd; unfold npB at hnp; unfold jv; simp only [decide_eq_true_eq, decide_eq_false_iff_not] at hd hnp ⊢; omega
 have e : xI s.data.toList = s.data.toList.length := by
  have : xI s.data.toList = nmL s.data.toList := by
   conv => lhs; rw [hL]
   unfold xI ci; simp only [hl, if_true]; rw [← hL]
  rw [this, h, zL]
 have e2 : s.data.toList.isEmpty = false := by rw [hL]; rfl
 unfold yC;rw [e, e2]; simp
theorem vf (s : ByteArray) (hs : s.size ≤ 1000000) (w : World) :
  Calls Tryz.prog 96 #[.string s] w fun e w' => e = .returned (.bool (yC s.data.toList)) ∧ w = w' := by
 by_cases h0 : s.size = 0
 ·have e : s = ⟨#[]⟩ := by
   have : s.data.toList = [] := List.eq_nil_of_length_eq_zero (by rw [zL, h0]);exact zbE this
  subst e
  go_enter Tryz.func96, Tryz.ntmps96
  go_wp2_with fail;go_ret;exact ⟨rfl, rfl⟩
 ·have h1 : 0 < s.size := by omega
  have hne : (s.toList == []) = false := by rw [yZ, decide_eq_false_iff_not]; intro e; have := zL s; rw [e] at this; simp at this; omega
  have D := za (fun w => uf (s[0].toNat : Int) w);have ND := za (@zjC s h1);have NF := za (@zh1 s h1);have NL := za (@zh0 s);cases hd : digB (s[0].toNat : Int)
  ·rw [hd] at D;have NF2 := za (NF.out hd);have W := za (fun w => zbc s w);generalize zV s.data.toList = wo at *;generalize yC s.data.toList = G at *;clear hd
   go_enter Tryz.func96, Tryz.ntmps96
   go_wp2_with fail;refine (D.out _).mono ?_; rintro e w' ⟨rfl, rfl⟩;go_wp2_with fail
   go_loop [13] (fun i => ∃ k : Nat, i = .int .i64 (k : Int) ∧ k ≤ s.size ∧ Hid (nmL s.data.toList = k + nmL (s.data.toList.drop k))) (fun i => s.size - (intOf i).toNat)
   case atStart => exact ⟨0, rfl, by omega, by show _ = _; simp⟩
   case round =>
    obtain ⟨k, rfl, hk, HC⟩ := hrel;by_cases hlt : k < s.size
    ·have C := za (fun w => vX (s[k].toNat : Int) w);have Y := za (@zdo s k hlt);have N := za (@zks s k hlt);have hki : (k : Int) < (s.size : Int) := by omega
     cases hn : npB (s[k].toNat : Int)
     ·rw [hn] at C;have e : G = false := NL.out (by have := HC.out; rw [N.out hn] at this; omega);subst e;clear hn;go_wp2_with fail;refine (C.out _).mono ?_; rintro e w' ⟨rfl, rfl⟩;go_wp2_with fail;go_ret;exact ⟨rfl, rfl⟩
     ·rw [hn] at C;have E := za (show nmL s.data.toList = (k + 1) + nmL (s.data.toList.drop (k + 1)) by have := HC.out; rw [Y.out hn] at this; omega);clear hn;go_wp2_with fail;refine (C.out _).mono ?_; rintro e w' ⟨rfl, rfl⟩;go_wp2_with fail
      go_round
      case rel => exact ⟨k + 1, by go_num, by omega, E.out⟩
      case measure => simp [intOf]; omega
    ·have hki : ¬ (k : Int) < (s.size : Int) := by omega
     have e : G = !wo := NF2.out (by have := HC.out; rw [zhq (by omega)] at this; omega);subst e;go_wp2_with fail;refine (W.out _).mono ?_; rintro e w' ⟨rfl, rfl⟩;go_wp2_with fail;go_ret;exact ⟨rfl, rfl⟩
  ·rw [hd] at D;have E : Hid (yC s.data.toList = false) := ND.out hd;generalize yC s.data.toList = G at *;have e := E.out;subst e;clear hd
   go_enter Tryz.func96, Tryz.ntmps96
   go_wp2_with fail;refine (D.out _).mono ?_; rintro e w' ⟨rfl, rfl⟩;go_wp2_with fail;go_ret;exact ⟨rfl, rfl⟩
def exT : List Tk := [⟨1, 0, [97], 0⟩, ⟨5, 1, [43, 43], 0⟩, ⟨5, 3, [43], 0⟩, ⟨1, 4, [98], 0⟩]
theorem zjD (s : ByteArray) (n : Int) : (s.extract 0 (min (s.size : Int) n).toNat).size ≤ n.toNat := by rw [ByteArray.size_extract]; omega
end Go.Proofs.YtfcgpphodacdmaaGreatDoor
namespace Go.Proofs.YtfcgpphodacdmaaGreatDoor
theorem jY {c : UInt8} (h : npB (ci c) = true) : ci c < 128 := by unfold npB at h; simp only [decide_eq_true_eq] at h; omega
theorem uJ : ∀ {L : List UInt8}, nmL L = L.length → ∀ c ∈ L, npB (ci c) = true
 | [], _, c, hc => by simp at hc
 | d :: r, h, c, hc => by
  rw [nmL] at h;cases hd : npB (ci d)
  ·rw [hd] at h; simp at h
  ·rw [hd] at h;rcases List.mem_cons.1 hc with rfl | hc
   ·exact hd
   ·exact uJ (by simpa using h) c hc
theorem qK (L : List UInt8) (h : ∀ c ∈ L, ci c < 128) : ∀ (j a : Nat), L.length - a ≤ j → chk L a = none
 | 0, a, hj => qr (by omega)
 | j + 1, a, hj => by
  by_cases ha : a < L.length
  ·have hb : by8 L a = ci L[a] := by unfold by8 ci; simp [List.getElem?_eq_getElem ha]
   have h1 := h L[a] (List.getElem_mem ha);have h0 := zof L[a];have h4 : ∀ d e f, yn (ci L[a]) d e f = 1 := fun d e f => by unfold yn; rw [if_pos h1]
   have hs : ¬ z6 L a < 0 := by unfold z6 qM; rw [hb, h4]; simp; omega
   have hp : zH L a = 1 := by unfold zH zN yn; rw [hb, if_pos h1]; rfl
   rw [qt ha hs, hp];exact qK L h j (a + 1) (by omega)
  ·exact qr (by omega)
theorem jw : ∀ P ∈ zc4, xI P = P.length ∧ P ≠ [] := by decide +kernel
theorem uC {L : List UInt8} (h : yC L = true) : L ≠ [] ∧ xI L = L.length ∧ zV L = false := by
 unfold yC at h;simp only [Bool.and_eq_true, Bool.not_eq_true', beq_iff_eq] at h;refine ⟨?_, h.1.2, h.2⟩;intro e; rw [e] at h; simp at h
theorem zdX : ∀ (j : Nat) (R : List UInt8) (a op p c : Int), R.length ≤ j → xe R a op = .error (p, c) → c = 5 ∨ c = 6
 | j, [], a, op, p, c, _, h => by rw [xe] at h; cases h
 | 0, d :: r, a, op, p, c, hj, h => by simp at hj
 | j + 1, d :: r, a, op, p, c, hj, h => by
  rw [q8] at h;split at h
  ·injection h with h; injection h with _ h; exact .inl h.symm
  ·split at h
   ·injection h with h; injection h with _ h; exact .inr h.symm
   ·rename_i t n ht _
    unfold xq at h;split at h
    ·injection h with h; injection h with _ h; exact .inl h.symm
    ·rename_i m hg
     cases hx : xe ((r.drop (n - 1)).drop m) (a + n + m) (opA t op) with
     | ok l => rw [hx] at h; cases h
     | error e =>
      obtain ⟨p', c'⟩ := e;rw [hx] at h;simp only [vN, Except.error.injEq, Prod.mk.injEq] at h;obtain ⟨rfl, rfl⟩ := h;exact zdX j _ _ _ _ _ (by rw [List.length_drop, List.length_drop]; simp at hj; omega) hx
theorem zfB {L : List UInt8} {p c : Int} (h : yQ L = .error (p, c)) : 3 ≤ c ∧ c ≤ 6 := by
 unfold yQ at h;split at h
 ·injection h with h; injection h with _ h; omega
 ·split at h
  ·injection h with h; injection h with _ h; omega
  ·unfold xq at h;split at h
   ·injection h with h; injection h with _ h; omega
   ·have := zdX _ _ _ _ _ _ (zd _) h;omega
theorem ur {R : List UInt8} {n : Nat} (J : List UInt8) (h : n ≤ R.length) : (R ++ J).take n = R.take n := List.take_append_of_le_length h
theorem zh2 {R : List UInt8} {n : Nat} (J : List UInt8) (h : n ≤ R.length) : (R ++ J).drop n = R.drop n ++ J := List.drop_append_of_le_length h
theorem zdY : ∀ (i : Nat) (R J : List UInt8) (n x : Int), xj i R n = some x → xj i (R ++ J) n = some x
 | 0, R, J, n, x, h => h
 | i + 1, [], J, n, x, h => by cases h
 | i + 1, c :: r, J, n, x, h => by
  rw [xj] at h;rw [List.cons_append, xj];split at h
  ·cases h
  ·rename_i hc
   rw [if_neg hc];exact zdY i r J _ x h
theorem zjE {R J : List UInt8} {x : List UInt8 × Nat} (h : q7 R = some x) : q7 (R ++ J) = some x := by
 match R with
 | [] => cases h
 | d :: r =>
  rw [List.cons_append];unfold q7 at h ⊢;simp only at h ⊢;split at h
  ·rename_i c1; rw [if_pos c1]; exact h
  rename_i c1; rw [if_neg c1]; clear c1
  split at h
  ·rename_i c1; rw [if_pos c1]; exact h
  rename_i c1; rw [if_neg c1]; clear c1
  split at h
  ·rename_i c1; rw [if_pos c1]; exact h
  rename_i c1; rw [if_neg c1]; clear c1
  split at h
  ·rename_i c1; rw [if_pos c1]; exact h
  rename_i c1; rw [if_neg c1]; clear c1
  split at h
  ·rename_i c1; rw [if_pos c1]; exact h
  rename_i c1; rw [if_neg c1]; clear c1
  split at h
  ·rename_i c1
   rw [if_pos c1];cases hx : xj 4 r 0 with
   | none => rw [hx] at h; cases h
   | some n => rw [zdY _ _ J _ _ hx]; rw [hx] at h; exact h
  ·cases h
theorem zdZ {R J : List UInt8} {x : List UInt8 × Nat} (h : xZ R = some x) : xZ (R ++ J) = some x := by
 match R with
 | [] => cases h
 | c :: r =>
  rw [List.cons_append];unfold xZ at h ⊢;simp only at h ⊢;split at h
  ·rename_i hc
   rw [if_pos hc];cases he : q7 r with
   | none => rw [he] at h; cases h
   | some y => rw [he] at h; rw [zjE he]; exact h
  ·rename_i hc
   rw [if_neg hc]; exact h
theorem zbo (J : List UInt8) : ∀ (j : Nat) {q : UInt8} {R o : List UInt8} {m : Nat}, R.length ≤ j → txt q R = some (o, m) → txt q (R ++ J) = some (o, m)
 | j, q, [], o, m, _, h => by rw [txt] at h; cases h
 | 0, q, c :: r, o, m, hj, h => by simp at hj
 | j + 1, q, c :: r, o, m, hj, h => by
  rw [txt] at h;rw [List.cons_append, txt];split at h
  ·rename_i hc; rw [if_pos hc]; exact h
  ·rename_i hc
   rw [if_neg hc];cases ho : xZ (c :: r) with
   | none => rw [ho] at h; cases h
   | some x =>
    obtain ⟨o1, n⟩ := x;have h1 := zdZ (J := J) ho;rw [List.cons_append] at h1;rw [ho] at h; rw [h1];simp only at h ⊢;cases ht : txt q (r.drop (n - 1)) with
    | none => rw [ht] at h; cases h
    | some y =>
     obtain ⟨o2, m2⟩ := y;have hn : n - 1 ≤ r.length := by
      have hs := zbq _ (zd _) ht;rw [List.length_drop] at hs; omega
     have h2 := zbo J j (by rw [List.length_drop]; simp at hj; omega) ht;rw [zh2 J hn, h2];rw [ht] at h; exact h
theorem zaP {R : List UInt8} {k : Nat} {a op : Int} (h : gap R = (k, true)) : xq R a op = xe (R.drop k) (a + k) op := by unfold xq; rw [h]
theorem jm {R : List UInt8} {k : Nat} {a op : Int} (h : gap R = (k, false)) : xq R a op = .error (a + k, 5) := by unfold xq; rw [h]
def zrD (d : Int) (t : Tk) : Tk := { t with pos := t.pos + d }
theorem zcF {L : List UInt8} {l : List Tk} (h : yQ L = .ok l) : L.length ≤ 4096 ∧ chk L 0 = none ∧ xq L 0 0 = .ok l := by
 unfold yQ at h;split at h
 ·cases h
 ·split at h
  ·cases h
  ·rename_i hc; exact ⟨by omega, hc, h⟩
theorem zh3 : ∀ (R : List UInt8) (m : Nat), nmL R ≤ m → nmL (R.take m) = nmL R
 | [], m, _ => by simp
 | c :: r, m, h => by
  rw [nmL] at h ⊢;cases hc : npB (ci c)
  ·cases m with
   | zero => rfl
   | succ m => rw [List.take_succ_cons, nmL, hc]; rfl
  ·rw [hc] at h;simp only [if_true] at h ⊢;obtain ⟨m, rfl⟩ : ∃ j, m = j + 1 := ⟨m - 1, by omega⟩;rw [List.take_succ_cons, nmL, hc];simp only [if_true];rw [zh3 r m (by omega)]
theorem zd0 {L : List UInt8} {a : Nat} (ha : a < L.length) : by8 L a = ci L[a] := by unfold by8 ci; simp [List.getElem?_eq_getElem ha]
theorem zh4 (L : List UInt8) (a : Nat) (hb : by8 L a < 128) : ∀ (j k : Nat), a - k ≤ j → k ≤ a → a ≤ L.length → chk L k = none → chk L a = none
 | 0, k, hj, hk, hl, h => by rw [show a = k by omega]; exact h
 | j + 1, k, hj, hk, hl, h => by
  by_cases he : k = a
  ·rw [← he]; exact h
  ·have hs : ¬ z6 L k < 0 := fun hs => by rw [uG (by omega) hs] at h; cases h
   rw [qt (by omega) hs] at h;refine zh4 L a hb j _ (by have := xW L k; omega) ?_ hl h;have hr := vK (by8 L k) (by8 L (k + 1)) (by8 L (k + 2)) (by8 L (k + 3));have hf := zcs (by8 L k) (by8 L (k + 1)) (by8 L (k + 2)) (by8 L (k + 3));rcases Nat.lt_or_ge a (k + zH L k) with hlt | hge
   ·exfalso
    unfold zH zN at hlt;have hne : ∀ i, a = k + i → by8 L (k + i) < 128 := fun i hi => by rw [← hi]; exact hb
    split at hlt
    ·omega
    ·have h4 : yn (by8 L k) (by8 L (k + 1)) (by8 L (k + 2)) (by8 L (k + 3)) = 1 ∨ yn (by8 L k) (by8 L (k + 1)) (by8 L (k + 2)) (by8 L (k + 3)) = 2 ∨ yn (by8 L k) (by8 L (k + 1)) (by8 L (k + 2)) (by8 L (k + 3)) = 3 ∨ yn (by8 L k) (by8 L (k + 1)) (by8 L (k + 2)) (by8 L (k + 3)) = 4 := by omega
     rcases h4 with h4 | h4 | h4 | h4
     ·rw [h4] at hlt; simp at hlt; omega
     ·rw [h4] at hlt; simp at hlt;have := hf.1 h4; have := hne 1 (by omega); omega
     ·rw [h4] at hlt; simp at hlt;have := hf.2.1 h4;rcases (show a = k + 1 ∨ a = k + 2 by omega) with e | e
      ·have := hne 1 e; omega
      ·have := hne 2 e; omega
     ·rw [h4] at hlt; simp at hlt;have := hf.2.2 h4;rcases (show a = k + 1 ∨ a = k + 2 ∨ a = k + 3 by omega) with e | e | e
      ·have := hne 1 e; omega
      ·have := hne 2 e; omega
      ·have := hne 3 e; omega
   ·exact hge
theorem zjF {L : List UInt8} {a : Nat} (hl : a ≤ L.length) (hb : by8 L a < 128) (h : chk L 0 = none) : chk (L.drop a) 0 = none := by
 have h1 := zh4 L a hb _ 0 (zd _) (Nat.zero_le _) hl h;have h2 := jd (L.take a) (L.drop a) _ 0 (zd _);rw [List.take_append_drop, List.length_take, Nat.min_eq_left hl, Nat.add_zero, h1] at h2;cases hx : chk (L.drop a) 0 with
 | none => rfl
 | some x => rw [hx] at h2; cases h2
theorem vC {L : List UInt8} {m i : Nat} (h : i < m) : by8 (L.take m) i = by8 L i := by
 unfold by8; rw [List.getD_eq_getElem?_getD, List.getD_eq_getElem?_getD, List.getElem?_take, if_pos h]
theorem zjG {c d e f : Int} (d' e' f' : Int) : (yn c d e f = 1 → yn c d' e' f' = 1 ∧ qM c d' e' f' = qM c d e f) ∧ (yn c d e f = 2 → yn c d e' f' = 2 ∧ qM c d e' f' = qM c d e f) ∧
  (yn c d e f = 3 → yn c d e f' = 3 ∧ qM c d e f' = qM c d e f) := by
 have a1 := xh c d e f;have a2 := xh c d' e' f';have a3 := xh c d e' f';have a4 := xh c d e f';have b1 := xu c d e f;have b2 := xu c d' e' f';have b3 := xu c d e' f';have b4 := xu c d e f';refine ⟨fun h => ?_, fun h => ?_, fun h => ?_⟩
 ·have h2 := a2.1.2 (a1.1.1 h);exact ⟨h2, by rw [b1.1 h, b2.1 h2]⟩
 ·have h2 := a3.2.1.2 (a1.2.1.1 h);exact ⟨h2, by rw [b1.2.1 h, b3.2.1 h2]⟩
 ·have h2 := a4.2.2.1.2 (a1.2.2.1.1 h);exact ⟨h2, by rw [b1.2.2.1 h, b4.2.2.1 h2]⟩
theorem zbN : ∀ P ∈ qN, ∀ c ∈ P, ci c < 128 := by decide +kernel
theorem zd1 (R : List UInt8) : ∀ n, yl R n ≠ 0 → xm (R.take (yl R n)) = true
 | 0, h => absurd rfl h
 | n + 1, h => by
  rw [yl] at h ⊢;by_cases hc : n + 1 ≤ R.length ∧ xm (R.take (n + 1)) = true
  ·rw [if_pos hc]; exact hc.2
  ·rw [if_neg hc] at h ⊢; exact zd1 R n h
theorem zd2 {c : UInt8} {r : List UInt8} {t : Tk} {n : Nat} (h : yh (c :: r) = some (t, n)) : ci c < 128 := by
 unfold yh at h;simp only at h;split at h
 ·rename_i hc; unfold digB at hc; simp only [decide_eq_true_eq] at hc; omega
 ·split at h
  ·rename_i hc; exact jY hc
  ·split at h
   ·omega
   ·split at h
    ·cases h
    ·rename_i hs
     have h1 := zd1 (c :: r) 4 hs;obtain ⟨k, hk⟩ : ∃ k, yl (c :: r) 4 = k + 1 := ⟨yl (c :: r) 4 - 1, by omega⟩;rw [hk, List.take_succ_cons] at h1;exact zbN _ (by unfold xm at h1; simpa using h1) c (by simp)
def hxU (d : Nat) : UInt8 := UInt8.ofNat (if d < 10 then 48 + d else 87 + d)
def xA (c : UInt8) : List UInt8 :=
 if c = 92 ∨ c = 34 then [92, c] else if c = 10 then [92, 110] else if c = 13 then [92, 114] else if c = 9 then [92, 116]
 else if c.toNat < 32 then [92, 117, 48, 48, hxU (c.toNat / 16), hxU (c.toNat % 16)] else [c]
def yX (L : List UInt8) : List UInt8 := L.flatMap xA
def yf (L : List UInt8) : List UInt8 := 34 :: (yX L ++ [34])
theorem vP (c : UInt8) (r : List UInt8) : yX (c :: r) = xA c ++ yX r := by simp [yX]
theorem zav (a b : List UInt8) : yX (a ++ b) = yX a ++ yX b := by simp [yX]
theorem zlu : ∀ n, n < 256 → xZ (xA (UInt8.ofNat n)) = some ([UInt8.ofNat n], (xA (UInt8.ofNat n)).length) ∧ (xA (UInt8.ofNat n)).head? ≠ some 34 ∧ 1 ≤ (xA (UInt8.ofNat n)).length ∧ (xA (UInt8.ofNat n)).length ≤ 6 := by decide +kernel
theorem zcg (c : UInt8) : xZ (xA c) = some ([c], (xA c).length) ∧ (xA c).head? ≠ some 34 ∧ 1 ≤ (xA c).length ∧ (xA c).length ≤ 6 := by
 have := zlu c.toNat c.toNat_lt; rwa [UInt8.ofNat_toNat] at this
theorem zlv : ∀ n, n < 128 → ∀ d ∈ xA (UInt8.ofNat n), ci d < 128 := by decide +kernel
theorem zh5 {c : UInt8} (h : ci c < 128) : ∀ d ∈ xA c, ci d < 128 := by
 have := zlv c.toNat (by unfold ci at h; omega); rwa [UInt8.ofNat_toNat] at this
theorem zjH {c : UInt8} (h : 128 ≤ ci c) : xA c = [c] := by
 unfold ci at h;have n1 : ¬ (c = 92 ∨ c = 34) := by rintro (rfl | rfl) <;> exact absurd h (by decide)
 have n2 : ¬ c = 10 := by rintro rfl; exact absurd h (by decide)
 have n3 : ¬ c = 13 := by rintro rfl; exact absurd h (by decide)
 have n4 : ¬ c = 9 := by rintro rfl; exact absurd h (by decide)
 unfold xA; rw [if_neg n1, if_neg n2, if_neg n3, if_neg n4, if_neg (by omega)]
theorem zaw (L : List UInt8) : (yX L).length ≤ 6 * L.length := by
 induction L with
 | nil => simp [yX]
 | cons c r ih => rw [vP, List.length_append, List.length_cons]; have := (zcg c).2.2.2; omega
theorem zgA (L : List UInt8) : (yf L).length ≤ 6 * L.length + 2 := by unfold yf; have := zaw L; simp; omega
theorem zd3 : ∀ (L J : List UInt8), txt 34 (yX L ++ 34 :: J) = some (L, (yX L).length + 1)
 | [], J => by show txt 34 (34 :: J) = _; rw [txt, if_pos rfl]; rfl
 | c :: r, J => by
  have ih := zd3 r J;obtain ⟨h1, h2, h3, _⟩ := zcg c;rw [vP, List.append_assoc];generalize yX r ++ 34 :: J = X at *;generalize xA c = e at *
  match e, h3 with
  | d :: q, _ =>
   have hd : ¬ d = 34 := fun h => h2 (by rw [h]; rfl)
   have hj := zdZ (J := X) h1;rw [List.cons_append] at hj ⊢;rw [txt, if_neg hd, hj];have e1 : (q ++ X).drop ((d :: q).length - 1) = X := by simp
   simp only [e1, ih];simp; omega
theorem zh6 (L J : List UInt8) : yh (yf L ++ J) = some (⟨4, 0, L, 0⟩, (yf L).length) := by
 have h := zd3 L J;unfold yf;rw [List.cons_append, List.append_assoc];show yh (34 :: (yX L ++ 34 :: J)) = _
 unfold yh;simp only;rw [if_neg (by decide), if_neg (by decide), if_pos (by decide)];rw [h];simp
theorem zbO {c : UInt8} {r : List UInt8} (h : chk (c :: r) 0 = none) :
  ∃ A R, c :: r = A ++ R ∧ A ≠ [] ∧ chk A 0 = none ∧ chk R 0 = none ∧ ((A = [c] ∧ ci c < 128) ∨ ∀ d ∈ A, 128 ≤ ci d) := by
 have h0 : 0 < (c :: r).length := by simp
 have hc0 : by8 (c :: r) 0 = ci c := by rw [zd0 h0]; rfl
 generalize hL : c :: r = L at *;have hs : ¬ z6 L 0 < 0 := fun hs => by rw [uG h0 hs] at h; cases h
 have hn : chk L (0 + zH L 0) = none := by rw [qt h0 hs] at h; exact h
 have hin := jD h0;have hr := vK (by8 L 0) (by8 L (0 + 1)) (by8 L (0 + 2)) (by8 L (0 + 3));have hi := xh (by8 L 0) (by8 L (0 + 1)) (by8 L (0 + 2)) (by8 L (0 + 3));have hz : yn (by8 L 0) (by8 L (0 + 1)) (by8 L (0 + 2)) (by8 L (0 + 3)) ≠ 0 := fun hz => hs (by unfold z6 qM; rw [if_pos hz]; decide)
 have hst : ((zH L 0 : Nat) : Int) = yn (by8 L 0) (by8 L (0 + 1)) (by8 L (0 + 2)) (by8 L (0 + 3)) := by
  unfold zH zN; rw [if_neg hz]; omega
 have own := zjG (c := by8 L 0) (d := by8 L (0 + 1)) (e := by8 L (0 + 2)) (f := by8 L (0 + 3)) (by8 (L.take (zH L 0)) (0 + 1)) (by8 (L.take (zH L 0)) (0 + 2)) (by8 (L.take (zH L 0)) (0 + 3));have h4 : yn (by8 L 0) (by8 L (0 + 1)) (by8 L (0 + 2)) (by8 L (0 + 3)) = 1 ∨ yn (by8 L 0) (by8 L (0 + 1)) (by8 L (0 + 2)) (by8 L (0 + 3)) = 2 ∨ yn (by8 L 0) (by8 L (0 + 1)) (by8 L (0 + 2)) (by8 L (0 + 3)) = 3 ∨ yn (by8 L 0) (by8 L (0 + 1)) (by8 L (0 + 2)) (by8 L (0 + 3)) = 4 := by omega
 have hdrop : chk (L.drop (zH L 0)) 0 = none := by
  have h2 := jd (L.take (zH L 0)) (L.drop (zH L 0)) _ 0 (zd _);rw [List.take_append_drop, List.length_take, Nat.min_eq_left (by omega), Nat.add_zero] at h2;rw [Nat.zero_add] at hn;rw [hn] at h2;cases hx : chk (L.drop (zH L 0)) 0 with
  | none => rfl
  | some x => rw [hx] at h2; cases h2
 have htake : zN (L.take (zH L 0)) 0 = zN L 0 ∧ z6 (L.take (zH L 0)) 0 = z6 L 0 := by
  have hn4 : zH L 0 ≠ 0 := by omega
  unfold zN z6;rw [vC (show 0 < zH L 0 by omega)];rcases h4 with h4 | h4 | h4 | h4
  ·have o := own.1 h4;exact ⟨o.1.trans h4.symm, o.2⟩
  ·have o := own.2.1 h4;rw [vC (show 0 + 1 < zH L 0 by omega)];exact ⟨o.1.trans h4.symm, o.2⟩
  ·have o := own.2.2 h4;rw [vC (show 0 + 1 < zH L 0 by omega), vC (show 0 + 2 < zH L 0 by omega)];exact ⟨o.1.trans h4.symm, o.2⟩
  ·rw [vC (show 0 + 1 < zH L 0 by omega), vC (show 0 + 2 < zH L 0 by omega), vC (show 0 + 3 < zH L 0 by omega)];exact ⟨rfl, rfl⟩
 have hlen : (L.take (zH L 0)).length = zH L 0 := by rw [List.length_take]; omega
 have hstT : zH (L.take (zH L 0)) 0 = zH L 0 := by
  have e : zH (L.take (zH L 0)) 0 = if zN (L.take (zH L 0)) 0 = 0 then 1 else (zN (L.take (zH L 0)) 0).toNat := rfl
  rw [e, htake.1]; rfl
 have htk : chk (L.take (zH L 0)) 0 = none := by
  rw [qt (by omega) (by rw [htake.2]; exact hs), hstT, Nat.zero_add];exact qr (by omega)
 refine ⟨L.take (zH L 0), L.drop (zH L 0), (List.take_append_drop _ _).symm, fun e => by rw [e] at hlen; simp at hlen; omega, htk, hdrop, ?_⟩;by_cases hlow : by8 L 0 < 128
 ·left
  have h1 := hi.1.2 hlow;have h1s : zH L 0 = 1 := by omega
  refine ⟨?_, by rw [← hc0]; exact hlow⟩;rw [h1s, ← hL]; rfl
 ·right
  intro d hd;obtain ⟨i, hi2, rfl⟩ := List.mem_iff_getElem.1 hd;have hi3 : i < zH L 0 := by rw [← hlen]; exact hi2
  have hin2 : zH L 0 ≤ L.length := (Nat.zero_add (zH L 0)) ▸ hin;have hiL : i < L.length := Nat.lt_of_lt_of_le hi3 hin2;refine Int.le_trans ?_ (Int.le_of_eq ((zd0 hiL).trans (congrArg ci (List.getElem_take (h := hi2)).symm)));clear hd hi2;have hc : i = 0 ∨ i = 0 + 1 ∨ i = 0 + 2 ∨ i = 0 + 3 := by omega
  rcases hc with rfl | rfl | rfl | rfl
  ·omega
  all_goals
   rcases h4 with h4 | h4 | h4 | h4
   ·omega
   ·have := hi.2.1.1 h4; omega
   ·have := hi.2.2.1.1 h4; omega
   ·have := hi.2.2.2.1 h4; omega
theorem zgB {A R : List UInt8} (h : chk (A ++ R) 0 = none) (hA : chk A 0 = none) : chk R 0 = none := by
 rw [zdf hA] at h;cases hx : chk R 0 with
 | none => rfl
 | some x => rw [hx] at h; cases h
theorem vg {A R : List UInt8} (hA : chk A 0 = none) (hR : chk R 0 = none) : chk (A ++ R) 0 = none := by
 rw [zdf hA, hR]; rfl
theorem jJ {c : UInt8} (h : ci c < 128) : chk [c] 0 = none := qK [c] (fun d hd => by simp at hd; rw [hd]; exact h) _ 0 (zd _)
theorem uW {c : UInt8} {r : List UInt8} (h : chk (c :: r) 0 = none) (hc : ci c < 128) : chk r 0 = none := zgB (A := [c]) h (jJ hc)
theorem zch : chk [] 0 = none := qr (by simp)
theorem zcG {P : List UInt8 → Prop} (h0 : P []) (h1 : ∀ c R, ci c < 128 → chk R 0 = none → P R → P (c :: R))
  (h2 : ∀ A R, (∀ d ∈ A, 128 ≤ ci d) → chk A 0 = none → chk R 0 = none → P R → P (A ++ R)) : ∀ (j : Nat) (L : List UInt8), L.length ≤ j → chk L 0 = none → P L
 | _, [], _, _ => h0
 | 0, c :: r, hj, _ => by simp at hj
 | j + 1, c :: r, hj, h => by
  obtain ⟨A, R, e, hne, hA, hR, hc⟩ := zbO h;have hl : (c :: r).length = A.length + R.length := by rw [e, List.length_append]
  have hA1 : 1 ≤ A.length := by cases A with | nil => exact absurd rfl hne | cons a b => simp
  have ih := zcG h0 h1 h2 j R (by simp at hj hl; omega) hR;rw [e];rcases hc with ⟨rfl, hc⟩ | hc
  ·exact h1 c R hc hR ih
  ·exact h2 A R hc hA hR ih
theorem zcH : ∀ (A : List UInt8), (∀ d ∈ A, 128 ≤ ci d) → yX A = A
 | [], _ => rfl
 | c :: r, h => by rw [vP, zjH (h c (by simp)), zcH r (fun d hd => h d (by simp [hd]))]; rfl
theorem zjI {L : List UInt8} (h : chk L 0 = none) : chk (yX L) 0 = none := by
 refine zcG (P := fun L => chk (yX L) 0 = none) zch ?_ ?_ _ L (zd _) h
 ·intro c R hc hR ih;show chk (yX (c :: R)) 0 = none
  rw [vP]; exact vg (qK _ (zh5 hc) _ 0 (zd _)) ih
 ·intro A R hc hA hR ih;show chk (yX (A ++ R)) 0 = none
  rw [zav, zcH A hc]; exact vg hA ih
theorem zh7 {L : List UInt8} (h : chk L 0 = none) : chk (yf L) 0 = none :=
 vg (A := [34]) (jJ (by decide)) (vg (zjI h) (jJ (by decide)))
theorem zd4 (q : UInt8) (hq : ci q < 128) : ∀ (A R : List UInt8), (∀ d ∈ A, 128 ≤ ci d) → txt q (A ++ R) = (txt q R).map fun x => (A ++ x.1, A.length + x.2)
 | [], R, _ => by
  rw [List.nil_append];cases txt q R with
  | none => rfl
  | some x => simp
 | c :: r, R, h => by
  have hc := h c (by simp);have hne : ¬ c = q := fun e => by rw [e] at hc; omega
  have ho : xZ (c :: (r ++ R)) = some ([c], 1) := by unfold xZ; simp only; rw [if_neg (by omega), if_neg (by omega)]
  rw [List.cons_append, txt, if_neg hne, ho];simp only [Nat.sub_self, List.drop_zero];rw [zd4 q hq r R (fun d hd => h d (by simp [hd]))];cases txt q R with
  | none => rfl
  | some x => simp; omega
theorem zbP : ∀ (i : Nat) (R : List UInt8) (n x : Int), xj i R n = some x → chk R 0 = none → chk (R.drop i) 0 = none
 | 0, R, n, x, _, h => by simpa using h
 | i + 1, [], n, x, h, _ => by cases h
 | i + 1, c :: r, n, x, h, hk => by
  rw [xj] at h;split at h
  ·cases h
  ·rename_i hc
   have hlow : ci c < 128 := by unfold xp at hc; split at hc; omega; split at hc; omega; split at hc; omega; exact absurd rfl hc
   rw [List.drop_succ_cons];exact zbP i r _ x h (uW hk hlow)
theorem zh8 {R o : List UInt8} {n : Nat} (hk : chk R 0 = none) (h : q7 R = some (o, n)) : chk o 0 = none ∧ chk (R.drop n) 0 = none := by
 match R with
 | [] => cases h
 | d :: r =>
  unfold q7 at h;simp only at h;have one : ∀ (e : UInt8), ci d < 128 → ci e < 128 → some ([e], 1) = some (o, n) → chk o 0 = none ∧ chk ((d :: r).drop n) 0 = none := by
   intro e hd he h;injection h with h; injection h with h1 h2;subst h1; subst h2;exact ⟨jJ he, uW hk hd⟩
  split at h
  ·rename_i c1; exact one d (by omega) (by omega) h
  split at h
  ·rename_i c1; exact one 10 (by omega) (by decide) h
  split at h
  ·rename_i c1; exact one 13 (by omega) (by decide) h
  split at h
  ·rename_i c1; exact one 9 (by omega) (by decide) h
  split at h
  ·rename_i c1; exact one 0 (by omega) (by decide) h
  split at h
  ·rename_i c1
   cases hx : xj 4 r 0 with
   | none => rw [hx] at h; cases h
   | some x =>
    rw [hx] at h;simp only at h;split at h
    ·cases h
    ·rename_i hs
     injection h with h; injection h with h1 h2;subst h1; subst h2;exact ⟨(zhi hs).1, zbP 4 r 0 x hx (uW hk (by omega))⟩
  ·cases h
theorem zax (q : UInt8) (hq : ci q < 128) : ∀ (j : Nat) (R o : List UInt8) (m : Nat), R.length ≤ j → chk R 0 = none → txt q R = some (o, m) → chk o 0 = none
 | j, [], o, m, _, _, h => by rw [txt] at h; cases h
 | 0, c :: r, o, m, hj, _, _ => by simp at hj
 | j + 1, c :: r, o, m, hj, hk, h => by
  obtain ⟨A, R, e, hne, hA, hR, hc⟩ := zbO hk;have hl : (c :: r).length = A.length + R.length := by rw [e, List.length_append]
  have hA1 : 1 ≤ A.length := by cases A with | nil => exact absurd rfl hne | cons a b => simp
  rcases hc with ⟨rfl, hc⟩ | hc
  ·rw [txt] at h;split at h
   ·injection h with h; injection h with h1 h2; subst h1; exact zch
   ·cases ho : xZ (c :: r) with
    | none => rw [ho] at h; cases h
    | some x =>
     obtain ⟨o1, n⟩ := x;rw [ho] at h;simp only at h;cases ht : txt q (r.drop (n - 1)) with
     | none => rw [ht] at h; cases h
     | some y =>
      obtain ⟨p, k⟩ := y;rw [ht] at h;injection h with h; injection h with h1 h2;subst h1;have hr := uW hk hc;have key : chk o1 0 = none ∧ chk (r.drop (n - 1)) 0 = none := by
       unfold xZ at ho;simp only at ho;split at ho
       ·cases he : q7 r with
        | none => rw [he] at ho; cases ho
        | some z =>
         obtain ⟨o2, n2⟩ := z;rw [he] at ho;injection ho with ho; injection ho with h3 h4;subst h3; subst h4;exact zh8 hr he
       ·split at ho
        ·cases ho
        ·injection ho with ho; injection ho with h3 h4;subst h3; subst h4;exact ⟨jJ hc, hr⟩
      exact vg key.1 (zax q hq j (r.drop (n - 1)) p k (by rw [List.length_drop]; simp at hj; omega) key.2 ht)
  ·rw [e, zd4 q hq A R hc] at h;cases ht : txt q R with
   | none => rw [ht] at h; cases h
   | some y =>
    obtain ⟨p, k⟩ := y;rw [ht] at h;simp only [Option.map_some, Option.some.injEq, Prod.mk.injEq] at h;obtain ⟨rfl, _⟩ := h;exact vg hA (zax q hq j R p k (by simp at hj hl; omega) hR ht)
theorem za0 (base : Int) (m : List UInt8) : ∀ (l : List UInt8) (n : Int), y6 base (l ++ m) n = (y6 base l n).bind (y6 base m)
 | [], n => rfl
 | c :: r, n => by
  rw [List.cons_append, y6, y6];split
  ·rfl
  ·split
   ·rfl
   ·exact za0 base m r _
theorem zd5 {d : Nat} (h : d < 10) : ci (UInt8.ofNat (48 + d)) = 48 + d := by unfold ci; rw [UInt8.toNat_ofNat']; omega
theorem zfC {d : Nat} (h : d < 10) : xp (ci (UInt8.ofNat (48 + d))) = d := by
 rw [zd5 h]; unfold xp; rw [if_pos (by omega)]; omega
theorem zjJ (u : Nat) : u ≤ 9007199254740992 → y6 10 (Lib.decDigits u) 0 = some (u : Int) := by
 induction u using Nat.strongRecOn with
 | ind u ih =>
  intro hu;rw [Lib.decDigits];by_cases h : u < 10
  ·rw [dif_pos h, y6, zfC h, if_neg (by omega), if_neg (by omega), y6]; simp
  ·rw [dif_neg h, za0, ih (u / 10) (by omega) (by omega)];show y6 10 _ _ = _
   rw [y6, zfC (Nat.mod_lt _ (by decide)), if_neg (by omega), if_neg (by omega), y6];congr 1; omega
theorem zjK (u : Nat) : 0 < u → ∃ c r, Lib.decDigits u = c :: r ∧ c ≠ 48 := by
 induction u using Nat.strongRecOn with
 | ind u ih =>
  intro hu;rw [Lib.decDigits];by_cases h : u < 10
  ·rw [dif_pos h];refine ⟨_, [], rfl, ?_⟩;intro e;have := zd5 h;rw [e] at this;have h48 : ci 48 = 48 := rfl;omega
  ·rw [dif_neg h];obtain ⟨c, r, e, hc⟩ := ih (u / 10) (by omega) (by omega);rw [e]; exact ⟨c, _, rfl, hc⟩
theorem zjL : Lib.decDigits 0 = [48] := by rw [Lib.decDigits]; rfl
theorem zlw (u : Nat) (hu : u ≤ 9007199254740992) : y7 (Lib.decDigits u) = some (u : Int) := by
 by_cases h : u = 0
 ·subst h; rw [zjL]; rfl
 ·obtain ⟨c, r, e, hc⟩ := zjK u (by omega);have hd := zjJ u hu;rw [e] at hd ⊢;unfold y7;rw [if_neg (by simp [hc]), if_neg (by cases r <;> simp [hc]), if_neg (by simp [hc])];exact hd
theorem zay (u : Nat) : ∀ c ∈ Lib.decDigits u, digB (ci c) = true := by
 intro c hc;obtain ⟨h1, h2⟩ := Bt.dec_all u c hc;unfold digB ci; simp only [decide_eq_true_eq]; omega
theorem zd6 {c : UInt8} (h : digB (ci c) = true) : npB (ci c) = true := by
 unfold digB at h; unfold npB; simp only [decide_eq_true_eq] at h ⊢; omega
theorem zh9 : ∀ (L : List UInt8), (∀ c ∈ L, npB (ci c) = true) → nmL L = L.length
 | [], _ => rfl
 | c :: r, h => by rw [nmL, if_pos (h c (by simp)), zh9 r (fun d hd => h d (by simp [hd]))]; rfl
def Gd (t : Tk) : Prop := (t.kind = 1 ∧ yC t.text = true ∧ t.bits = 0) ∨ (t.kind = 2 ∧ zV t.text = true ∧ t.bits = 0) ∨
 (t.kind = 3 ∧ t.text = [] ∧ ∃ u : Nat, u ≤ 9007199254740992 ∧ t.bits = ofI u) ∨ (t.kind = 4 ∧ chk t.text 0 = none ∧ t.bits = 0) ∨ (t.kind = 5 ∧ xm t.text = true ∧ t.bits = 0)
theorem Gd.at {t : Tk} (h : Gd t) (a : Int) : Gd { t with pos := a } := h
theorem jZ {base : Int} (hb : 0 ≤ base) : ∀ (l : List UInt8) (n x : Int), y6 base l n = some x → 0 ≤ n → n ≤ 9007199254740992 → 0 ≤ x ∧ x ≤ 9007199254740992
 | [], n, x, h, h0, h1 => by rw [y6] at h; injection h with h; omega
 | c :: r, n, x, h, h0, h1 => by
  rw [y6] at h;have := vM (ci c);split at h
  ·cases h
  ·split at h
   ·cases h
   ·have h2 := Int.mul_nonneg h0 hb;exact jZ hb r _ x h (by omega) (by omega)
theorem zia {P : List UInt8} {x : Int} (h : y7 P = some x) : 0 ≤ x ∧ x ≤ 9007199254740992 := by
 unfold y7 at h;split at h
 ·injection h with h; omega
 ·split at h
  ·split at h
   ·cases h
   ·exact jZ (by decide) _ _ _ h (by decide) (by decide)
  ·split at h
   ·cases h
   ·exact jZ (by decide) _ _ _ h (by decide) (by decide)
theorem zjM {c : UInt8} {r : List UInt8} {t : Tk} {n : Nat} (hk : chk (c :: r) 0 = none) (h : yh (c :: r) = some (t, n)) : Gd t ∧ t.pos = 0 := by
 have hlow := zd2 h;unfold yh at h;simp only at h;split at h
 ·cases hn : y7 ((c :: r).take (nmL (c :: r))) with
  | none => rw [hn] at h; cases h
  | some x =>
   rw [hn] at h;injection h with h; injection h with h _;subst h;have := zia hn;exact ⟨.inr (.inr (.inl ⟨rfl, rfl, x.toNat, by omega, by show ofI x = _; rw [Int.toNat_of_nonneg this.1]⟩)), rfl⟩
 ·rename_i hdig
  split at h
  ·rename_i hnp
   injection h with h; injection h with h _;subst h;refine ⟨?_, rfl⟩;have hpos := zea (r := r) hnp;have hlet : jv (ci c) = true := by
    unfold digB at hdig; unfold npB at hnp; unfold jv; simp only [decide_eq_true_eq] at hdig hnp ⊢; omega
   have hcut := zh3 (c :: r) (nmL (c :: r)) (zd _);have hle := uP (c :: r);obtain ⟨k, hkk⟩ : ∃ k, nmL (c :: r) = k + 1 := ⟨nmL (c :: r) - 1, by omega⟩;cases hw : zV ((c :: r).take (nmL (c :: r)))
   ·refine .inl ⟨rfl, ?_, rfl⟩;show yC ((c :: r).take (nmL (c :: r))) = true
    have hlen : ((c :: r).take (nmL (c :: r))).length = nmL (c :: r) := by rw [List.length_take]; omega
    have hnn : xI ((c :: r).take (nmL (c :: r))) = ((c :: r).take (nmL (c :: r))).length := by
     rw [hlen];conv => rhs; rw [← hcut]
     rw [hkk, List.take_succ_cons];unfold xI; simp only [hlet, if_true]
    unfold yC;rw [hw, hnn, hkk, List.take_succ_cons]; simp
   ·exact .inr (.inl ⟨rfl, hw, rfl⟩)
  ·rename_i hnp
   split at h
   ·rename_i hq
    cases hx : txt c r with
    | none => rw [hx] at h; cases h
    | some x =>
     obtain ⟨o, m⟩ := x;rw [hx] at h;injection h with h; injection h with h _;subst h;exact ⟨.inr (.inr (.inr (.inl ⟨rfl, zax c hlow _ r o m (zd _) (uW hk hlow) hx, rfl⟩))), rfl⟩
   ·split at h
    ·cases h
    ·rename_i hs
     injection h with h; injection h with h _;subst h;exact ⟨.inr (.inr (.inr (.inr ⟨rfl, zd1 _ 4 hs, rfl⟩))), rfl⟩
def ya (t : Tk) : List UInt8 :=
 if t.kind = 1 ∨ t.kind = 2 ∨ t.kind = 5 then t.text else if t.kind = 3 then (Bt.textI t.bits).data.toList else if t.kind = 4 then yf t.text else []
theorem jo {u : Nat} (h : u ≤ 9007199254740992) : (Bt.textI (ofI u)).data.toList = Lib.decDigits u := by
 rw [show (ofI u) = Bt.ofI u from rfl, Bt.text_of (by omega) (by omega)];show Lib.itoa (u : Int) = _
 unfold Lib.itoa; rw [if_neg (by omega)]; rfl
theorem zfD (R B : List UInt8) {b : UInt8} (hb : npB (ci b) = false) : nmL (R ++ b :: B) = nmL R := by
 induction R with
 | nil => show nmL (b :: B) = 0; rw [nmL, hb]; rfl
 | cons c r ih => simp only [List.cons_append, nmL]; rw [ih]
theorem ze3 : ∀ P ∈ qN, ¬ (32 : UInt8) ∈ P ∧ ¬ (10 : UInt8) ∈ P := by decide +kernel
theorem zd7 (R B : List UInt8) {b : UInt8} (hb : b = 32 ∨ b = 10) : ∀ n, yl (R ++ b :: B) n = yl R n
 | 0 => rfl
 | n + 1 => by
  have ih := zd7 R B hb n;rw [yl, yl, ih];by_cases hl : n + 1 ≤ R.length
  ·rw [ur _ hl];have : n + 1 ≤ (R ++ b :: B).length := by simp; omega
   simp only [hl, this]
  ·have hno : ¬ (n + 1 ≤ (R ++ b :: B).length ∧ xm ((R ++ b :: B).take (n + 1)) = true) := by
    intro ⟨h1, h2⟩;have hm : b ∈ (R ++ b :: B).take (n + 1) := by
     rw [List.take_append, List.mem_append];right
     obtain ⟨m, hm⟩ : ∃ m, n + 1 - R.length = m + 1 := ⟨n - R.length, by omega⟩;rw [hm]; simp
    have hs := ze3 _ (by unfold xm at h2; simpa using h2);rcases hb with rfl | rfl
    ·exact hs.1 hm
    ·exact hs.2 hm
   rw [if_neg hno, if_neg (fun h => hl h.1)]
theorem zjN {R : List UInt8} {t : Tk} {n : Nat} (B : List UInt8) {b : UInt8} (hb : b = 32 ∨ b = 10) (h : yh R = some (t, n)) : yh (R ++ b :: B) = some (t, n) := by
 match R with
 | [] => cases h
 | c :: r =>
  have hn := zfD (c :: r) B (b := b) (by rcases hb with rfl | rfl <;> decide);have ht := ur (b :: B) (uP (c :: r));have hs := zd7 (c :: r) B hb 4;have hst := ur (b :: B) (zaM (c :: r) 4).2;rw [List.cons_append] at hn ht hs hst ⊢;unfold yh at h ⊢;simp only at h ⊢;rw [hn, ht, hs, hst];split at h
  ·rename_i hc; rw [if_pos hc]; exact h
  ·rename_i hc
   rw [if_neg hc];split at h
   ·rename_i hc2; rw [if_pos hc2]; exact h
   ·rename_i hc2
    rw [if_neg hc2];split at h
    ·rename_i hc3
     rw [if_pos hc3];cases hx : txt c r with
     | none => rw [hx] at h; cases h
     | some x =>
      obtain ⟨o, m⟩ := x;rw [zbo (b :: B) _ (zd _) hx];rw [hx] at h; exact h
    ·rename_i hc3; rw [if_neg hc3]; exact h
theorem zgC : qN.all (fun P => match yh P with | some (⟨k, p, x, b⟩, n) => k == 5 && p == 0 && x == P && b == 0 && n == P.length | none => false) = true := by decide +kernel
theorem zib (P : List UInt8) (h : P ∈ qN) : yh P = some (⟨5, 0, P, 0⟩, P.length) := by
 have := List.all_eq_true.1 zgC P h;cases ht : yh P with
 | none => rw [ht] at this; cases this
 | some x =>
  obtain ⟨⟨k, p, x, b⟩, n⟩ := x;rw [ht] at this;simp only [Bool.and_eq_true, beq_iff_eq] at this;obtain ⟨⟨⟨⟨rfl, rfl⟩, rfl⟩, rfl⟩, rfl⟩ := this;rfl
theorem zcI : ∀ P ∈ qN, P ≠ [] ∧ P.head? ≠ some 32 ∧ P.head? ≠ some 9 ∧ P.head? ≠ some 13 ∧ P.head? ≠ some 10 ∧ P.take 2 ≠ [47, 47] ∧ P.take 2 ≠ [47, 42] := by decide +kernel
theorem zd8 {L : List UInt8} (h0 : L ≠ []) (hn : xI L = L.length) : yh L = some (⟨if zV L then 2 else 1, 0, L, 0⟩, L.length) := by
 match L, h0 with
 | c :: r, _ =>
  have hlet : jv (ci c) = true := by
   unfold xI at hn; simp only at hn;cases hx : jv (ci c)
   ·rw [hx] at hn; simp at hn
   ·rfl
  have hnm : nmL (c :: r) = (c :: r).length := by unfold xI at hn; simp only [hlet, if_true] at hn; exact hn
  have hnp : npB (ci c) = true := uJ hnm c (by simp);have hdg : digB (ci c) = false := by
   unfold jv at hlet; unfold digB; simp only [decide_eq_true_eq] at hlet; rw [decide_eq_false_iff_not]; omega
  unfold yh; simp only [hdg, hnp, hnm, List.take_length, if_true]; rfl
theorem zlx (u : Nat) (hu : u ≤ 9007199254740992) : yh (Lib.decDigits u) = some (⟨3, 0, [], ofI u⟩, (Lib.decDigits u).length) := by
 have hne := Bt.dec_ne u;have hp := zay u;have hn := zlw u hu;generalize Lib.decDigits u = L at *
 match L, hne with
 | c :: r, _ =>
  have h1 := hp c (by simp);have h2 := zh9 (c :: r) (fun d hd => zd6 (hp d hd));unfold yh;simp only [h1, h2, List.take_length, hn, if_true]
theorem zaz {t : Tk} (h : Gd t) : yh (ya t) = some ({ t with pos := 0 }, (ya t).length) := by
 obtain ⟨k, p, x, b⟩ := t;rcases h with ⟨h1, h2, h3⟩ | ⟨h1, h2, h3⟩ | ⟨h1, h2, u, hu, h3⟩ | ⟨h1, h2, h3⟩ | ⟨h1, h2, h3⟩ <;> (simp only at h1 h2 h3; subst h1)
 ·subst h3;obtain ⟨a1, a2, a3⟩ := uC h2;show yh x = some (⟨1, 0, x, 0⟩, x.length)
  rw [zd8 a1 a2, a3]; rfl
 ·subst h3;obtain ⟨a2, a1⟩ := jw x (by unfold zV at h2; simpa using h2);show yh x = some (⟨2, 0, x, 0⟩, x.length)
  rw [zd8 a1 a2, h2]; rfl
 ·subst h2; subst h3;have e : ya ⟨3, p, [], ofI u⟩ = Lib.decDigits u := jo hu;rw [e]; exact zlx u hu
 ·subst h3;have e : ya ⟨4, p, x, 0⟩ = yf x := rfl;rw [e];have := zh6 x []
  rwa [List.append_nil] at this
 ·subst h3;have e : ya ⟨5, p, x, 0⟩ = x := rfl;rw [e]; exact zib x (by unfold xm at h2; simpa using h2)
theorem jx {t : Tk} (h : Gd t) : chk (ya t) 0 = none := by
 obtain ⟨k, p, x, b⟩ := t;rcases h with ⟨h1, h2, h3⟩ | ⟨h1, h2, h3⟩ | ⟨h1, h2, u, hu, h3⟩ | ⟨h1, h2, h3⟩ | ⟨h1, h2, h3⟩ <;> (simp only at h1 h2 h3; subst h1)
 ·obtain ⟨a1, a2, a3⟩ := uC h2;exact qK _ (fun d hd => jY (uJ (L := x) (by unfold xI at a2; split at a2; rfl; split at a2; exact a2; simp at a2) d hd)) _ 0 (zd _)
 ·obtain ⟨a2, a1⟩ := jw x (by unfold zV at h2; simpa using h2);exact qK _ (fun d hd => jY (uJ (L := x) (by unfold xI at a2; split at a2; rfl; split at a2; exact a2; simp at a2) d hd)) _ 0 (zd _)
 ·subst h2; subst h3;have e : ya ⟨3, p, [], ofI u⟩ = Lib.decDigits u := jo hu;rw [e];exact qK _ (fun d hd => jY (zd6 (zay u d hd))) _ 0 (zd _)
 ·have e : ya ⟨4, p, x, b⟩ = yf x := rfl;rw [e]; exact zh7 h2
 ·have e : ya ⟨5, p, x, b⟩ = x := rfl;rw [e];exact qK _ (zbN x (by unfold xm at h2; simpa using h2)) _ 0 (zd _)
def Gp (g : List UInt8) : Prop := (∃ b r, g = b :: r ∧ (b = 32 ∨ b = 10)) ∧ (∀ c ∈ g, ci c < 128) ∧ ∀ J, gap J = (0, true) → gap (g ++ J) = (g.length, true)
theorem zbp {R : List UInt8} (h0 : R ≠ []) (hb : ∀ c, R.head? = some c → qa c = false) (h1 : R.take 2 ≠ [47, 47]) (h2 : R.take 2 ≠ [47, 42]) : gap R = (0, true) := by
 match R, h0 with
 | c :: r, _ =>
  have hb' := hb c rfl;have hr : vz (c :: r) = some 0 := by
   unfold vz
   match r with
   | [] => rfl
   | d :: q =>
    simp only;rw [if_neg (by rintro ⟨rfl, rfl⟩; exact h1 rfl), if_neg (by rintro ⟨rfl, rfl⟩; exact h2 rfl)]
  rw [gap, hb', hr]; rfl
theorem zgD {c : UInt8} (h : npB (ci c) = true ∨ c = 34) : qa c = false ∧ c ≠ 47 := by
 rcases h with h | rfl
 ·constructor
  ·cases hb : qa c
   ·rfl
   ·unfold qa at hb;simp only [Bool.or_eq_true, beq_iff_eq] at hb;rcases hb with ((e | e) | e) | e <;> (rw [e] at h; exact absurd h (by decide))
  ·rintro rfl; exact absurd h (by decide)
 ·exact ⟨by decide, by decide⟩
def yd (l : List (Tk × List UInt8)) : List UInt8 := l.flatMap fun x => ya x.1 ++ x.2
def jp : List (Tk × List UInt8) → Int → List Tk
 | [], _ => []
 | x :: r, a => { x.1 with pos := a } :: jp r (a + (ya x.1).length + x.2.length)
def vQ : List Tk → Int → Prop
 | [], _ => True
 | t :: r, op => yU t op = false ∧ vQ r (opA t op)
theorem uD (x : Tk × List UInt8) (r : List (Tk × List UInt8)) : yd (x :: r) = ya x.1 ++ (x.2 ++ yd r) := by simp [yd]
theorem zfE {t : Tk} (a op : Int) : yU { t with pos := a } op = yU t op ∧ opA { t with pos := a } op = opA t op := ⟨rfl, rfl⟩
theorem zcJ (L : List UInt8) (hk : chk L 0 = none) : ∀ (j p : Nat) (a op : Int) (l : List Tk), L.length - p ≤ j → xe (L.drop p) a op = .ok l → (∀ t ∈ l, Gd t) ∧ vQ l op
 | j, p, a, op, l, hj, h => by
  cases hd : L.drop p with
  | nil =>
   rw [hd, xe] at h;injection h with h; subst h;exact ⟨by simp, trivial⟩
  | cons c r =>
   have hp : p < L.length := by
    rcases Nat.lt_or_ge p L.length with h1 | h1
    ·exact h1
    ·rw [List.drop_eq_nil_of_le h1] at hd; cases hd
   match j, hj with
   | 0, hj => omega
   | j + 1, hj =>
    rw [hd, q8] at h;cases ht : yh (c :: r) with
    | none => rw [ht] at h; cases h
    | some x =>
     obtain ⟨t, n⟩ := x;rw [ht] at h;simp only at h;cases hdp : yU t op with
     | true => rw [hdp] at h; cases h
     | false =>
      rw [hdp] at h;simp only [zc, if_false] at h;have hlow := zd2 ht;have hLp : L[p] = c := by
       have := List.drop_eq_getElem_cons hp;rw [hd] at this; injection this with h1 _; exact h1.symm
      have hck : chk (c :: r) 0 = none := by
       rw [← hd]; exact zjF (by omega) (by rw [zd0 hp, hLp]; exact hlow) hk
      have hgd := zjM hck ht;have hn := vH ht;have er : r.drop (n - 1) = L.drop (p + n) := by
       have : (c :: r).drop n = r.drop (n - 1) := by
        obtain ⟨k, rfl⟩ : ∃ k, n = k + 1 := ⟨n - 1, by omega⟩;simp
       rw [← this, ← hd, List.drop_drop]
      rw [er] at h;unfold xq at h;cases hg : gap (L.drop (p + n)) with
      | mk k f =>
       rw [hg] at h;cases f with
       | false => cases h
       | true =>
        simp only [List.drop_drop] at h;cases hx : xe (L.drop (p + n + k)) (a + n + k) (opA t op) with
        | error e => rw [hx] at h; cases h
        | ok l2 =>
         rw [hx] at h;injection h with h;subst h;obtain ⟨i1, i2⟩ := zcJ L hk j (p + n + k) _ _ l2 (by omega) hx;refine ⟨fun u hu => ?_, hdp, i2⟩;rcases List.mem_cons.1 hu with rfl | hu
         ·exact hgd.1.at a
         ·exact i1 u hu
theorem j0 {L : List UInt8} {l : List Tk} (h : yQ L = .ok l) : chk L 0 = none ∧ (∀ t ∈ l, Gd t) ∧ vQ l 0 := by
 unfold yQ at h;split at h
 ·cases h
 ·cases hk : chk L 0 with
  | some k => rw [hk] at h; cases h
  | none =>
   rw [hk] at h;simp only at h;refine ⟨rfl, ?_⟩;unfold xq at h;cases hg : gap L with
   | mk k f =>
    rw [hg] at h;cases f with
    | false => cases h
    | true => exact zcJ L hk _ k _ 0 l (zd _) h
theorem zic : Gp [32] := ⟨⟨32, [], rfl, .inl rfl⟩, by decide, fun J h => by show gap (32 :: J) = _; rw [gap, h]; rfl⟩
theorem zfF : Gp [10] := ⟨⟨10, [], rfl, .inr rfl⟩, by decide, fun J h => by show gap (10 :: J) = _; rw [gap, h]; rfl⟩
end Go.Proofs.YtfcgpphodacdmaaGreatDoor
namespace Go.Proofs.YtfcgpphodacdmaaGreatDoor
open Go.RowKit
theorem zi8 : ∀ n, n < 32 → n = 0 ∨ n = 1 ∨ n = 2 ∨ n = 3 ∨ n = 4 ∨ n = 5 ∨ n = 6 ∨ n = 7 ∨ n = 8 ∨ n = 9 ∨ n = 10 ∨ n = 11 ∨ n = 12 ∨ n = 13 ∨ n = 14 ∨ n = 15 ∨ n = 16 ∨ n = 17 ∨ n = 18 ∨ n = 19 ∨ n = 20 ∨ n = 21 ∨ n = 22 ∨ n = 23 ∨ n = 24 ∨ n = 25 ∨ n = 26 ∨ n = 27 ∨ n = 28 ∨ n = 29 ∨ n = 30 ∨ n = 31 := by omega
theorem zeW (c : UInt8) (hc : c.toNat < 32) (w : World) :
    Calls Tryz.prog 158 #[.int .u8 (c.toNat : Int)] w fun e w' => e = .returned (.string (bs (xA c))) ∧ ∃ n, w' = w.drewN n := by
  have hcc : c = UInt8.ofNat c.toNat := (UInt8.ofNat_toNat).symm;generalize c.toNat = n at *;subst hcc;rcases zi8 n hc with rfl | rfl | rfl | rfl | rfl | rfl | rfl | rfl | rfl | rfl | rfl | rfl | rfl | rfl | rfl | rfl | rfl | rfl | rfl | rfl | rfl | rfl | rfl | rfl | rfl | rfl | rfl | rfl | rfl | rfl | rfl | rfl
  all_goals
    clear hc
    go_enter Tryz.func158, Tryz.ntmps158
    go_wp2_with fail;first
    | (go_ret; exact ⟨rfl, 0, rfl⟩)
    | (go_quiet (fail)
       go_wp2_with fail;go_ret;exact ⟨rfl, nq, rfl⟩)
theorem zhv {s : ByteArray} {k : Nat} (h : k < s.size) : yX (s.data.toList.take (k + 1)) = yX (s.data.toList.take k) ++ xA s[k] := by
 have hl : k < s.data.toList.length := by rw [zL]; exact h
 rw [List.take_succ_eq_append_getElem hl, zav];congr 1
 rw [vP]; show xA _ ++ [] = _; rw [List.append_nil]; rfl
theorem zk2 {c : UInt8} (h : c = 92 ∨ c = 34) : xA c = [92] ++ [c] := by unfold xA; rw [if_pos h]; rfl
theorem zi9 {c : UInt8} (h : ¬ (c = 92 ∨ c = 34)) (h2 : ¬ c.toNat < 32) : xA c = [c] := by
 have n2 : ¬ c = 10 := by rintro rfl; exact h2 (by decide)
 have n3 : ¬ c = 13 := by rintro rfl; exact h2 (by decide)
 have n4 : ¬ c = 9 := by rintro rfl; exact h2 (by decide)
 unfold xA; rw [if_neg h, if_neg n2, if_neg n3, if_neg n4, if_neg h2]
theorem zb7 (s : ByteArray) (k : Nat) (h : k ≤ s.size) : (yX (s.data.toList.take k)).length ≤ 6 * k := by
 have := zaw (s.data.toList.take k);rw [List.length_take, zL] at this; omega
theorem zgm (s : ByteArray) (hs : s.size ≤ 100000) (w : World) :
  Calls Tryz.prog 108 #[.string s] w fun e w' => e = .returned (.string (bs (yf s.data.toList))) ∧ Below w.heap.size w w' := by
 have hW : (w.alloc (.cells #[.pointer none, .slice none 0 0] 112)).heap.size = w.heap.size + 1 := by simp
 have HB0 := za (Bld.new w);have HL0 := za ((ze w.heap.size w).alloc (zd _) (.cells #[.pointer none, .slice none 0 0] 112));have W0 := za (fun w2 h hs => vG w.heap.size w.heap.size [] 34 w2 h (by simp) hs);rw [show (((34 : UInt8).toNat : Nat) : Int) = 34 from rfl, List.nil_append] at W0
 go_enter Tryz.func108, Tryz.ntmps108
 go_wp2_with fail;refine (W0.out _ HB0.out (by omega)).mono ?_; rintro e w1 ⟨rfl, hB1, hL1⟩;have HB1 := za hB1;have HL1 := za (HL0.out.trans hL1);clear hB1 hL1;go_wp2_with fail
 go_loopw [9] (fun i wr => ∃ k : Nat, i = .int .i64 (k : Int) ∧ k ≤ s.size ∧ Hid (Bld wr w.heap.size w.heap.size (34 :: yX (s.data.toList.take k))) ∧ Hid (Below w.heap.size w wr)) (fun i _ => s.size - (intOf i).toNat)
 case atStart => exact ⟨0, rfl, by omega, HB1.out, HL1.out⟩
 case round =>
  obtain ⟨k, rfl, hk, HB, HL⟩ := hrel;have hlen : w.heap.size ≤ wr.heap.size := HL.out.size;have hz := zb7 s k hk;by_cases hlt : k < s.size
  ·have hki : (k : Int) < (s.size : Int) := by omega
   have ET := za (zhv hlt);generalize yX (s.data.toList.take k) = acc at *;have EO := za (zcg s[k]);by_cases h2 : s[k] = 92 ∨ s[k] = 34
   ·have E2 := za (zk2 h2);rw [E2.out] at ET;have W1 := za (fun w2 h hs => vG w.heap.size w.heap.size (34 :: acc) 92 w2 h (by simp; omega) hs);rw [show (((92 : UInt8).toNat : Nat) : Int) = 92 from rfl] at W1;have W2 := za (fun w2 h hs => vG w.heap.size w.heap.size (34 :: acc ++ [92]) s[k] w2 h (by simp; omega) hs);have hq : ((s[k].toNat : Int) == 92) = true ∨ (((s[k].toNat : Int) == 92) = false ∧ ((s[k].toNat : Int) == 34) = true) := by
     rcases h2 with h2 | h2
     ·left; rw [h2]; rfl
     ·right; rw [h2]; exact ⟨rfl, rfl⟩
    clear h2;have FIN : Hid (∀ w4, Bld w4 w.heap.size w.heap.size (34 :: acc ++ [92] ++ [s[k]]) → Below w.heap.size w w4 → ∃ k2 : Nat, (Value.int .i64 ((k : Int) + 1)) = .int .i64 (k2 : Int) ∧ k2 ≤ s.size ∧ Hid (Bld w4 w.heap.size w.heap.size (34 :: yX (s.data.toList.take k2))) ∧ Hid (Below w.heap.size w w4)) := by
     intro w4 h4 l4;exact ⟨k + 1, by simp, hlt, by show Bld _ _ _ _; rw [ET.out]; simpa using h4, l4⟩
    rcases hq with hq | ⟨hq1, hq2⟩
    all_goals
     go_wp2_with fail;refine (W1.out _ HB.out hlen).mono ?_; rintro e w2 ⟨rfl, hB2, hL2⟩;have HB2 := za hB2;have HL2 := za (HL.out.trans hL2);have hl2 : w.heap.size ≤ w2.heap.size := HL2.out.size;clear hB2 hL2;go_wp2_with fail;refine (W2.out _ HB2.out hl2).mono ?_; rintro e w3 ⟨rfl, hB3, hL3⟩;have HB3 := za hB3;have HL3 := za (HL2.out.trans hL3);clear hB3 hL3;go_wp2_with fail
     go_round
     case rel => exact ⟨k + 1, by go_num, hlt, by show Bld _ _ _ _; rw [ET.out]; simpa using HB3.out, HL3.out⟩
     case measure => simp [intOf]; omega
   ·have q92 : ((s[k].toNat : Int) == 92) = false := by
     rw [zb]; intro e; exact h2 (.inl (xY (show ci s[k] = ci 92 from e)))
    have q34 : ((s[k].toNat : Int) == 34) = false := by
     rw [zb]; intro e; exact h2 (.inr (xY (show ci s[k] = ci 34 from e)))
    by_cases hlow : s[k].toNat < 32
    ·have hlo : (s[k].toNat : Int) < 32 := by omega
     have EE := za (fun w => zeW s[k] hlow w);have hbo : (bs (xA s[k])).size ≤ 1000000 := by rw [zfi]; have := EO.out.2.2.2; omega
     have WS := za (fun w2 h hs => zaX w.heap.size w.heap.size (34 :: acc) (bs (xA s[k])) w2 h (by simp; omega) hbo hs);rw [zj] at WS;generalize xA s[k] = es at *;generalize bs es = bo at *;clear h2 hlow hbo;go_wp2_with fail;refine (EE.out _).mono ?_; rintro e w2 ⟨rfl, n2, rfl⟩;have HB2 : Hid (Bld (wr.drewN n2) w.heap.size w.heap.size (34 :: acc)) := HB.out;have HL2 : Hid (Below w.heap.size w (wr.drewN n2)) := below_drewN HL.out n2;have hl2 : w.heap.size ≤ (wr.drewN n2).heap.size := hlen;generalize wr.drewN n2 = w2 at *;go_wp2_with fail;refine (WS.out _ HB2.out hl2).mono ?_; rintro e w3 ⟨rfl, hB3, hL3⟩;have HB3 := za hB3;have HL3 := za (HL2.out.trans hL3);clear hB3 hL3;go_wp2_with fail
     go_round
     case rel => exact ⟨k + 1, by go_num, hlt, by show Bld _ _ _ _; rw [ET.out]; simpa using HB3.out, HL3.out⟩
     case measure => simp [intOf]; omega
    ·have hlo : ¬ (s[k].toNat : Int) < 32 := by omega
     have E2 := za (zi9 h2 hlow);rw [E2.out] at ET;have W2 := za (fun w2 h hs => vG w.heap.size w.heap.size (34 :: acc) s[k] w2 h (by simp; omega) hs);clear h2 hlow;go_wp2_with fail;refine (W2.out _ HB.out hlen).mono ?_; rintro e w3 ⟨rfl, hB3, hL3⟩;have HB3 := za hB3;have HL3 := za (HL.out.trans hL3);clear hB3 hL3;go_wp2_with fail
     go_round
     case rel => exact ⟨k + 1, by go_num, hlt, by show Bld _ _ _ _; rw [ET.out]; simpa using HB3.out, HL3.out⟩
     case measure => simp [intOf]; omega
  ·have hki : ¬ (k : Int) < (s.size : Int) := by omega
   have HB' : Hid (Bld wr w.heap.size w.heap.size (34 :: yX s.data.toList)) := by
    have e : s.data.toList.take k = s.data.toList := List.take_of_length_le (by rw [zL]; omega);rw [← e]; exact HB.out
   have hz2 := zaw s.data.toList;rw [zL] at hz2;have HQ : Hid (yf s.data.toList = 34 :: yX s.data.toList ++ [34]) := rfl;generalize yX s.data.toList = E at *;clear HB;have W2 := za (fun w2 h hs => vG w.heap.size w.heap.size (34 :: E) 34 w2 h (by simp; omega) hs);rw [show (((34 : UInt8).toNat : Nat) : Int) = 34 from rfl] at W2;have ST := za (fun w2 h hs => ju w.heap.size w.heap.size (34 :: E ++ [34]) w2 h hs);go_wp2_with fail;refine (W2.out _ HB'.out hlen).mono ?_; rintro e w3 ⟨rfl, hB3, hL3⟩;have HB3 := za hB3;have HL3 := za (HL.out.trans hL3);have hl3 : w.heap.size ≤ w3.heap.size := HL3.out.size;clear hB3 hL3;go_wp2_with fail;refine (ST.out _ HB3.out hl3).mono ?_; rintro e w4 ⟨rfl, hL4⟩;have HL4 := za (HL3.out.trans hL4);clear hL4;go_wp2_with fail;go_ret;exact ⟨by rw [HQ.out]; rfl, HL4.out⟩
def prS (k : Int) (x : ByteArray) (b : Int) : ByteArray :=
 if k = 1 ∨ k = 2 ∨ k = 5 then x else if k = 3 then Bt.textI b else if k = 4 then bs (yf x.data.toList) else ⟨#[]⟩
theorem zhw (k p b : Int) (x : ByteArray) (hx : x.size ≤ 100000) (b0 : 0 ≤ b) (b1 : b < 18446744073709551616) (w : World) (ht : Bt.tab w) :
  Calls Tryz.prog 72 #[.agg #[.int .i64 k, .int .i64 p, .string x, .int .u64 b]] w fun e w' => e = .returned (.string (prS k x b)) ∧ Below w.heap.size w w' := by
 have C := za (fun w => jh x (by omega) w);have T := za (fun w ht => Bt.text_any b b0 b1 w ht);have HT := za (fun o => Bt.tab_below ht ((ze _ w).alloc (zd _) o));have Q := za (fun w => zgm x hx w);have HK : k = 1 ∨ k = 2 ∨ k = 5 ∨ k = 3 ∨ k = 4 ∨ ((k == 1) = false ∧ (k == 2) = false ∧ (k == 5) = false ∧ (k == 3) = false ∧ (k == 4) = false) := by
  simp only [zb]; omega
 have HP : Hid (prS k x b = if k = 1 ∨ k = 2 ∨ k = 5 then x else if k = 3 then Bt.textI b else if k = 4 then bs (yf x.data.toList) else ⟨#[]⟩) := rfl;generalize bs (yf x.data.toList) = q at *;generalize Bt.textI b = tx at *;clear hx b0 b1 ht;rcases HK with rfl | rfl | rfl | rfl | rfl | ⟨k1, k2, k5, k3, k4⟩
 ·go_enter Tryz.func72, Tryz.ntmps72
  go_wp2_with fail;refine (C.out _).mono ?_; rintro e w1 ⟨rfl, hB⟩;go_wp2_with fail;go_ret;exact ⟨rfl, xS hB⟩
 ·go_enter Tryz.func72, Tryz.ntmps72
  go_wp2_with fail;refine (C.out _).mono ?_; rintro e w1 ⟨rfl, hB⟩;go_wp2_with fail;go_ret;exact ⟨rfl, xS hB⟩
 ·go_enter Tryz.func72, Tryz.ntmps72
  go_wp2_with fail;refine (C.out _).mono ?_; rintro e w1 ⟨rfl, hB⟩;go_wp2_with fail;go_ret;exact ⟨rfl, xS hB⟩
 ·go_enter Tryz.func72, Tryz.ntmps72
  go_wp2_with fail;refine (T.out _ (HT.out _)).mono ?_; rintro e w1 ⟨rfl, hB⟩;go_wp2_with fail;go_ret;exact ⟨by rw [HP.out]; rfl, xS hB⟩
 ·go_enter Tryz.func72, Tryz.ntmps72
  go_wp2_with fail;refine (Q.out _).mono ?_; rintro e w1 ⟨rfl, hB⟩;go_wp2_with fail;go_ret;exact ⟨by rw [HP.out]; rfl, xS hB⟩
 ·have HE : Hid (prS k x b = ⟨#[]⟩) := by
   simp only [zb] at k1 k2 k5 k3 k4;show _ = _
   rw [HP.out, if_neg (by omega), if_neg k3, if_neg k4]
  go_enter Tryz.func72, Tryz.ntmps72
  go_wp2_with fail;go_ret;exact ⟨by rw [HE.out]; rfl, xS (ze _ _)⟩
def zrK (l m : List Tk) : Prop := l.length = m.length ∧ ∀ (k : Nat) (h : k < l.length) (h2 : k < m.length), l[k].kind = m[k].kind ∧ l[k].text = m[k].text ∧ l[k].bits = m[k].bits
end Go.Proofs.YtfcgpphodacdmaaGreatDoor
