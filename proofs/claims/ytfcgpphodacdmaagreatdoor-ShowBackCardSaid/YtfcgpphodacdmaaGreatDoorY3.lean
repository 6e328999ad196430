/- Part of a proof: contracts of functions. -/
import Derived.Laws.BitsAllLaws
import Derived.IntWalk
import Derived.RowKit
import Derived.Below
import Derived.Test.YtfcgpphodacdmaaGreatDoorRows
import Derived.WalkKit
import Derived.WalkSpells
import Derived.WalkLawsBesides
import Derived.Handy
import Derived.Lib.Hide
import Derived.Lib.Strings
import Derived.Deep.OwnRows
import Derived.Laws.BytesArg
import Derived.LoopTactic
import Derived.Deep.QuietTactic
import Derived.BigQuiet
import Derived.Laws.FloatArith
import Derived.Laws.Externs
import Derived.Test.YtfcgpphodacdmaaGreatDoorY0
set_option maxRecDepth 100000
set_option maxHeartbeats 4000000
set_option linter.all false
namespace Go.Proofs.YtfcgpphodacdmaaGreatDoor
open Go.RowKit
theorem jB {k : IntKind} {a b : Int} (h : a = b) : Ending.returned (.int k a) = .returned (.int k b) := by rw [h]
theorem ret_bool {a b : Bool} (h : a = b) : Ending.returned (.bool a) = .returned (.bool b) := by rw [h]
theorem qL {k l : IntKind} {a b c d : Int} (h : a = c) (g : b = d) : Ending.returned (.tuple #[.int k a, .int l b]) = .returned (.tuple #[.int k c, .int l d]) := by rw [h, g]
theorem uN {k : IntKind} {s t : ByteArray} {a b : Int} (h : s = t) (g : a = b) : Ending.returned (.tuple #[.string s, .int k a]) = .returned (.tuple #[.string t, .int k b]) := by rw [h, g]
theorem zY {N : Nat} {a b c : World} (h : Below N a b) (g : Below b.heap.size b c) (hn : N ≤ b.heap.size) : Below N a c := h.trans (g.mono hn)
def zT (n : Int) : Int :=
 if n < 0 ∨ 1114111 < n ∨ (55296 ≤ n ∧ n ≤ 57343) then 0 else if 65536 ≤ n then 4 else if 2048 ≤ n then 3 else if 128 ≤ n then 2 else 1
def n2 (c d : Int) : Int := (c - 192) * 64 + (d - 128)
def n3 (c d e : Int) : Int := ((c - 224) * 64 + (d - 128)) * 64 + (e - 128)
def n4 (c d e f : Int) : Int := (((c - 240) * 64 + (d - 128)) * 64 + (e - 128)) * 64 + (f - 128)
def yn (c d e f : Int) : Int :=
 if c < 128 then 1
 else if c < 192 then 0
 else if c < 224 then (if 128 ≤ d ∧ d < 192 ∧ 128 ≤ n2 c d then 2 else 0)
 else if c < 240 then (if 128 ≤ d ∧ d < 192 ∧ 128 ≤ e ∧ e < 192 ∧ 2048 ≤ n3 c d e ∧ ¬ (55296 ≤ n3 c d e ∧ n3 c d e ≤ 57343) then 3 else 0)
 else if c < 248 then (if 128 ≤ d ∧ d < 192 ∧ 128 ≤ e ∧ e < 192 ∧ 128 ≤ f ∧ f < 192 ∧ 65536 ≤ n4 c d e f ∧ n4 c d e f ≤ 1114111 then 4 else 0)
 else 0
def qM (c d e f : Int) : Int :=
 if yn c d e f = 0 then -1 else if yn c d e f = 1 then c else if yn c d e f = 2 then n2 c d else if yn c d e f = 3 then n3 c d e else n4 c d e f
def by8 (L : List UInt8) (k : Nat) : Int := ((L.getD k 0).toNat : Int)
theorem jC (L : List UInt8) (k : Nat) : 0 ≤ by8 L k := Int.natCast_nonneg _
theorem za6 {L : List UInt8} {k : Nat} (h : L.length ≤ k) : by8 L k = 0 := by unfold by8; rw [List.getD_eq_getElem?_getD, List.getElem?_eq_none h]; rfl
theorem zhb {s : ByteArray} {k : Nat} (h : k < s.size) : by8 s.data.toList k = ((s[k]'h).toNat : Int) := by
 unfold by8;have hl : k < s.data.toList.length := by simpa using h
 rw [List.getD_eq_getElem?_getD, List.getElem?_eq_getElem hl]; rfl
def zN (L : List UInt8) (k : Nat) : Int := yn (by8 L k) (by8 L (k + 1)) (by8 L (k + 2)) (by8 L (k + 3))
def z6 (L : List UInt8) (k : Nat) : Int := qM (by8 L k) (by8 L (k + 1)) (by8 L (k + 2)) (by8 L (k + 3))
def zH (L : List UInt8) (k : Nat) : Nat := if zN L k = 0 then 1 else (zN L k).toNat
theorem vK (c d e f : Int) : 0 ≤ yn c d e f ∧ yn c d e f ≤ 4 := by
 unfold yn; repeat' split
 all_goals omega
theorem xW (L : List UInt8) (k : Nat) : 1 ≤ zH L k ∧ zH L k ≤ 4 := by
 have := vK (by8 L k) (by8 L (k + 1)) (by8 L (k + 2)) (by8 L (k + 3));unfold zH zN;split <;> omega
theorem zcs (c d e f : Int) : (yn c d e f = 2 → 128 ≤ d) ∧ (yn c d e f = 3 → 128 ≤ d ∧ 128 ≤ e) ∧ (yn c d e f = 4 → 128 ≤ d ∧ 128 ≤ e ∧ 128 ≤ f) := by
 unfold yn; repeat' split
 all_goals omega
theorem jD {L : List UInt8} {k : Nat} (h : k < L.length) : k + zH L k ≤ L.length := by
 unfold zH;split
 ·omega
 ·rename_i hz
  have hr := vK (by8 L k) (by8 L (k + 1)) (by8 L (k + 2)) (by8 L (k + 3));have hf := zcs (by8 L k) (by8 L (k + 1)) (by8 L (k + 2)) (by8 L (k + 3));have o1 : L.length ≤ k + 1 → by8 L (k + 1) = 0 := fun h => za6 h
  have o2 : L.length ≤ k + 2 → by8 L (k + 2) = 0 := fun h => za6 h
  have o3 : L.length ≤ k + 3 → by8 L (k + 3) = 0 := fun h => za6 h
  unfold zN at hz ⊢;omega
theorem uz (L : List UInt8) (k : Nat) : -1 ≤ z6 L k ∧ z6 L k ≤ 1114111 ∧ (z6 L k < 0 ↔ zN L k = 0) ∧ (z6 L k = -1 ↔ zN L k = 0) := by
 unfold z6 zN;have h0 := jC L k;generalize by8 L k = c at *;generalize by8 L (k + 1) = d;generalize by8 L (k + 2) = e;generalize by8 L (k + 3) = f;unfold qM yn;generalize hx2 : n2 c d = x2;generalize hx3 : n3 c d e = x3;generalize hx4 : n4 c d e f = x4;unfold n2 at hx2; unfold n3 at hx3; unfold n4 at hx4
 repeat' split
 all_goals omega
def b8 (x : Int) : UInt8 := UInt8.ofNat x.toNat
theorem vn {x : Int} (h0 : 0 ≤ x) (h1 : x < 256) : ((b8 x).toNat : Int) = x := by
 unfold b8; rw [UInt8.toNat_ofNat']; omega
def xa (n : Int) : List UInt8 :=
 if zT n = 0 then [] else if zT n = 1 then [b8 n] else if zT n = 2 then [b8 (192 + n / 64), b8 (128 + n % 64)]
 else if zT n = 3 then [b8 (224 + n / 4096), b8 (128 + n / 64 % 64), b8 (128 + n % 64)]
 else [b8 (240 + n / 262144), b8 (128 + n / 4096 % 64), b8 (128 + n / 64 % 64), b8 (128 + n % 64)]
def vt (n : Int) : ByteArray := ⟨⟨xa n⟩⟩
def zdc (n : Int) : Int := if zT n = 0 then 2 else 0
theorem vo (n : Int) : 0 ≤ zT n ∧ zT n ≤ 4 := by unfold zT; repeat' split; all_goals omega
theorem js (n : Int) : ((xa n).length : Int) = zT n := by
 have := vo n;unfold xa
 repeat' split
 all_goals simp
 all_goals omega
def stp (L : List UInt8) (a to : Nat) : Nat := if a < to then stp L (a + zH L a) to + 1 else 0
termination_by to - a
decreasing_by have := xW L a; omega
theorem ziG {L : List UInt8} {a to : Nat} (h : to ≤ a) : stp L a to = 0 := by rw [stp, if_neg (by omega)]
theorem ziH {L : List UInt8} {a to : Nat} (h : a < to) : stp L a to = stp L (a + zH L a) to + 1 := by rw [stp, if_pos h]
def chk (L : List UInt8) (a : Nat) : Option Nat := if a < L.length then (if z6 L a < 0 then some a else chk L (a + zH L a)) else none
termination_by L.length - a
decreasing_by have := xW L a; omega
theorem qr {L : List UInt8} {a : Nat} (h : L.length ≤ a) : chk L a = none := by rw [chk, if_neg (by omega)]
theorem uG {L : List UInt8} {a : Nat} (h : a < L.length) (h2 : z6 L a < 0) : chk L a = some a := by rw [chk, if_pos h, if_pos h2]
theorem qt {L : List UInt8} {a : Nat} (h : a < L.length) (h2 : ¬ z6 L a < 0) : chk L a = chk L (a + zH L a) := by rw [chk, if_pos h, if_neg h2]
def za7 (L : List UInt8) : Int := match chk L 0 with | some k => (k : Int) | none => 0
def jM (L : List UInt8) : Int := match chk L 0 with | some _ => 4 | none => 0
def zfY (L : List UInt8) : Nat → Nat
 | 0 => 0
 | k + 1 => if by8 L k = 10 then k + 1 else zfY L k
def lfs (L : List UInt8) : Nat → Nat
 | 0 => 0
 | k + 1 => if by8 L k = 10 then lfs L k + 1 else lfs L k
def ziI (L : List UInt8) (at_ : Int) : Nat := if at_ < 0 then 0 else if (L.length : Int) < at_ then L.length else at_.toNat
def zrC (L : List UInt8) (at_ : Int) : Int := (lfs L (ziI L at_) : Int) + 1
def zrH (L : List UInt8) (at_ : Int) : Int := (stp L (zfY L (ziI L at_)) (ziI L at_) : Int) + 1
def qB (c : Int) : Int := if c < 128 then c else if c < 192 then 0 else if c < 224 then c - 192 else if c < 240 then c - 224 else if c < 248 then c - 240 else 0
def xX (c : Int) : Int := if c < 128 then 1 else if c < 192 then 0 else if c < 224 then 2 else if c < 240 then 3 else if c < 248 then 4 else 0
theorem zhc {c : Int} (h0 : 0 ≤ c) (h1 : c < 256) : 0 ≤ xX c ∧ xX c ≤ 4 ∧ 0 ≤ qB c ∧ (xX c ≠ 1 → qB c < 32) ∧ (xX c = 1 → qB c = c ∧ c < 128) ∧ (2 ≤ xX c → qB c < 32) := by
 unfold xX qB; repeat' split
 all_goals omega
def qW (L : List UInt8) (k : Nat) (u : Int) : Nat → Int
 | 0 => u
 | j + 1 => qW L k u j * 64 + by8 L (k + (j + 1)) % 64
theorem zfZ (L : List UInt8) (k : Nat) {u : Int} (h0 : 0 ≤ u) (h1 : u < 32) {j : Nat} (hj : j ≤ 3) : 0 ≤ qW L k u j ∧ qW L k u j < 8388608 := by
 have a1 := jC L (k + 1); have a2 := jC L (k + 2); have a3 := jC L (k + 3);rcases (by omega : j = 0 ∨ j = 1 ∨ j = 2 ∨ j = 3) with rfl | rfl | rfl | rfl <;> simp only [qW] <;> omega
theorem zkP {L : List UInt8} {k : Nat} (h : zN L k = 0) : z6 L k = -1 ∧ zH L k = 1 := by
 refine ⟨(uz L k).2.2.2.2 h, ?_⟩;unfold zH; rw [if_pos h]
theorem zml {L : List UInt8} {k : Nat} (h : xX (by8 L k) = 1) : z6 L k = qB (by8 L k) ∧ zH L k = 1 ∧ zT (qB (by8 L k)) = 1 ∧ zN L k = 1 := by
 have h0 := jC L k;unfold z6 zH zN;generalize by8 L k = c at *;have hc : c < 128 := by
  unfold xX at h;by_cases hc : c < 128
  ·exact hc
  ·rw [if_neg hc] at h; repeat' split at h
   all_goals omega
 have hz : ∀ d e f, yn c d e f = 1 := by intro d e f; unfold yn; rw [if_pos hc]
 refine ⟨?_, ?_, ?_, hz _ _ _⟩
 ·unfold qM qB; rw [hz, if_neg (by decide), if_pos rfl, if_pos hc]
 ·rw [hz]; rfl
 ·unfold qB zT; rw [if_pos hc]; repeat' split
  all_goals omega
theorem jt (L : List UInt8) (k : Nat) : zN L k = 0 ∨ zN L k = xX (by8 L k) := by
 unfold zN;generalize by8 L k = c; generalize by8 L (k + 1) = d; generalize by8 L (k + 2) = e; generalize by8 L (k + 3) = f;unfold yn xX; repeat' split
 all_goals first | (left; rfl) | (right; rfl)
def zbD (L : List UInt8) (k : Nat) (j : Nat) : Prop := ∀ t, 1 ≤ t → t ≤ j → 128 ≤ by8 L (k + t) ∧ by8 L (k + t) < 192
theorem zmm {L : List UInt8} {k t : Nat} (h1 : 1 ≤ t) (h2 : (t : Int) < xX (by8 L k)) (h3 : ¬ (128 ≤ by8 L (k + t) ∧ by8 L (k + t) < 192)) : zN L k = 0 := by
 have hlo := jC L k;rcases jt L k with h | h
 ·exact h
 ·exfalso
  have hr : xX (by8 L k) ≤ 4 := by unfold xX; (repeat' split) <;> omega
  have hf : (zN L k = 2 → 128 ≤ by8 L (k + 1) ∧ by8 L (k + 1) < 192) ∧ (zN L k = 3 → 128 ≤ by8 L (k + 1) ∧ by8 L (k + 1) < 192 ∧ 128 ≤ by8 L (k + 2) ∧ by8 L (k + 2) < 192) ∧
    (zN L k = 4 → 128 ≤ by8 L (k + 1) ∧ by8 L (k + 1) < 192 ∧ 128 ≤ by8 L (k + 2) ∧ by8 L (k + 2) < 192 ∧ 128 ≤ by8 L (k + 3) ∧ by8 L (k + 3) < 192) := by
   unfold zN yn; repeat' split
   all_goals omega
  rcases (by omega : t = 1 ∨ t = 2 ∨ t = 3) with rfl | rfl | rfl <;> omega
theorem zkQ {L : List UInt8} {k : Nat} (hk : k < L.length) (h : (L.length : Int) < k + xX (by8 L k)) : zN L k = 0 := by
 rcases jt L k with h2 | h2
 ·exact h2
 ·by_cases hz : zN L k = 0
  ·exact hz
  ·exfalso
   have := jD hk;unfold zH at this;rw [if_neg hz] at this;omega
theorem zkR (L : List UInt8) (k : Nat) (t : zbD L k 1) : qW L k (by8 L k - 192) 1 = n2 (by8 L k) (by8 L (k + 1)) := by
 have t1 := t 1 (by omega) (by omega);simp only [qW, n2, Nat.zero_add]; omega
theorem zhd (L : List UInt8) (k : Nat) (t : zbD L k 2) : qW L k (by8 L k - 224) 2 = n3 (by8 L k) (by8 L (k + 1)) (by8 L (k + 2)) := by
 have t1 := t 1 (by omega) (by omega);have t2 := t 2 (by omega) (by omega);simp only [qW, n3, Nat.zero_add, Nat.reduceAdd]; omega
theorem ziJ (L : List UInt8) (k : Nat) (t : zbD L k 3) : qW L k (by8 L k - 240) 3 = n4 (by8 L k) (by8 L (k + 1)) (by8 L (k + 2)) (by8 L (k + 3)) := by
 have t1 := t 1 (by omega) (by omega);have t2 := t 2 (by omega) (by omega);have t3 := t 3 (by omega) (by omega);simp only [qW, n4, Nat.zero_add, Nat.reduceAdd]; omega
theorem zmn {c m : Int} (h : xX c = m) : (m = 2 → qB c = c - 192 ∧ 192 ≤ c ∧ c < 224) ∧ (m = 3 → qB c = c - 224 ∧ 224 ≤ c ∧ c < 240) ∧ (m = 4 → qB c = c - 240 ∧ 240 ≤ c ∧ c < 248) := by
 subst h;unfold xX qB; repeat' split
 all_goals omega
theorem ziK {L : List UInt8} {k m : Nat} (hm : xX (by8 L k) = m) (h2 : 2 ≤ m) (ht : zbD L k (m - 1)) :
  (zT (qW L k (qB (by8 L k)) (m - 1)) = m ∧ z6 L k = qW L k (qB (by8 L k)) (m - 1) ∧ zH L k = m) ∨ (zT (qW L k (qB (by8 L k)) (m - 1)) ≠ m ∧ zN L k = 0) := by
 have hl := zmn hm;have hr : xX (by8 L k) ≤ 4 := by unfold xX; (repeat' split) <;> omega
 rcases (by omega : m = 2 ∨ m = 3 ∨ m = 4) with rfl | rfl | rfl
 ·obtain ⟨e1, e2, e3⟩ := hl.1 rfl;rw [e1, show (2 - 1 : Nat) = 1 by rfl, zkR L k ht];have t1 := ht 1 (by omega) (by omega);unfold z6 zH zN;generalize by8 L k = c at *; generalize by8 L (k + 1) = d at *; generalize by8 L (k + 2) = e at *; generalize by8 L (k + 3) = f at *;have hb : n2 c d < 2048 := by unfold n2; omega
  have hz : yn c d e f = if 128 ≤ d ∧ d < 192 ∧ 128 ≤ n2 c d then 2 else 0 := by unfold yn; rw [if_neg (by omega), if_neg (by omega), if_pos (by omega)]
  have hs : zT (n2 c d) = 2 ↔ 128 ≤ n2 c d := by unfold zT; (repeat' split) <;> omega
  unfold qM;by_cases hc : 128 ≤ n2 c d
  ·rw [if_pos ⟨t1.1, t1.2, hc⟩] at hz;left; refine ⟨hs.2 hc, ?_, ?_⟩
   ·rw [hz]; rfl
   ·rw [hz]; rfl
  ·rw [if_neg (by omega)] at hz;right; exact ⟨fun h => hc (hs.1 h), hz⟩
 ·obtain ⟨e1, e2, e3⟩ := hl.2.1 rfl;rw [e1, show (3 - 1 : Nat) = 2 by rfl, zhd L k ht];have t1 := ht 1 (by omega) (by omega);have t2 := ht 2 (by omega) (by omega);unfold z6 zH zN;generalize by8 L k = c at *; generalize by8 L (k + 1) = d at *; generalize by8 L (k + 2) = e at *; generalize by8 L (k + 3) = f at *;have hb : n3 c d e < 65536 := by unfold n3; omega
  have hz : yn c d e f = if 128 ≤ d ∧ d < 192 ∧ 128 ≤ e ∧ e < 192 ∧ 2048 ≤ n3 c d e ∧ ¬ (55296 ≤ n3 c d e ∧ n3 c d e ≤ 57343) then 3 else 0 := by unfold yn; rw [if_neg (by omega), if_neg (by omega), if_neg (by omega), if_pos (by omega)]
  have hs : zT (n3 c d e) = 3 ↔ (2048 ≤ n3 c d e ∧ ¬ (55296 ≤ n3 c d e ∧ n3 c d e ≤ 57343)) := by unfold zT; (repeat' split) <;> omega
  unfold qM;by_cases hc : 2048 ≤ n3 c d e ∧ ¬ (55296 ≤ n3 c d e ∧ n3 c d e ≤ 57343)
  ·rw [if_pos ⟨t1.1, t1.2, t2.1, t2.2, hc⟩] at hz;left; refine ⟨hs.2 hc, ?_, ?_⟩
   ·rw [hz]; rfl
   ·rw [hz]; rfl
  ·rw [if_neg (fun h => hc h.2.2.2.2)] at hz;right; exact ⟨fun h => hc (hs.1 h), hz⟩
 ·obtain ⟨e1, e2, e3⟩ := hl.2.2 rfl;rw [e1, show (4 - 1 : Nat) = 3 by rfl, ziJ L k ht];have t1 := ht 1 (by omega) (by omega);have t2 := ht 2 (by omega) (by omega);have t3 := ht 3 (by omega) (by omega);unfold z6 zH zN;generalize by8 L k = c at *; generalize by8 L (k + 1) = d at *; generalize by8 L (k + 2) = e at *; generalize by8 L (k + 3) = f at *;have hz : yn c d e f = if 128 ≤ d ∧ d < 192 ∧ 128 ≤ e ∧ e < 192 ∧ 128 ≤ f ∧ f < 192 ∧ 65536 ≤ n4 c d e f ∧ n4 c d e f ≤ 1114111 then 4 else 0 := by unfold yn; rw [if_neg (by omega), if_neg (by omega), if_neg (by omega), if_neg (by omega), if_pos (by omega)]
  have hs : zT (n4 c d e f) = 4 ↔ (65536 ≤ n4 c d e f ∧ n4 c d e f ≤ 1114111) := by unfold zT; (repeat' split) <;> omega
  unfold qM;by_cases hc : 65536 ≤ n4 c d e f ∧ n4 c d e f ≤ 1114111
  ·rw [if_pos ⟨t1.1, t1.2, t2.1, t2.2, t3.1, t3.2, hc⟩] at hz;left; refine ⟨hs.2 hc, ?_, ?_⟩
   ·rw [hz]; rfl
   ·rw [hz]; rfl
  ·rw [if_neg (fun h => hc h.2.2.2.2.2.2)] at hz;right; exact ⟨fun h => hc (hs.1 h), hz⟩
def gsI (L : List UInt8) (k j : Nat) : Int :=
 if j = 1 then by8 L k else if j = 2 then n2 (by8 L k) (by8 L (k + 1)) else if j = 3 then n3 (by8 L k) (by8 L (k + 1)) (by8 L (k + 2)) else n4 (by8 L k) (by8 L (k + 1)) (by8 L (k + 2)) (by8 L (k + 3))
theorem zkS {n : Int} (h : zT n = 1) : xa n = [b8 n] := by unfold xa; rw [if_neg (by omega), if_pos h]
theorem zkT {n : Int} (h : zT n = 2) : xa n = [b8 (192 + n / 64), b8 (128 + n % 64)] := by unfold xa; rw [if_neg (by omega), if_neg (by omega), if_pos h]
theorem zhe {n : Int} (h : zT n = 3) : xa n = [b8 (224 + n / 4096), b8 (128 + n / 64 % 64), b8 (128 + n % 64)] := by unfold xa; rw [if_neg (by omega), if_neg (by omega), if_neg (by omega), if_pos h]
theorem ziL {n : Int} (h : zT n = 4) : xa n = [b8 (240 + n / 262144), b8 (128 + n / 4096 % 64), b8 (128 + n / 64 % 64), b8 (128 + n % 64)] := by
 unfold xa; rw [if_neg (by omega), if_neg (by omega), if_neg (by omega), if_neg (by omega)]
theorem zkU {n : Int} : (zT n = 1 → 0 ≤ n ∧ n < 128) ∧ (zT n = 2 → 128 ≤ n ∧ n < 2048) ∧ (zT n = 3 → 2048 ≤ n ∧ n < 65536 ∧ ¬ (55296 ≤ n ∧ n ≤ 57343)) ∧ (zT n = 4 → 65536 ≤ n ∧ n ≤ 1114111) := by
 unfold zT; repeat' split
 all_goals omega
theorem jN (n : Int) (w : World) :
  Calls Tryz.prog 122 #[.int .i64 n] w fun e w' => e = .returned (.int .i64 (zT n)) ∧ w = w' := by
 have HD : Hid (zT n = if n < 0 ∨ 1114111 < n ∨ (55296 ≤ n ∧ n ≤ 57343) then 0 else if 65536 ≤ n then 4 else if 2048 ≤ n then 3 else if 128 ≤ n then 2 else 1) := rfl;generalize zT n = z at *
 go_enter Tryz.func122, Tryz.ntmps122
 go_wp2
 all_goals
  go_ret;refine ⟨jB ?_, rfl⟩;rw [HD.out]
  repeat' split
  all_goals first | omega | rfl | (exfalso; omega)
theorem zmo {c : Int} (h0 : 192 ≤ c) (h1 : c < 224) : bits .andNot .u8 c 192 = c - 192 := by
 have h : ∀ n : Fin 32, bits .andNot .u8 (((n.val : Nat) : Int) + 192) 192 = ((n.val : Nat) : Int) := by decide +kernel
 have h2 := h ⟨(c - 192).toNat, by omega⟩;simp only at h2;rw [show (((c - 192).toNat : Nat) : Int) + 192 = c by omega] at h2;rw [h2]; omega
theorem zmp {c : Int} (h0 : 224 ≤ c) (h1 : c < 240) : bits .andNot .u8 c 224 = c - 224 := by
 have h : ∀ n : Fin 16, bits .andNot .u8 (((n.val : Nat) : Int) + 224) 224 = ((n.val : Nat) : Int) := by decide +kernel
 have h2 := h ⟨(c - 224).toNat, by omega⟩;simp only at h2;rw [show (((c - 224).toNat : Nat) : Int) + 224 = c by omega] at h2;rw [h2]; omega
theorem zmq {c : Int} (h0 : 240 ≤ c) (h1 : c < 248) : bits .andNot .u8 c 240 = c - 240 := by
 have h : ∀ n : Fin 8, bits .andNot .u8 (((n.val : Nat) : Int) + 240) 240 = ((n.val : Nat) : Int) := by decide +kernel
 have h2 := h ⟨(c - 240).toNat, by omega⟩;simp only at h2;rw [show (((c - 240).toNat : Nat) : Int) + 240 = c by omega] at h2;rw [h2]; omega
theorem znR {c : Int} (h0 : 0 ≤ c) (h1 : c < 256) : bits .andNot .u8 c 63 = c / 64 * 64 := by
 have h : ∀ n : Fin 256, bits .andNot .u8 ((n.val : Nat) : Int) 63 = ((n.val : Nat) : Int) / 64 * 64 := by decide +kernel
 have h2 := h ⟨c.toNat, by omega⟩;simp only at h2
 rwa [show ((c.toNat : Nat) : Int) = c by omega] at h2
theorem ul (n : Int) (h₀ : 0 ≤ n) (h₁ : n < 2 ^ 62) : IntKind.i64.wrap n = n := by rw [IntKind.wrap_i64]; omega
theorem zmr {x : Int} (h0 : 0 ≤ x) (h1 : x < 4611686018427387904) : bits .and .i64 x 63 = x % 64 := bits_mask .i64 62 (by decide) ul 6 (by decide) x h0 h1
theorem ziM {x y : Int} (hx₀ : 0 ≤ x) (hx : x % 64 = 0) (hx₁ : x < 4611686018427387904) (h₀ : 0 ≤ y) (h₁ : y < 64) : bits .or .i64 x y = x + y :=
 bits_join .i64 62 (by decide) ul 6 x y hx₀ hx hx₁ h₀ h₁ (by omega)
theorem zms {y : Int} (h₀ : 0 ≤ y) (h₁ : y < 16) : bits .or .i64 224 y = 224 + y :=
 bits_join .i64 62 (by decide) ul 4 224 y (by decide) (by decide) (by decide) h₀ h₁ (by omega)
theorem zmt {y : Int} (h₀ : 0 ≤ y) (h₁ : y < 8) : bits .or .i64 240 y = 240 + y :=
 bits_join .i64 62 (by decide) ul 3 240 y (by decide) (by decide) (by decide) h₀ h₁ (by omega)
theorem ziN (c : Int) (h0 : 0 ≤ c) (h1 : c < 256) (w : World) :
  Calls Tryz.prog 121 #[.int .u8 c] w fun e w' => e = .returned (.tuple #[.int .i64 (qB c), .int .i64 (xX c)]) ∧ w = w' := by
 have HU : Hid (qB c = if c < 128 then c else if c < 192 then 0 else if c < 224 then c - 192 else if c < 240 then c - 224 else if c < 248 then c - 240 else 0) := rfl;have HN : Hid (xX c = if c < 128 then 1 else if c < 192 then 0 else if c < 224 then 2 else if c < 240 then 3 else if c < 248 then 4 else 0) := rfl;generalize qB c = u at *;generalize xX c = n at *
 go_enter Tryz.func121, Tryz.ntmps121
 go_wp2
 all_goals
  go_ret2;refine ⟨qL ?_ ?_, rfl⟩
  ·rw [HU.out];first
    | (rw [zmo (by omega) (by omega), RowKit.wrap64]; repeat' split; all_goals omega)
    | (rw [zmp (by omega) (by omega), RowKit.wrap64]; repeat' split; all_goals omega)
    | (rw [zmq (by omega) (by omega), RowKit.wrap64]; repeat' split; all_goals omega)
    | (repeat' split; all_goals omega)
  ·rw [HN.out]; repeat' split; all_goals omega
theorem za8 (n : Int) (h0 : 0 ≤ n) (h1 : n ≤ 1114111) (w : World) :
  Calls Tryz.prog 215 #[.int .i64 n] w fun e w' => e = .returned (.int .i64 (128 + n % 64)) ∧ w = w' := by
 go_enter Tryz.func215, Tryz.ntmps215
 go_wp2
 go_ret;exact ⟨jB (by rw [zmr h0 (by omega), ziM (by decide) (by decide) (by decide) (by omega) (by omega)]), rfl⟩
def zrI (s : ByteArray) : ByteArray := if 5000 < s.size then s.extract 0 5000 else s
theorem zkV : (Tryz.prog.info? 5).map (fun i => (i.zero, i.size, i.bytes)) = some (some (.int .u8 0), 1, 1) := by kernel_rfl
theorem text_any (xs : List Int) (n : Nat) (hn : xs.length = n) (h1 : 1 ≤ n) (h4 : n ≤ 4) (hr : ∀ i, i < n → 0 ≤ xs.getD i 0 ∧ xs.getD i 0 < 256) (b : Nat) (w : World) (hb : b < w.heap.size)
    (hcell : ∀ i, i < n → w.cell? ⟨b, i, none⟩ = some (.int .i64 (xs.getD i 0))) :
    Calls Tryz.prog 214 #[.slice (some ⟨b, 0, none⟩) n n] w fun e w' => e = .returned (.string (strOfNums xs)) ∧ Below w.heap.size w w' := by
  have HC := za hcell;have HR := za hr;have HNN := za hn;clear hcell hr hn;have hmk := fun w => run_make_row' (P := Tryz.prog) 110 5 (.int .u8 0) 1 Tryz.underlying110 zkV rfl .i64 .i64 n (by omega) (by omega) w
  go_enter Tryz.func214, Tryz.ntmps214
  go_wp2
  go_loopw [4, 5, 11] (fun _ _ i wr => ∃ k : Nat, i = .int .i64 (k : Int) ∧ k ≤ n ∧ Below w.heap.size w wr ∧ Hid (wr.rowIs w.heap.size 5 n (fun j => .int .u8 (if j < k then xs.getD j 0 else 0)))) (fun _ _ i _ => n - (intOf i).toNat)
  case atStart =>
    refine ⟨0, rfl, Nat.zero_le _, (ze _ _).alloc (zd _) _, ?_⟩;have := World.rowIs_made w (.int .u8 0) n 5;exact this
  case round =>
    rename_i wr hrel
    obtain ⟨k, rfl, hk, hB, HW⟩ := hrel;by_cases hlt : k < n
    · have hx := HR.out k hlt;have hc1 : wr.cell? ⟨b, k, none⟩ = some (.int .i64 (xs.getD k 0)) := (hB.cell (p := ⟨b, k, none⟩) hb).trans (HC.out k hlt);have hc2 := HW.out.cell hlt;have hf2 := HW.out.frozen k
      go_wp2
      refine ⟨⟨k + 1, by go_num, by omega, hB.setCell (zd _) _, ?_⟩, by simp [intOf]; omega⟩;exact (HW.out.set k _).congr fun j hj => by
        by_cases e : j = k
        · subst e; rw [if_pos rfl, if_pos (by omega), ← List.getD_eq_getElem?_getD, Int.emod_eq_of_lt hx.1 hx.2]
        · rw [if_neg e];by_cases e2 : j < k
          · rw [if_pos e2, if_pos (by omega)]
          · rw [if_neg e2, if_neg (by omega)]
    · have vB := run_convert_bytes_arg (P := Tryz.prog) wr 110 5 Tryz.underlying110 Tryz.underlying5 w.heap.size 0 n n xs HNN.out (fun i hi => by
        rw [Nat.zero_add, HW.out.cell hi, if_pos (by omega)]) 9 Tryz.underlying9
      go_wp2
      go_ret;exact ⟨rfl, hB⟩
theorem ziO {n : Int} (h : zT n = 2) : strOfNums [192 + n / 64, 128 + n % 64] = vt n := by
 unfold vt xa; rw [if_neg (by omega), if_neg (by omega), if_pos h]; rfl
theorem ziP {n : Int} (h : zT n = 1) : strOfNums [n] = vt n := by
 unfold vt xa; rw [if_neg (by omega), if_pos h]; rfl
theorem zf6 {n : Int} (h : zT n = 3) : strOfNums [224 + n / 4096, 128 + n / 64 % 64, 128 + n % 64] = vt n := by
 unfold vt xa; rw [if_neg (by omega), if_neg (by omega), if_neg (by omega), if_pos h]; rfl
theorem zhf {n : Int} (h : zT n = 4) : strOfNums [240 + n / 262144, 128 + n / 4096 % 64, 128 + n / 64 % 64, 128 + n % 64] = vt n := by
 unfold vt xa; rw [if_neg (by omega), if_neg (by omega), if_neg (by omega), if_neg (by omega)]; rfl
theorem zhg {n : Int} (h : zT n = 0) : vt n = ⟨#[]⟩ := by
 unfold vt xa; rw [if_pos h]
theorem zeT {n : Int} : (zT n = 1 → 0 ≤ n ∧ n < 128) ∧ (zT n = 2 → 128 ≤ n ∧ n < 2048) ∧ (zT n = 3 → 2048 ≤ n ∧ n < 65536) ∧ (zT n = 4 → 65536 ≤ n ∧ n ≤ 1114111) := by
 unfold zT; repeat' split
 all_goals omega
theorem jO (w : World) (t : TypeId) (xs : List Int) : ∀ i, i < xs.length → (w.alloc (.cells (xs.map (Value.int .i64)).toArray t)).cell? ⟨w.heap.size, i, none⟩ = some (.int .i64 (xs.getD i 0)) := by
 intro i hi;refine (World.rowIs_alloc w (xs.map (Value.int .i64)).toArray t (fun i => .int .i64 (xs.getD i 0)) (fun j hj => ?_)).cell (by simpa using hi);have hj' : j < xs.length := by simpa using hj
 simp [List.getD_eq_getElem?_getD, List.getElem?_eq_getElem hj']
theorem xS {w w1 : World} {o : Obj} (h : Below (w.alloc o).heap.size (w.alloc o) w1) : Below w.heap.size w w1 :=
 ((ze _ _).alloc (zd _) o).trans (h.mono (by simp))
theorem zmu {a b : Int} (ha : 0 ≤ a ∧ a < 256) (hb : 0 ≤ b ∧ b < 256) : ∀ i, i < 2 → 0 ≤ [a, b].getD i 0 ∧ [a, b].getD i 0 < 256 := by
 intro i hi;rcases (by omega : i = 0 ∨ i = 1) with rfl | rfl
 ·exact ha
 ·exact hb
theorem zmv {a b c : Int} (ha : 0 ≤ a ∧ a < 256) (hb : 0 ≤ b ∧ b < 256) (hc : 0 ≤ c ∧ c < 256) : ∀ i, i < 3 → 0 ≤ [a, b, c].getD i 0 ∧ [a, b, c].getD i 0 < 256 := by
 intro i hi;rcases (by omega : i = 0 ∨ i = 1 ∨ i = 2) with rfl | rfl | rfl
 ·exact ha
 ·exact hb
 ·exact hc
theorem zmw {a b c d : Int} (ha : 0 ≤ a ∧ a < 256) (hb : 0 ≤ b ∧ b < 256) (hc : 0 ≤ c ∧ c < 256) (hd : 0 ≤ d ∧ d < 256) : ∀ i, i < 4 → 0 ≤ [a, b, c, d].getD i 0 ∧ [a, b, c, d].getD i 0 < 256 := by
 intro i hi;rcases (by omega : i = 0 ∨ i = 1 ∨ i = 2 ∨ i = 3) with rfl | rfl | rfl | rfl
 ·exact ha
 ·exact hb
 ·exact hc
 ·exact hd
theorem zkW (n : Int) (w : World) :
  Calls Tryz.prog 202 #[.int .i64 n] w fun e w' => e = .returned (.tuple #[.string (vt n), .int .i64 (zdc n)]) ∧ Below w.heap.size w w' := by
 have C := za (fun w => jN n w);have hr := vo n;have hb := @zeT n;have HE : Hid (zdc n = if zT n = 0 then 2 else 0) := rfl;have P1 := za (@ziP n);have P2 := za (@ziO n);have P3 := za (@zf6 n);have P4 := za (@zhf n);have P0 := za (@zhg n);generalize vt n = z at *;generalize zdc n = pe at *;generalize zT n = k at *;have hk : k = 0 ∨ k = 1 ∨ k = 2 ∨ k = 3 ∨ k = 4 := by omega
 have HS := za hk;clear hk;rcases HS.out with rfl | rfl | rfl | rfl | rfl
 ·have Q := za (P0.out rfl);have QE := za (HE.out);clear hb hr P0 P1 P2 P3 P4 HE
  go_enter Tryz.func202, Tryz.ntmps202
  go_wp2_with (go_at_call 122; refine (C.out _).mono ?_; rintro e w' ⟨rfl, rfl⟩)
  go_ret2;exact ⟨uN Q.out.symm (by rw [QE.out]; rfl), ze _ _⟩
 ·obtain ⟨b0, b1⟩ := hb.1 rfl;have Q := za (P1.out rfl);have QE := za (HE.out);clear hb hr P0 P1 P2 P3 P4 HE
  go_enter Tryz.func202, Tryz.ntmps202
  go_wp2_with (go_at_call 122; refine (C.out _).mono ?_; rintro e w' ⟨rfl, rfl⟩)
  refine (text_any [n] 1 rfl (by omega) (by omega) (fun i hi => by rw [show i = 0 by omega]; exact ⟨b0, by show n < 256; omega⟩) w.heap.size _ (by simp) (jO w 3 [n])).mono ?_;rintro e w1 ⟨rfl, hB⟩;go_wp2_with fail;go_ret2;exact ⟨uN Q.out (by rw [QE.out]; rfl), xS hB⟩
 ·obtain ⟨b0, b1⟩ := hb.2.1 rfl;have Q := za (P2.out rfl);have QE := za (HE.out);clear hb hr P0 P1 P2 P3 P4 HE
  go_enter Tryz.func202, Tryz.ntmps202
  go_wp2_with (first | (go_at_call 122; refine (C.out _).mono ?_; rintro e w' ⟨rfl, rfl⟩) | (go_at_call 215; refine (za8 _ (by omega) (by omega) _).mono ?_; rintro e w' ⟨rfl, rfl⟩))
  rw [ziM (x := 192) (by decide) (by decide) (by decide) (by omega) (by omega)];refine (text_any [192 + n / 64, 128 + n % 64] 2 rfl (by omega) (by omega) (zmu (by omega) (by omega)) w.heap.size _ (by simp) (jO w 3 [192 + n / 64, 128 + n % 64])).mono ?_;rintro e w1 ⟨rfl, hB⟩;go_wp2_with fail;go_ret2;exact ⟨uN Q.out (by rw [QE.out]; rfl), xS hB⟩
 ·obtain ⟨b0, b1⟩ := hb.2.2.1 rfl;have Q := za (P3.out rfl);have QE := za (HE.out);clear hb hr P0 P1 P2 P3 P4 HE
  go_enter Tryz.func202, Tryz.ntmps202
  go_wp2_with (first | (go_at_call 122; refine (C.out _).mono ?_; rintro e w' ⟨rfl, rfl⟩) | (go_at_call 215; refine (za8 _ (by omega) (by omega) _).mono ?_; rintro e w' ⟨rfl, rfl⟩))
  rw [zms (by omega) (by omega)];refine (text_any [224 + n / 4096, 128 + n / 64 % 64, 128 + n % 64] 3 rfl (by omega) (by omega) (zmv (by omega) (by omega) (by omega)) w.heap.size _ (by simp) (jO w 3 [224 + n / 4096, 128 + n / 64 % 64, 128 + n % 64])).mono ?_;rintro e w1 ⟨rfl, hB⟩;go_wp2_with fail;go_ret2;exact ⟨uN Q.out (by rw [QE.out]; rfl), xS hB⟩
 ·obtain ⟨b0, b1⟩ := hb.2.2.2 rfl;have Q := za (P4.out rfl);have QE := za (HE.out);clear hb hr P0 P1 P2 P3 P4 HE
  go_enter Tryz.func202, Tryz.ntmps202
  go_wp2_with (first | (go_at_call 122; refine (C.out _).mono ?_; rintro e w' ⟨rfl, rfl⟩) | (go_at_call 215; refine (za8 _ (by omega) (by omega) _).mono ?_; rintro e w' ⟨rfl, rfl⟩))
  rw [zmt (by omega) (by omega)];refine (text_any [240 + n / 262144, 128 + n / 4096 % 64, 128 + n / 64 % 64, 128 + n % 64] 4 rfl (by omega) (by omega) (zmw (by omega) (by omega) (by omega) (by omega)) w.heap.size _ (by simp) (jO w 3 [240 + n / 262144, 128 + n / 4096 % 64, 128 + n / 64 % 64, 128 + n % 64])).mono ?_;rintro e w1 ⟨rfl, hB⟩;go_wp2_with fail;go_ret2;exact ⟨uN Q.out (by rw [QE.out]; rfl), xS hB⟩
theorem zct (s : ByteArray) : s.data.toList.length = s.size := (Lib.size_eq s).symm
theorem ziQ (s : ByteArray) (hs : s.size ≤ 9223372036854775807) (k : Nat) (hk : k < s.size) (w : World) :
  Calls Tryz.prog 89 #[.string s, .int .i64 (k : Int)] w fun e w' => e = .returned (.tuple #[.int .i64 (z6 s.data.toList k), .int .i64 (zH s.data.toList k : Nat)]) ∧ w = w' := by
 have hl := zct s;have hc0 : (0 : Int) ≤ (s[k].toNat : Int) := Int.natCast_nonneg _;have hc1 : (s[k].toNat : Int) < 256 := by have := s[k].toNat_lt; omega
 have C := za (fun w => ziN (s[k].toNat : Int) hc0 hc1 w);have HB := za (zhb hk);have hr := zhc hc0 hc1;have Z := za (@zkP s.data.toList k);have SL := za (jt s.data.toList k);have O1 := za (@zml s.data.toList k);have OV := za (zkQ (L := s.data.toList) (k := k) (by omega));have OW := za (fun m : Nat => @ziK s.data.toList k m);have OB := za (fun t : Nat => @zmm s.data.toList k t);rw [HB.out] at SL O1 OV OW OB;have HL := za hl;clear hl;generalize z6 s.data.toList k = x at *;generalize zH s.data.toList k = y at *;generalize hu : qB (s[k].toNat : Int) = u at *;generalize hm : xX (s[k].toNat : Int) = m at *;clear hu hm;obtain ⟨r0, r1, r2, r3, r4, r5⟩ := hr;by_cases h0 : m = 0
 ·have hz : zN s.data.toList k = 0 := by rcases SL.out with h | h <;> omega
  have E := za (Z.out hz);subst h0;clear hz
  go_enter Tryz.func89, Tryz.ntmps89
  go_wp2_with (go_at_call 121; refine (C.out _).mono ?_; rintro e w' ⟨rfl, rfl⟩)
  go_ret2;exact ⟨qL E.out.1.symm (by rw [E.out.2]; rfl), rfl⟩
 ·by_cases h1 : m = 1
  ·have E := za (O1.out h1);subst h1;have S := za (fun w => jN u w);rw [E.out.2.2.1] at S;clear r4 h0
   go_enter Tryz.func89, Tryz.ntmps89
   go_wp2_with (go_at_call 121; refine (C.out _).mono ?_; rintro e w' ⟨rfl, rfl⟩)
   go_loop [4, 5, 6] (fun v n i => v = .int .i64 u ∧ n = .int .i64 1 ∧ i = .int .i64 1) (fun _ _ _ => 0)
   case atStart => exact ⟨rfl, rfl, rfl⟩
   case round =>
    obtain ⟨rfl, rfl, rfl⟩ := hrel;go_wp2_with (go_at_call 122; refine (S.out _).mono ?_; rintro e w' ⟨rfl, rfl⟩)
    go_ret2;exact ⟨qL E.out.1.symm (by rw [E.out.2.1]; rfl), rfl⟩
  ·obtain ⟨m, rfl⟩ : ∃ n : Nat, m = n := ⟨m.toNat, by omega⟩;have m2 : 2 ≤ m := by omega
   have m4 : m ≤ 4 := by omega
   by_cases hf : (s.size : Int) - k < m
   ·have E := za (Z.out (OV.out (by rw [HL.out]; omega)));have hne : ((m : Int) == 0) = false := by rw [zb]; omega
    go_enter Tryz.func89, Tryz.ntmps89
    go_wp2_with (go_at_call 121; refine (C.out _).mono ?_; rintro e w' ⟨rfl, rfl⟩)
    go_ret2;exact ⟨qL E.out.1.symm (by rw [E.out.2]; rfl), rfl⟩
   ·have hne : ((m : Int) == 0) = false := by rw [zb]; omega
    go_enter Tryz.func89, Tryz.ntmps89
    go_wp2_with (go_at_call 121; refine (C.out _).mono ?_; rintro e w' ⟨rfl, rfl⟩)
    go_loop [4, 5, 6] (fun v n i => ∃ j : Nat, n = .int .i64 (m : Int) ∧ i = .int .i64 ((j + 1 : Nat) : Int) ∧ j + 1 ≤ m ∧ v = .int .i64 (qW s.data.toList k u j) ∧ Hid (zbD s.data.toList k j)) (fun _ _ i => 4 - (intOf i).toNat)
    case atStart => exact ⟨0, rfl, rfl, by omega, rfl, fun t h1 h2 => absurd h2 (by omega)⟩
    case round =>
     obtain ⟨j, rfl, rfl, hj, rfl, HT⟩ := hrel;have ha := zfZ s.data.toList k r2 (r5 (by omega)) (show j ≤ 3 by omega);by_cases hlt : j + 1 < m
     ·have hin : k + (j + 1) < s.size := by omega
      have hb0 : (0 : Int) ≤ (s[k + (j + 1)].toNat : Int) := Int.natCast_nonneg _;have hb1 : (s[k + (j + 1)].toNat : Int) < 256 := by have := s[k + (j + 1)].toNat_lt; omega
      have HBJ := za (zhb hin);have HA : Hid (qW s.data.toList k u (j + 1) = qW s.data.toList k u j * 64 + by8 s.data.toList (k + (j + 1)) % 64) := rfl;have OBJ := za (fun h => OB.out (j + 1) (by omega) (by omega) h);rw [HBJ.out] at HA OBJ;have N63 := za (znR hb0 hb1);by_cases ht : 128 ≤ (s[k + (j + 1)].toNat : Int) ∧ (s[k + (j + 1)].toNat : Int) < 192
      ·have hq : (bits .andNot .u8 (s[k + (j + 1)].toNat : Int) 63 != 128) = false := by rw [N63.out, bne_eq_false_iff_eq]; omega
       go_wp2
       refine ⟨⟨j + 1, rfl, by go_num, by omega, ?_, ?_⟩, by simp [intOf]; omega⟩
       ·rw [ziM (by omega) (by omega) (by omega) (by omega) (by omega), HA.out]
       ·intro t h1 h2;by_cases e : t ≤ j
        ·exact HT.out t h1 e
        ·obtain rfl : t = j + 1 := by omega
         rw [HBJ.out]; exact ht
      ·have hq : (bits .andNot .u8 (s[k + (j + 1)].toNat : Int) 63 != 128) = true := by rw [N63.out, bne_iff_ne]; omega
       have E := za (Z.out (OBJ.out ht))
       go_wp2
       go_ret2;exact ⟨qL E.out.1.symm (by rw [E.out.2]; rfl), rfl⟩
     ·have hjm : j + 1 = m := by omega
      have hd := za (OW.out m rfl m2 (by rw [← hjm]; exact HT.out));rw [← hjm, Nat.add_sub_cancel] at hd;have S := za (fun w => jN (qW s.data.toList k u j) w);generalize qW s.data.toList k u j = a at *;generalize zT a = sz at *;rcases hd.out with ⟨d1, d2⟩ | ⟨d1, d2⟩
      ·have hq : (sz != (m : Int)) = false := by rw [bne_eq_false_iff_eq]; omega
       have E := za d2;clear d1 d2;go_wp2_with (go_at_call 122; refine (S.out _).mono ?_; rintro e w' ⟨rfl, rfl⟩)
       go_ret2;exact ⟨qL E.out.1.symm (by rw [E.out.2, hjm]), rfl⟩
      ·have hq : (sz != (m : Int)) = true := by rw [bne_iff_ne]; omega
       have E := za (Z.out d2);clear d1 d2;go_wp2_with (go_at_call 122; refine (S.out _).mono ?_; rintro e w' ⟨rfl, rfl⟩)
       go_ret2;exact ⟨qL E.out.1.symm (by rw [E.out.2]; rfl), rfl⟩
def zrJ (j : Nat) : Int := if j = 2 then 192 else if j = 3 then 224 else if j = 4 then 240 else 0
def gsA (L : List UInt8) (k : Nat) (u : Int) : Nat → Int
 | 0 => u
 | j + 1 => gsA L k u j * 64 + by8 L (k + (j + 1)) - 128
theorem ziR (L : List UInt8) (k : Nat) : z6 L k < 0 ↔ z6 L k = -1 := by
 have := uz L k; omega
theorem jc (s : ByteArray) (hs : s.size ≤ 1000000) (w : World) :
  Calls Tryz.prog 56 #[.string s] w fun e w' => e = .returned (.tuple #[.int .i64 (za7 s.data.toList), .int .i64 (jM s.data.toList)]) ∧ w = w' := by
 have HL := za (zct s);have HA : Hid (za7 s.data.toList = match chk s.data.toList 0 with | some k => (k : Int) | none => 0) := rfl;have HE : Hid (jM s.data.toList = match chk s.data.toList 0 with | some _ => 4 | none => 0) := rfl;generalize za7 s.data.toList = ca at *;generalize jM s.data.toList = ce at *
 go_enter Tryz.func56, Tryz.ntmps56
 go_wp2_with fail
 go_loop [2] (fun i => ∃ k : Nat, i = .int .i64 (k : Int) ∧ k ≤ s.size ∧ Hid (chk s.data.toList 0 = chk s.data.toList k)) (fun i => s.size - (intOf i).toNat)
 case atStart => exact ⟨0, rfl, by omega, rfl⟩
 case round =>
  obtain ⟨k, rfl, hk, HC⟩ := hrel;by_cases hlt : k < s.size
  ·have N := za (fun w => ziQ s (by omega) k hlt w);have hsr := xW s.data.toList k;have hin := jD (L := s.data.toList) (k := k) (by rw [HL.out]; exact hlt);rw [HL.out] at hin;have HB := za (@uG s.data.toList k (by rw [HL.out]; exact hlt));have HM := za (@qt s.data.toList k (by rw [HL.out]; exact hlt));have HS := za (ziR s.data.toList k);generalize z6 s.data.toList k = x at *;generalize zH s.data.toList k = y at *;by_cases hx : x = -1
   ·have hq : (x == -1) = true := by rw [hx]; rfl
    have HR := za (HC.out.trans (HB.out (HS.out.2 hx)));clear hx;go_wp2_with (go_at_call 89; refine (N.out _).mono ?_; rintro e w' ⟨rfl, rfl⟩)
    go_ret2;exact ⟨qL (by rw [HA.out, HR.out]) (by rw [HE.out, HR.out]), rfl⟩
   ·have hq : (x == -1) = false := by rw [zb]; exact hx
    have HR := za (HC.out.trans (HM.out (fun h => hx (HS.out.1 h))));clear hx;go_wp2_with (go_at_call 89; refine (N.out _).mono ?_; rintro e w' ⟨rfl, rfl⟩)
    go_round
    case rel => exact ⟨k + y, by go_num, by omega, HR.out⟩
    case measure => simp [intOf]; omega
  ·have HR := za (HC.out.trans (qr (by rw [HL.out]; omega)));go_wp2_with fail;go_ret2;exact ⟨qL (by rw [HA.out, HR.out]) (by rw [HE.out, HR.out]), rfl⟩
theorem vu {A : List UInt8} (B : List UInt8) {k : Nat} (h : k < A.length) : by8 (A ++ B) k = by8 A k := by
 unfold by8; rw [List.getD_eq_getElem?_getD, List.getD_eq_getElem?_getD, List.getElem?_append_left h]
theorem qH (A B : List UInt8) (k : Nat) : by8 (A ++ B) (A.length + k) = by8 B k := by
 unfold by8; rw [List.getD_eq_getElem?_getD, List.getD_eq_getElem?_getD, List.getElem?_append_right (by omega), Nat.add_sub_cancel_left]
theorem xh (c d e f : Int) : (yn c d e f = 1 ↔ c < 128) ∧ (yn c d e f = 2 ↔ 192 ≤ c ∧ c < 224 ∧ 128 ≤ d ∧ d < 192 ∧ 128 ≤ n2 c d) ∧
  (yn c d e f = 3 ↔ 224 ≤ c ∧ c < 240 ∧ 128 ≤ d ∧ d < 192 ∧ 128 ≤ e ∧ e < 192 ∧ 2048 ≤ n3 c d e ∧ ¬ (55296 ≤ n3 c d e ∧ n3 c d e ≤ 57343)) ∧
  (yn c d e f = 4 ↔ 240 ≤ c ∧ c < 248 ∧ 128 ≤ d ∧ d < 192 ∧ 128 ≤ e ∧ e < 192 ∧ 128 ≤ f ∧ f < 192 ∧ 65536 ≤ n4 c d e f ∧ n4 c d e f ≤ 1114111) := by
 unfold yn; (repeat' split) <;> omega
theorem xu (c d e f : Int) : (yn c d e f = 1 → qM c d e f = c) ∧ (yn c d e f = 2 → qM c d e f = n2 c d) ∧ (yn c d e f = 3 → qM c d e f = n3 c d e) ∧ (yn c d e f = 4 → qM c d e f = n4 c d e f) := by
 unfold qM;refine ⟨?_, ?_, ?_, ?_⟩ <;> (intro h; rw [h]; rfl)
theorem zfd {A : List UInt8} (B : List UInt8) {k : Nat} (hk : k < A.length) (h : zN A k ≠ 0) : zN (A ++ B) k = zN A k ∧ z6 (A ++ B) k = z6 A k := by
 have hs := jD hk;have hr : 0 ≤ zN A k ∧ zN A k ≤ 4 := vK _ _ _ _;have hj : zH A k = (zN A k).toNat := by unfold zH; rw [if_neg h]
 rw [hj] at hs;have e0 := vu B hk;rcases (by omega : zN A k = 1 ∨ zN A k = 2 ∨ zN A k = 3 ∨ zN A k = 4) with h1 | h1 | h1 | h1
 ·have hz := (xh (by8 A k) (by8 A (k + 1)) (by8 A (k + 2)) (by8 A (k + 3))).1.1 h1;have hz2 : zN (A ++ B) k = 1 := (xh _ _ _ _).1.2 (by rw [e0]; exact hz);refine ⟨hz2.trans h1.symm, ?_⟩;exact ((xu _ _ _ _).1 hz2).trans (e0.trans ((xu _ _ _ _).1 h1).symm)
 ·have e1 := vu B (show k + 1 < A.length by omega);have hz := (xh (by8 A k) (by8 A (k + 1)) (by8 A (k + 2)) (by8 A (k + 3))).2.1.1 h1;have hz2 : zN (A ++ B) k = 2 := (xh _ _ _ _).2.1.2 (by rw [e0, e1]; exact hz);refine ⟨hz2.trans h1.symm, ?_⟩;exact ((xu _ _ _ _).2.1 hz2).trans ((by rw [e0, e1] : n2 _ _ = n2 _ _).trans ((xu _ _ _ _).2.1 h1).symm)
 ·have e1 := vu B (show k + 1 < A.length by omega);have e2 := vu B (show k + 2 < A.length by omega);have hz := (xh (by8 A k) (by8 A (k + 1)) (by8 A (k + 2)) (by8 A (k + 3))).2.2.1.1 h1;have hz2 : zN (A ++ B) k = 3 := (xh _ _ _ _).2.2.1.2 (by rw [e0, e1, e2]; exact hz);refine ⟨hz2.trans h1.symm, ?_⟩;exact ((xu _ _ _ _).2.2.1 hz2).trans ((by rw [e0, e1, e2] : n3 _ _ _ = n3 _ _ _).trans ((xu _ _ _ _).2.2.1 h1).symm)
 ·have e1 := vu B (show k + 1 < A.length by omega);have e2 := vu B (show k + 2 < A.length by omega);have e3 := vu B (show k + 3 < A.length by omega);have hz := (xh (by8 A k) (by8 A (k + 1)) (by8 A (k + 2)) (by8 A (k + 3))).2.2.2.1 h1;have hz2 : zN (A ++ B) k = 4 := (xh _ _ _ _).2.2.2.2 (by rw [e0, e1, e2, e3]; exact hz);refine ⟨hz2.trans h1.symm, ?_⟩;exact ((xu _ _ _ _).2.2.2 hz2).trans ((by rw [e0, e1, e2, e3] : n4 _ _ _ _ = n4 _ _ _ _).trans ((xu _ _ _ _).2.2.2 h1).symm)
theorem zdd (A B : List UInt8) (k : Nat) : zN (A ++ B) (A.length + k) = zN B k ∧ z6 (A ++ B) (A.length + k) = z6 B k ∧ zH (A ++ B) (A.length + k) = zH B k := by
 have e : zN (A ++ B) (A.length + k) = zN B k := by unfold zN; rw [qH, Nat.add_assoc, qH, Nat.add_assoc, qH, Nat.add_assoc, qH]
 refine ⟨e, ?_, ?_⟩
 ·unfold z6; rw [qH, Nat.add_assoc, qH, Nat.add_assoc, qH, Nat.add_assoc, qH]
 ·unfold zH; rw [e]
theorem zhh {A : List UInt8} (B : List UInt8) {k : Nat} (hk : k < A.length) (h : zN A k ≠ 0) : zH (A ++ B) k = zH A k := by
 unfold zH; rw [(zfd B hk h).1]
theorem jd (A B : List UInt8) : ∀ (n k : Nat), B.length - k ≤ n → chk (A ++ B) (A.length + k) = (chk B k).map (A.length + ·)
 | 0, k, h => by rw [qr (by rw [List.length_append]; omega), qr (by omega)]; rfl
 | n + 1, k, h => by
  by_cases hk : k < B.length
  ·obtain ⟨e1, e2, e3⟩ := zdd A B k;have hs := xW B k;by_cases hb : z6 B k < 0
   ·rw [uG (by rw [List.length_append]; omega) (by rw [e2]; exact hb), uG hk hb]; rfl
   ·rw [qt (by rw [List.length_append]; omega) (by rw [e2]; exact hb), qt hk hb, e3, Nat.add_assoc];exact jd A B n _ (by omega)
  ·rw [qr (by rw [List.length_append]; omega), qr (by omega)]; rfl
theorem zde (A B : List UInt8) : ∀ (n k : Nat), A.length - k ≤ n → k ≤ A.length → chk A k = none → chk (A ++ B) k = chk (A ++ B) A.length
 | 0, k, h, hk, _ => by rw [show k = A.length by omega]
 | n + 1, k, h, hk, hc => by
  by_cases hlt : k < A.length
  ·have hb : ¬ z6 A k < 0 := by
    intro hb; rw [uG hlt hb] at hc; cases hc
   have hz : zN A k ≠ 0 := fun h => hb ((uz A k).2.2.1.2 h)
   have hs := xW A k;have hi := jD hlt;rw [qt hlt hb] at hc;rw [qt (by rw [List.length_append]; omega) (by rw [(zfd B hlt hz).2]; exact hb), zhh B hlt hz];exact zde A B n _ (by omega) hi hc
  ·rw [show k = A.length by omega]
theorem zdf {A B : List UInt8} (h : chk A 0 = none) : chk (A ++ B) 0 = (chk B 0).map (A.length + ·) := by
 rw [zde A B _ 0 (zd _) (Nat.zero_le _) h];exact jd A B _ 0 (zd _)
theorem ziS (A : List UInt8) {x : Int} (hx : zT x ≠ 0) : zN (A ++ xa x) A.length = zT x ∧ z6 (A ++ xa x) A.length = x ∧ zH (A ++ xa x) A.length = (xa x).length := by
 have hr := vo x;have hl := js x;have hs := @zkU x;have key : zN (xa x) 0 = zT x ∧ z6 (xa x) 0 = x := by
  rcases (by omega : zT x = 1 ∨ zT x = 2 ∨ zT x = 3 ∨ zT x = 4) with h | h | h | h
  ·have hb := hs.1 h;rw [zkS h, h];have e0 : by8 [b8 x] 0 = x := vn (by omega) (by omega);unfold z6;have hz : zN [b8 x] 0 = 1 := (xh _ _ _ _).1.2 (by rw [e0]; omega);exact ⟨hz, ((xu _ _ _ _).1 hz).trans e0⟩
  ·have hb := hs.2.1 h;rw [zkT h, h];have e0 : by8 [b8 (192 + x / 64), b8 (128 + x % 64)] 0 = 192 + x / 64 := vn (by omega) (by omega);have e1 : by8 [b8 (192 + x / 64), b8 (128 + x % 64)] (0 + 1) = 128 + x % 64 := vn (by omega) (by omega);have ev : n2 (192 + x / 64) (128 + x % 64) = x := by unfold n2; omega
   unfold z6;have hz : zN [b8 (192 + x / 64), b8 (128 + x % 64)] 0 = 2 := (xh _ _ _ _).2.1.2 (by rw [e0, e1, ev]; omega);exact ⟨hz, ((xu _ _ _ _).2.1 hz).trans (by rw [e0, e1, ev])⟩
  ·have hb := hs.2.2.1 h;rw [zhe h, h];have e0 : by8 [b8 (224 + x / 4096), b8 (128 + x / 64 % 64), b8 (128 + x % 64)] 0 = 224 + x / 4096 := vn (by omega) (by omega);have e1 : by8 [b8 (224 + x / 4096), b8 (128 + x / 64 % 64), b8 (128 + x % 64)] (0 + 1) = 128 + x / 64 % 64 := vn (by omega) (by omega);have e2 : by8 [b8 (224 + x / 4096), b8 (128 + x / 64 % 64), b8 (128 + x % 64)] (0 + 2) = 128 + x % 64 := vn (by omega) (by omega);have ev : n3 (224 + x / 4096) (128 + x / 64 % 64) (128 + x % 64) = x := by unfold n3; omega
   unfold z6;have hz : zN [b8 (224 + x / 4096), b8 (128 + x / 64 % 64), b8 (128 + x % 64)] 0 = 3 := (xh _ _ _ _).2.2.1.2 (by rw [e0, e1, e2, ev]; omega);exact ⟨hz, ((xu _ _ _ _).2.2.1 hz).trans (by rw [e0, e1, e2, ev])⟩
  ·have hb := hs.2.2.2 h;rw [ziL h, h];have e0 : by8 [b8 (240 + x / 262144), b8 (128 + x / 4096 % 64), b8 (128 + x / 64 % 64), b8 (128 + x % 64)] 0 = 240 + x / 262144 := vn (by omega) (by omega);have e1 : by8 [b8 (240 + x / 262144), b8 (128 + x / 4096 % 64), b8 (128 + x / 64 % 64), b8 (128 + x % 64)] (0 + 1) = 128 + x / 4096 % 64 := vn (by omega) (by omega);have e2 : by8 [b8 (240 + x / 262144), b8 (128 + x / 4096 % 64), b8 (128 + x / 64 % 64), b8 (128 + x % 64)] (0 + 2) = 128 + x / 64 % 64 := vn (by omega) (by omega);have e3 : by8 [b8 (240 + x / 262144), b8 (128 + x / 4096 % 64), b8 (128 + x / 64 % 64), b8 (128 + x % 64)] (0 + 3) = 128 + x % 64 := vn (by omega) (by omega);have ev : n4 (240 + x / 262144) (128 + x / 4096 % 64) (128 + x / 64 % 64) (128 + x % 64) = x := by unfold n4; omega
   unfold z6;have hz : zN [b8 (240 + x / 262144), b8 (128 + x / 4096 % 64), b8 (128 + x / 64 % 64), b8 (128 + x % 64)] 0 = 4 := (xh _ _ _ _).2.2.2.2 (by rw [e0, e1, e2, e3, ev]; omega);exact ⟨hz, ((xu _ _ _ _).2.2.2 hz).trans (by rw [e0, e1, e2, e3, ev])⟩
 obtain ⟨e1, e2, e3⟩ := zdd A (xa x) 0;rw [Nat.add_zero] at e1 e2 e3;refine ⟨e1.trans key.1, e2.trans key.2, ?_⟩;rw [e3]; unfold zH; rw [if_neg (by omega), key.1]; omega
theorem zhi {x : Int} (hx : zT x ≠ 0) : chk (xa x) 0 = none ∧ stp (xa x) 0 (xa x).length = 1 := by
 obtain ⟨h1, h2, h3⟩ := ziS [] hx;simp only [List.nil_append, List.length_nil] at h1 h2 h3;have hl := js x;have hr := vo x;have hpos : 0 < (xa x).length := by omega
 have hb : ¬ z6 (xa x) 0 < 0 := fun h => by
  have := (uz (xa x) 0).2.2.1.1 h;omega
 constructor
 ·rw [qt hpos hb, h3, qr (by omega)]
 ·rw [ziH hpos, h3, ziG (by omega)]
def adv (L : List UInt8) : Nat → Nat → Nat
 | 0, a => a
 | n + 1, a => adv L n (a + zH L a)
def zrx (L : List UInt8) (k : Nat) : Prop := adv L (stp L (zfY L k) k) (zfY L k) = k
def nanB (b : Int) : Bool := decide (9218868437227405312 < b % 9223372036854775808)
def infB (b : Int) : Bool := b % 9223372036854775808 == 9218868437227405312
def zerB (b : Int) : Bool := b % 9223372036854775808 == 0
def noneB : Int := 9221120237041090561
def canon (b : Int) : Int := if nanB b then noneB else b
def signB (b : Int) : Int := b / 9223372036854775808
theorem andNot_sign {b : Int} (h0 : 0 ≤ b) (h1 : b < 18446744073709551616) : bits .andNot .u64 b 9223372036854775808 = b % 9223372036854775808 := by
 rw [u64_andNot b 9223372036854775808 h0 h1 (by decide) (by decide)];have e : (18446744073709551615 - (9223372036854775808 : Int).toNat : Nat) = 2 ^ 63 - 1 := by decide
 rw [e, Nat.and_two_pow_sub_one_eq_mod];omega
def fres (op : BinOp) (x y : Nat) (w : World) : Nat := (floatBits op .f64 x y).getD (Question.cut (.nanBits .f64 x y) (w.tape w.drawn (.nanBits .f64 x y)))
def fwld (op : BinOp) (x y : Nat) (w : World) : World := if (floatBits op .f64 x y).isSome then w else w.drew
def fop (op : BinOp) (a b : Int) : Int := match floatBits op .f64 a.toNat b.toNat with | some r => canon r | none => noneB
def mantN (x : Nat) : Nat := if x / 4503599627370496 % 2048 = 0 then x % 4503599627370496 else x % 4503599627370496 + 4503599627370496
def expI (x : Nat) : Int := if x / 4503599627370496 % 2048 = 0 then -1074 else ((x / 4503599627370496 % 2048 : Nat) : Int) - 1075
theorem dbl_sign : Ieee.double.signWeight = 9223372036854775808 := by decide
theorem dbl_binade : Ieee.double.binade = 4503599627370496 := by decide
theorem dbl_inf : Ieee.double.infRung = 9218868437227405312 := by decide
theorem dbl_least : Ieee.double.leastPlace = -1074 := by decide
theorem nanB_nat (x : Nat) : nanB x = decide (9218868437227405312 < x % 9223372036854775808) := by
 unfold nanB;rw [decide_eq_decide]; omega
def ofI (n : Int) : Int := (floatOfInt .f64 n : Nat)
theorem ofI_nonneg (n : Int) : 0 ≤ ofI n := by unfold ofI; omega
theorem ofI_lt (n : Int) : ofI n < 18446744073709551616 := by
 have := floatOfInt_wf .f64 n;have h2 : floatOfInt .f64 n < 18446744073709551616 := by simpa [Lit.wf] using this
 unfold ofI; omega
def negI (a : Int) : Int := if nanB a then noneB else if a < 9223372036854775808 then a + 9223372036854775808 else a - 9223372036854775808
theorem zmx (b : Nat) (w : World) : (callFunc 153 #[.float .f64 b]).run Tryz.prog w = .ok (.value (.int .u64 (b : Int))) w := by
 rw [run_callFunc_extern (e := Extern.MathFloatBits.float64bits) Tryz.func153 (by kernel_rfl) (by kernel_rfl) (by kernel_rfl) (by kernel_rfl)];rfl
theorem zhj (n : Int) (w : World) :
  Calls Tryz.prog 101 #[.int .i64 n] w fun e w' => e = .returned (.int .u64 (ofI n)) ∧ w = w' := by
 have hfb := zmx
 go_enter Tryz.func101, Tryz.ntmps101
 go_wp2
 go_ret;exact ⟨rfl, rfl⟩
end Go.Proofs.YtfcgpphodacdmaaGreatDoor
