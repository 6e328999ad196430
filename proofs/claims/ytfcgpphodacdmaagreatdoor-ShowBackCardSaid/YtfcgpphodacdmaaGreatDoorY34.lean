/- Part of a proof: contracts of functions. -/
import Derived.Test.YtfcgpphodacdmaaGreatDoorY33
import Derived.Test.YtfcgpphodacdmaaGreatDoorY32
import Derived.Test.YtfcgpphodacdmaaGreatDoorY1
set_option maxRecDepth 100000
set_option maxHeartbeats 4000000
set_option linter.all false
namespace Go.Proofs.YtfcgpphodacdmaaGreatDoor
def zE : List (List UInt8) → List UInt8
 | [] => []
 | [f] => f
 | f :: g :: l => f ++ ([44, 32] ++ zE (g :: l))
def yw (s : List UInt8) (l : List (List UInt8)) : List UInt8 := l.flatMap fun f => f ++ s
def vZ (b : Int) : List UInt8 := (Bt.textI b).data.toList
def zbG (k : Int) (x : List UInt8) (b : Int) (f p e : List (List UInt8)) : List UInt8 :=
  if k = 1 then yw [10] f
  else if k = 2 ∨ k = 20 then [123, 32] ++ yw [32] f ++ [125]
  else if k = 3 then [118, 97, 114, 32] ++ zE f ++ [59]
  else if k = 4 then (match p with | a :: _ => x ++ ([32, 61, 32] ++ a) | [] => x)
  else if k = 5 then [59]
  else if k = 6 then [40] ++ f.headD [] ++ [41, 59]
  else if k = 7 then match f with
    | [a, c] => [105, 102, 32, 40] ++ a ++ [41, 32] ++ c
    | [a, c, d] => [105, 102, 32, 40] ++ a ++ [41, 32] ++ c ++ ([32, 101, 108, 115, 101, 32] ++ d)
    | _ => []
  else if k = 8 then match f with
    | [a, c] => [119, 104, 105, 108, 101, 32, 40] ++ a ++ [41, 32] ++ c
    | _ => []
  else if k = 9 then match f with
    | [a, c] => [100, 111, 32] ++ a ++ [32, 119, 104, 105, 108, 101, 32, 40] ++ c ++ [41, 59]
    | _ => []
  else if k = 10 then (match f, e with
    | [a, _, _, g], [_, c, d, _] => [102, 111, 114, 32, 40] ++ a ++ c ++ [59] ++ d ++ [41, 32] ++ g
    | _, _ => [])
  else if k = 11 then [98, 114, 101, 97, 107, 59]
  else if k = 12 then [99, 111, 110, 116, 105, 110, 117, 101, 59]
  else if k = 13 then [114, 101, 116, 117, 114, 110] ++ (match p with | a :: _ => [32] ++ a | [] => []) ++ [59]
  else if k = 14 then [116, 104, 114, 111, 119, 32] ++ p.headD [] ++ [59]
  else if k = 15 then [116, 114, 121, 32] ++ yw [] f
  else if k = 16 then [32, 99, 97, 116, 99, 104, 32, 40] ++ x ++ [41, 32] ++ f.headD []
  else if k = 17 then [32, 102, 105, 110, 97, 108, 108, 121, 32] ++ f.headD []
  else if k = 18 ∨ k = 31 then [102, 117, 110, 99, 116, 105, 111, 110, 32] ++ x ++ [40] ++ zE f.dropLast ++ [41, 32] ++ f.getLastD []
  else if k = 19 ∨ k = 27 then x
  else if k = 21 then vZ b
  else if k = 22 then yf x
  else if k = 23 then [116, 114, 117, 101]
  else if k = 24 then [102, 97, 108, 115, 101]
  else if k = 25 then [110, 117, 108, 108]
  else if k = 26 then [116, 104, 105, 115]
  else if k = 28 then [91] ++ zE p ++ [93]
  else if k = 29 then [123] ++ zE f ++ [125]
  else if k = 30 then yf x ++ [58, 32] ++ p.headD []
  else if k = 32 then p.headD [] ++ [46] ++ x
  else if k = 33 then match p, f with
    | [a, _], [_, c] => a ++ [91] ++ c ++ [93]
    | _, _ => []
  else if k = 34 then p.headD [] ++ [40] ++ zE p.tail ++ [41]
  else if k = 35 then [110, 101, 119, 32] ++ (p.headD [] ++ [40] ++ zE p.tail ++ [41])
  else if k = 36 then x ++ [32] ++ p.headD []
  else if k = 37 then (if b = 0 then x ++ p.headD [] else p.headD [] ++ x)
  else if k = 38 ∨ k = 39 ∨ k = 41 then match p with
    | [a, c] => a ++ [32] ++ x ++ [32] ++ c
    | _ => []
  else if k = 40 then match p with
    | [a, c, d] => a ++ [32, 63, 32] ++ c ++ [32, 58, 32] ++ d
    | _ => []
  else if k = 42 then zE p
  else []
def brB (t : Tr) (f : List UInt8) : List UInt8 := if yP t then f else [40] ++ f ++ [41]
mutual
def fB : Tr → List UInt8
 | .node k x b kids => zbG k x b (fBs kids) (pBs kids) (eBs kids)
def fBs : List Tr → List (List UInt8)
 | [] => []
 | t :: l => fB t :: fBs l
def pBs : List Tr → List (List UInt8)
 | [] => []
 | t :: l => brB t (fB t) :: pBs l
def eBs : List Tr → List (List UInt8)
 | [] => []
 | t :: l => (if t.kind = 5 then [] else 32 :: fB t) :: eBs l
end
def pB (t : Tr) : List UInt8 := brB t (fB t)
def eB (t : Tr) : List UInt8 := if t.kind = 5 then [] else 32 :: fB t
theorem zfk : ∀ l : List Tr, fBs l = l.map fB
 | [] => rfl
 | t :: l => by rw [fBs, zfk l]; rfl
theorem zfl : ∀ l : List Tr, pBs l = l.map pB
 | [] => rfl
 | t :: l => by rw [pBs, zfl l]; rfl
theorem zfm : ∀ l : List Tr, eBs l = l.map eB
 | [] => rfl
 | t :: l => by rw [eBs, zfm l]; rfl
theorem zt (k : Int) (x : List UInt8) (b : Int) (kids : List Tr) : fB (.node k x b kids) = zbG k x b (kids.map fB) (kids.map pB) (kids.map eB) := by rw [fB, zfk, zfl, zfm]
def En0 (f : List Tg) : Prop := ∃ g x, f = g ++ [h0 x]
theorem En0.cons {f : List Tg} (h : En0 f) (y : Tg) : En0 (y :: f) := by obtain ⟨g, x, rfl⟩ := h; exact ⟨y :: g, x, rfl⟩
theorem En0.app {f : List Tg} (h : En0 f) (y : List Tg) : En0 (y ++ f) := by obtain ⟨g, x, rfl⟩ := h; exact ⟨y ++ g, x, by simp⟩
theorem En0.one (x : Tk) : En0 [h0 x] := ⟨[], x, rfl⟩
theorem zJ (f g : List Tg) : yd (f ++ g) = yd f ++ yd g := by unfold yd; rw [List.flatMap_append]
theorem zB (x : Tg) (g : List Tg) : yd (x :: g) = ya x.1 ++ (x.2 ++ yd g) := by unfold yd; rw [List.flatMap_cons, List.append_assoc]
theorem zK : yd [] = [] := rfl
theorem zcy (b : List UInt8) (x : Tk) : ∀ g : List Tg, zX b (g ++ [h0 x]) = g ++ [(x, b)]
 | [] => rfl
 | [a] => rfl
 | a :: c :: g => by
  have := zcy b x (c :: g);rw [List.cons_append] at this;rw [List.cons_append, List.cons_append, zX, this]; rfl
theorem xw {b : List UInt8} {f : List Tg} (h : En0 f) : yd (zX b f) = yd f ++ b := by
 obtain ⟨g, x, rfl⟩ := h;rw [zcy, zJ, zJ, zB, zB, zK]; simp
theorem qp {α : Type} (F : α → List Tg) (B : α → List UInt8) : ∀ l : List α, (∀ t ∈ l, yd (F t) = B t) → yd (yz (l.map F)) = zE (l.map B)
 | [], _ => rfl
 | [t], h => h t (by simp)
 | t :: u :: l, h => by
  show yd (F t ++ h1 (sg [44]) :: yz ((u :: l).map F)) = B t ++ ([44, 32] ++ zE ((u :: l).map B))
  rw [zJ, zB, h t (by simp), qp F B (u :: l) fun v hv => h v (by simp [hv])]; rfl
theorem jk {α : Type} (F : α → List Tg) (B : α → List UInt8) (s : List UInt8) : ∀ l : List α, (∀ t ∈ l, En0 (F t) ∧ yd (F t) = B t) → yd (vq s (l.map F)) = yw s (l.map B)
 | [], _ => rfl
 | t :: l, h => by
  show yd (zX s (F t) ++ vq s (l.map F)) = _
  rw [zJ, xw (h t (by simp)).1, (h t (by simp)).2, jk F B s l fun v hv => h v (by simp [hv])];unfold yw; rw [List.map_cons, List.flatMap_cons]
theorem jE : ∀ {ks rs : List Int}, zw ks rs = true → ks.length = rs.length
 | [], [], _ => rfl
 | k :: ks, r :: rs, h => by
  rw [zw, Bool.and_eq_true] at h;rw [List.length_cons, List.length_cons, jE h.2]
 | [], r :: rs, h => by simp [zw] at h
 | k :: ks, [], h => by simp [zw] at h
theorem yu (q : List UInt8) : ya (sg q) = q := rfl
theorem yy (q : List UInt8) : ya (wd q) = q := rfl
theorem yE (q : List UInt8) : ya (nmT q) = q := rfl
theorem yM (q : List UInt8) : ya (txT q) = yf q := rfl
theorem yN (b : Int) : ya (nuT b) = vZ b := rfl
theorem yO (q : List UInt8) : ya (opT q) = q := by unfold opT; split <;> rfl
theorem yr (q : List UInt8) : ya (if zV q then wd q else nmT q) = q := by split <;> rfl
structure Wt (t : Tr) : Prop where
 en : t.kind ≠ 1 → En0 (gF t)
 eq : t.kind ≠ 16 → t.kind ≠ 17 → yd (gF t) = fB t
 ca : t.kind = 16 ∨ t.kind = 17 → 32 :: yd (gF t) = fB t
theorem zqm {l : List Tr} (h : l.length = 1) : ∃ a, l = [a] := by match l, h with | [a], _ => exact ⟨a, rfl⟩
theorem zqn {l : List Tr} (h : l.length = 2) : ∃ a c, l = [a, c] := by match l, h with | [a, c], _ => exact ⟨a, c, rfl⟩
theorem zqo {l : List Tr} (h : l.length = 3) : ∃ a c d, l = [a, c, d] := by match l, h with | [a, c, d], _ => exact ⟨a, c, d, rfl⟩
theorem zqp {l : List Tr} (h : l.length = 4) : ∃ a c d e, l = [a, c, d, e] := by match l, h with | [a, c, d, e], _ => exact ⟨a, c, d, e, rfl⟩
theorem xG {l : List Tr} (h : (l.map fun t => zl t.kind).isEmpty = true) : l = [] := by cases l; rfl; cases h
theorem zqq {r : Int} {k : Int} (h : ys (zl k) r = true) (hr : r ∈ ([1, 2, 4, 8, 16, 32, 64, 128, 1024, 2048, 4096] : List Int)) : k ≠ 1 ∧ k ≠ 16 ∧ k ≠ 17 := by
 have h2 : ∀ r ∈ ([1, 2, 4, 8, 16, 32, 64, 128, 1024, 2048, 4096] : List Int), ys (zl 1) r = false ∧ ys (zl 16) r = false ∧ ys (zl 17) r = false := by decide
 have := h2 r hr;refine ⟨fun e => ?_, fun e => ?_, fun e => ?_⟩ <;> subst e <;> simp_all
theorem zja {k : Int} (h : ys (zl k) 768 = true ∨ ys (zl k) 256 = true ∨ ys (zl k) 512 = true) : k = 16 ∨ k = 17 := by
 have h1 : ∀ n : Nat, n < 43 → ys (zl (n : Int)) 768 = true ∨ ys (zl (n : Int)) 256 = true ∨ ys (zl (n : Int)) 512 = true → n = 16 ∨ n = 17 := by decide
 by_cases hk : k < 0 ∨ 43 ≤ k
 ·have : zl k = 0 := by unfold zl; rw [if_pos hk]
  rw [this] at h;simp [ys] at h
 ·obtain ⟨n, rfl⟩ : ∃ n : Nat, k = n := ⟨k.toNat, by omega⟩;have := h1 n (by omega) h;omega
structure Wk (t : Tr) : Prop where
 en : En0 (gF t)
 eq : yd (gF t) = fB t
theorem Wk.of {t : Tr} (h : Wt t) {r : Int} (hr : ys (zl t.kind) r = true) (hm : r ∈ ([1, 2, 4, 8, 16, 32, 64, 128, 1024, 2048, 4096] : List Int)) : Wk t := by
 have := zqq hr hm;exact ⟨h.en this.1, h.eq this.2.1 this.2.2⟩
theorem Wk.p {t : Tr} (h : Wk t) : En0 (gP t) ∧ yd (gP t) = pB t := by
 unfold gP brG pB brB;split
 ·exact ⟨h.en, h.eq⟩
 ·refine ⟨((En0.one _).app _).cons _, ?_⟩;rw [zB, zJ, zB, h.eq, yu, yu, zK]; simp
theorem zb8 {l : List Tr} {r : Int} (h : yt (l.map fun t => zl t.kind) r = true) : ∀ t ∈ l, ys (zl t.kind) r = true := fun t ht => by
 unfold yt at h;rw [List.all_eq_true] at h;exact h _ (List.mem_map_of_mem (f := fun t : Tr => zl t.kind) ht)
theorem En0.ne {f : List Tg} (h : En0 f) : f ≠ [] := by obtain ⟨g, x, rfl⟩ := h; simp
theorem zqw (x : List UInt8) (b : Int) : Wk (.node 23 x b []) := by
 have e1 : gF (.node 23 x b []) = [h0 (wd [116, 114, 117, 101])] := by rw [zv]; rfl
 have e2 : fB (.node 23 x b []) = [116, 114, 117, 101] := by rw [zt]; rfl
 refine ⟨?_, ?_⟩
 ·rw [e1]; repeat (first | exact En0.one _ | refine En0.cons ?_ _ | refine En0.app ?_ _)
 ·rw [e1, e2]; simp only [zJ, zB, zK, yu, yy, yE, yM, yN, yO, yr]; try simp
theorem zqx (x : List UInt8) (b : Int) : Wk (.node 24 x b []) := by
 have e1 : gF (.node 24 x b []) = [h0 (wd [102, 97, 108, 115, 101])] := by rw [zv]; rfl
 have e2 : fB (.node 24 x b []) = [102, 97, 108, 115, 101] := by rw [zt]; rfl
 refine ⟨?_, ?_⟩
 ·rw [e1]; repeat (first | exact En0.one _ | refine En0.cons ?_ _ | refine En0.app ?_ _)
 ·rw [e1, e2]; simp only [zJ, zB, zK, yu, yy, yE, yM, yN, yO, yr]; try simp
theorem zqy (x : List UInt8) (b : Int) : Wk (.node 25 x b []) := by
 have e1 : gF (.node 25 x b []) = [h0 (wd [110, 117, 108, 108])] := by rw [zv]; rfl
 have e2 : fB (.node 25 x b []) = [110, 117, 108, 108] := by rw [zt]; rfl
 refine ⟨?_, ?_⟩
 ·rw [e1]; repeat (first | exact En0.one _ | refine En0.cons ?_ _ | refine En0.app ?_ _)
 ·rw [e1, e2]; simp only [zJ, zB, zK, yu, yy, yE, yM, yN, yO, yr]; try simp
theorem zqz (x : List UInt8) (b : Int) : Wk (.node 26 x b []) := by
 have e1 : gF (.node 26 x b []) = [h0 (wd [116, 104, 105, 115])] := by rw [zv]; rfl
 have e2 : fB (.node 26 x b []) = [116, 104, 105, 115] := by rw [zt]; rfl
 refine ⟨?_, ?_⟩
 ·rw [e1]; repeat (first | exact En0.one _ | refine En0.cons ?_ _ | refine En0.app ?_ _)
 ·rw [e1, e2]; simp only [zJ, zB, zK, yu, yy, yE, yM, yN, yO, yr]; try simp
theorem w_5 (x : List UInt8) (b : Int) : Wk (.node 5 x b []) := by
 have e1 : gF (.node 5 x b []) = [h0 (sg [59])] := by rw [zv]; rfl
 have e2 : fB (.node 5 x b []) = [59] := by rw [zt]; rfl
 refine ⟨?_, ?_⟩
 ·rw [e1]; repeat (first | exact En0.one _ | refine En0.cons ?_ _ | refine En0.app ?_ _)
 ·rw [e1, e2]; simp only [zJ, zB, zK, yu, yy, yE, yM, yN, yO, yr]; try simp
theorem zqA (x : List UInt8) (b : Int) : Wk (.node 21 x b []) := by
 have e1 : gF (.node 21 x b []) = [h0 (nuT b)] := by rw [zv]; rfl
 have e2 : fB (.node 21 x b []) = vZ b := by rw [zt]; rfl
 refine ⟨?_, ?_⟩
 ·rw [e1]; repeat (first | exact En0.one _ | refine En0.cons ?_ _ | refine En0.app ?_ _)
 ·rw [e1, e2]; simp only [zJ, zB, zK, yu, yy, yE, yM, yN, yO, yr]; try simp
theorem zqB (x : List UInt8) (b : Int) : Wk (.node 22 x b []) := by
 have e1 : gF (.node 22 x b []) = [h0 (txT x)] := by rw [zv]; rfl
 have e2 : fB (.node 22 x b []) = yf x := by rw [zt]; rfl
 refine ⟨?_, ?_⟩
 ·rw [e1]; repeat (first | exact En0.one _ | refine En0.cons ?_ _ | refine En0.app ?_ _)
 ·rw [e1, e2]; simp only [zJ, zB, zK, yu, yy, yE, yM, yN, yO, yr]; try simp
theorem zqC (x : List UInt8) (b : Int) : Wk (.node 27 x b []) := by
 have e1 : gF (.node 27 x b []) = [h0 (nmT x)] := by rw [zv]; rfl
 have e2 : fB (.node 27 x b []) = x := by rw [zt]; rfl
 refine ⟨?_, ?_⟩
 ·rw [e1]; repeat (first | exact En0.one _ | refine En0.cons ?_ _ | refine En0.app ?_ _)
 ·rw [e1, e2]; simp only [zJ, zB, zK, yu, yy, yE, yM, yN, yO, yr]; try simp
theorem zqD (x : List UInt8) (b : Int) : Wk (.node 19 x b []) := by
 have e1 : gF (.node 19 x b []) = [h0 (nmT x)] := by rw [zv]; rfl
 have e2 : fB (.node 19 x b []) = x := by rw [zt]; rfl
 refine ⟨?_, ?_⟩
 ·rw [e1]; repeat (first | exact En0.one _ | refine En0.cons ?_ _ | refine En0.app ?_ _)
 ·rw [e1, e2]; simp only [zJ, zB, zK, yu, yy, yE, yM, yN, yO, yr]; try simp
theorem zqE (x : List UInt8) (b : Int) : Wk (.node 11 x b []) := by
 have e1 : gF (.node 11 x b []) = [h0 (wd [98, 114, 101, 97, 107]), h0 (sg [59])] := by rw [zv]; rfl
 have e2 : fB (.node 11 x b []) = [98, 114, 101, 97, 107, 59] := by rw [zt]; rfl
 refine ⟨?_, ?_⟩
 ·rw [e1]; repeat (first | exact En0.one _ | refine En0.cons ?_ _ | refine En0.app ?_ _)
 ·rw [e1, e2]; simp only [zJ, zB, zK, yu, yy, yE, yM, yN, yO, yr]; try simp
theorem zqF (x : List UInt8) (b : Int) : Wk (.node 12 x b []) := by
 have e1 : gF (.node 12 x b []) = [h0 (wd [99, 111, 110, 116, 105, 110, 117, 101]), h0 (sg [59])] := by rw [zv]; rfl
 have e2 : fB (.node 12 x b []) = [99, 111, 110, 116, 105, 110, 117, 101, 59] := by rw [zt]; rfl
 refine ⟨?_, ?_⟩
 ·rw [e1]; repeat (first | exact En0.one _ | refine En0.cons ?_ _ | refine En0.app ?_ _)
 ·rw [e1, e2]; simp only [zJ, zB, zK, yu, yy, yE, yM, yN, yO, yr]; try simp
theorem zqG (x : List UInt8) (b : Int) : Wk (.node 4 x b []) := by
 have e1 : gF (.node 4 x b []) = [h0 (nmT x)] := by rw [zv]; rfl
 have e2 : fB (.node 4 x b []) = x := by rw [zt]; rfl
 refine ⟨?_, ?_⟩
 ·rw [e1]; repeat (first | exact En0.one _ | refine En0.cons ?_ _ | refine En0.app ?_ _)
 ·rw [e1, e2]; simp only [zJ, zB, zK, yu, yy, yE, yM, yN, yO, yr]; try simp
theorem zo1 (x : List UInt8) (b : Int) : Wk (.node 13 x b []) := by
 have e1 : gF (.node 13 x b []) = [h0 (wd [114, 101, 116, 117, 114, 110]), h0 (sg [59])] := by rw [zv]; rfl
 have e2 : fB (.node 13 x b []) = [114, 101, 116, 117, 114, 110, 59] := by rw [zt]; rfl
 refine ⟨?_, ?_⟩
 ·rw [e1]; repeat (first | exact En0.one _ | refine En0.cons ?_ _ | refine En0.app ?_ _)
 ·rw [e1, e2]; simp only [zJ, zB, zK, yu, yy, yE, yM, yN, yO, yr]; try simp
theorem w_4 (x : List UInt8) (b : Int) {a : Tr} (h : Wk a) : Wk (.node 4 x b [a]) := by
 have e1 : gF (.node 4 x b [a]) = h1 (nmT x) :: h1 (sg [61]) :: gP a := by rw [zv]; rfl
 have e2 : fB (.node 4 x b [a]) = x ++ ([32, 61, 32] ++ pB a) := by rw [zt]; rfl
 refine ⟨?_, ?_⟩
 ·rw [e1]; repeat (first | exact En0.one _ | exact h.p.1 | refine En0.cons ?_ _ | refine En0.app ?_ _)
 ·rw [e1, e2]; simp only [zJ, zB, zK, h.p.2, yu, yy, yE, yM, yN, yO, yr]; try simp
theorem zqH (x : List UInt8) (b : Int) {a : Tr} (h : Wk a) : Wk (.node 13 x b [a]) := by
 have e1 : gF (.node 13 x b [a]) = h1 (wd [114, 101, 116, 117, 114, 110]) :: ([gP a].flatten ++ [h0 (sg [59])]) := by rw [zv]; rfl
 have e2 : fB (.node 13 x b [a]) = [114, 101, 116, 117, 114, 110] ++ ([32] ++ pB a) ++ [59] := by rw [zt]; rfl
 refine ⟨?_, ?_⟩
 ·rw [e1]; repeat (first | exact En0.one _ | refine En0.cons ?_ _ | refine En0.app ?_ _)
 ·rw [e1, e2]; simp only [zJ, zB, zK, List.flatten_cons, List.flatten_nil, List.append_nil, h.p.2, yu, yy, yE, yM, yN, yO, yr]; try simp
theorem zqI (x : List UInt8) (b : Int) {a : Tr} (h : Wk a) : Wk (.node 14 x b [a]) := by
 have e1 : gF (.node 14 x b [a]) = h1 (wd [116, 104, 114, 111, 119]) :: ([gP a].flatten ++ [h0 (sg [59])]) := by rw [zv]; rfl
 have e2 : fB (.node 14 x b [a]) = [116, 104, 114, 111, 119, 32] ++ pB a ++ [59] := by rw [zt]; rfl
 refine ⟨?_, ?_⟩
 ·rw [e1]; repeat (first | exact En0.one _ | refine En0.cons ?_ _ | refine En0.app ?_ _)
 ·rw [e1, e2]; simp only [zJ, zB, zK, List.flatten_cons, List.flatten_nil, List.append_nil, h.p.2, yu, yy, yE, yM, yN, yO, yr]; try simp
theorem w_6 (x : List UInt8) (b : Int) {a : Tr} (h : Wk a) : Wk (.node 6 x b [a]) := by
 have e1 : gF (.node 6 x b [a]) = h0 (sg [40]) :: ([gF a].flatten ++ [h0 (sg [41]), h0 (sg [59])]) := by rw [zv]; rfl
 have e2 : fB (.node 6 x b [a]) = [40] ++ fB a ++ [41, 59] := by rw [zt]; rfl
 refine ⟨?_, ?_⟩
 ·rw [e1]; repeat (first | exact En0.one _ | refine En0.cons ?_ _ | refine En0.app ?_ _)
 ·rw [e1, e2]; simp only [zJ, zB, zK, List.flatten_cons, List.flatten_nil, List.append_nil, h.eq, yu, yy, yE, yM, yN, yO, yr]; try simp
theorem zqJ (x : List UInt8) (b : Int) {a c : Tr} (h : Wk a) (g : Wk c) : Wk (.node 7 x b [a, c]) := by
 have e1 : gF (.node 7 x b [a, c]) = h1 (wd [105, 102]) :: h0 (sg [40]) :: (gF a ++ h1 (sg [41]) :: gF c) := by rw [zv]; rfl
 have e2 : fB (.node 7 x b [a, c]) = [105, 102, 32, 40] ++ fB a ++ [41, 32] ++ fB c := by rw [zt]; rfl
 refine ⟨?_, ?_⟩
 ·rw [e1]; repeat (first | exact En0.one _ | exact g.en | refine En0.cons ?_ _ | refine En0.app ?_ _)
 ·rw [e1, e2]; simp only [zJ, zB, zK, h.eq, g.eq, yu, yy, yE, yM, yN, yO, yr]; try simp
theorem zqK (x : List UInt8) (b : Int) {a c d : Tr} (h : Wk a) (g : Wk c) (i : Wk d) : Wk (.node 7 x b [a, c, d]) := by
 have e1 : gF (.node 7 x b [a, c, d]) = h1 (wd [105, 102]) :: h0 (sg [40]) :: (gF a ++ h1 (sg [41]) :: (zX [32] (gF c) ++ h1 (wd [101, 108, 115, 101]) :: gF d)) := by rw [zv]; rfl
 have e2 : fB (.node 7 x b [a, c, d]) = [105, 102, 32, 40] ++ fB a ++ [41, 32] ++ fB c ++ ([32, 101, 108, 115, 101, 32] ++ fB d) := by rw [zt]; rfl
 refine ⟨?_, ?_⟩
 ·rw [e1]; repeat (first | exact En0.one _ | exact i.en | refine En0.cons ?_ _ | refine En0.app ?_ _)
 ·rw [e1, e2]; simp only [zJ, zB, zK, xw g.en, h.eq, g.eq, i.eq, yu, yy, yE, yM, yN, yO, yr]; try simp
theorem w_8 (x : List UInt8) (b : Int) {a c : Tr} (h : Wk a) (g : Wk c) : Wk (.node 8 x b [a, c]) := by
 have e1 : gF (.node 8 x b [a, c]) = h1 (wd [119, 104, 105, 108, 101]) :: h0 (sg [40]) :: (gF a ++ h1 (sg [41]) :: gF c) := by rw [zv]; rfl
 have e2 : fB (.node 8 x b [a, c]) = [119, 104, 105, 108, 101, 32, 40] ++ fB a ++ [41, 32] ++ fB c := by rw [zt]; rfl
 refine ⟨?_, ?_⟩
 ·rw [e1]; repeat (first | exact En0.one _ | exact g.en | refine En0.cons ?_ _ | refine En0.app ?_ _)
 ·rw [e1, e2]; simp only [zJ, zB, zK, h.eq, g.eq, yu, yy, yE, yM, yN, yO, yr]; try simp
theorem w_9 (x : List UInt8) (b : Int) {a c : Tr} (h : Wk a) (g : Wk c) : Wk (.node 9 x b [a, c]) := by
 have e1 : gF (.node 9 x b [a, c]) = h1 (wd [100, 111]) :: (zX [32] (gF a) ++ h1 (wd [119, 104, 105, 108, 101]) :: h0 (sg [40]) :: (gF c ++ [h0 (sg [41]), h0 (sg [59])])) := by rw [zv]; rfl
 have e2 : fB (.node 9 x b [a, c]) = [100, 111, 32] ++ fB a ++ [32, 119, 104, 105, 108, 101, 32, 40] ++ fB c ++ [41, 59] := by rw [zt]; rfl
 refine ⟨?_, ?_⟩
 ·rw [e1]; repeat (first | exact En0.one _ | refine En0.cons ?_ _ | refine En0.app ?_ _)
 ·rw [e1, e2]; simp only [zJ, zB, zK, xw h.en, h.eq, g.eq, yu, yy, yE, yM, yN, yO, yr]; try simp
theorem zqL (x : List UInt8) (b : Int) {a : Tr} (h : Wk a) : Wk (.node 32 x b [a]) := by
 have e1 : gF (.node 32 x b [a]) = [gP a].flatten ++ [h0 (sg [46]), h0 (if zV x then wd x else nmT x)] := by rw [zv]; rfl
 have e2 : fB (.node 32 x b [a]) = pB a ++ [46] ++ x := by rw [zt]; rfl
 refine ⟨?_, ?_⟩
 ·rw [e1]; repeat (first | exact En0.one _ | refine En0.cons ?_ _ | refine En0.app ?_ _)
 ·rw [e1, e2]; simp only [zJ, zB, zK, List.flatten_cons, List.flatten_nil, List.append_nil, h.p.2, yu, yy, yE, yM, yN, yO, yr]; try simp
theorem zqM (x : List UInt8) (b : Int) {a c : Tr} (h : Wk a) (g : Wk c) : Wk (.node 33 x b [a, c]) := by
 have e1 : gF (.node 33 x b [a, c]) = gP a ++ h0 (sg [91]) :: (gF c ++ [h0 (sg [93])]) := by rw [zv]; rfl
 have e2 : fB (.node 33 x b [a, c]) = pB a ++ [91] ++ fB c ++ [93] := by rw [zt]; rfl
 refine ⟨?_, ?_⟩
 ·rw [e1]; repeat (first | exact En0.one _ | refine En0.cons ?_ _ | refine En0.app ?_ _)
 ·rw [e1, e2]; simp only [zJ, zB, zK, h.p.2, g.eq, yu, yy, yE, yM, yN, yO, yr]; try simp
theorem zqN (x : List UInt8) (b : Int) {a : Tr} (h : Wk a) : Wk (.node 36 x b [a]) := by
 have e1 : gF (.node 36 x b [a]) = h1 (opT x) :: [gP a].flatten := by rw [zv]; rfl
 have e2 : fB (.node 36 x b [a]) = x ++ [32] ++ pB a := by rw [zt]; rfl
 refine ⟨?_, ?_⟩
 ·rw [e1]; repeat (first | exact En0.one _ | exact (by simpa using h.p.1) | refine En0.cons ?_ _ | refine En0.app ?_ _)
 ·rw [e1, e2]; simp only [zJ, zB, zK, List.flatten_cons, List.flatten_nil, List.append_nil, h.p.2, yu, yy, yE, yM, yN, yO, yr]; try simp
theorem zo2 (x : List UInt8) {a : Tr} (h : Wk a) : Wk (.node 37 x 0 [a]) := by
 have e1 : gF (.node 37 x 0 [a]) = h0 (sg x) :: [gP a].flatten := by rw [zv]; rfl
 have e2 : fB (.node 37 x 0 [a]) = x ++ pB a := by rw [zt]; rfl
 refine ⟨?_, ?_⟩
 ·rw [e1]; repeat (first | exact En0.one _ | exact (by simpa using h.p.1) | refine En0.cons ?_ _ | refine En0.app ?_ _)
 ·rw [e1, e2]; simp only [zJ, zB, zK, List.flatten_cons, List.flatten_nil, List.append_nil, h.p.2, yu, yy, yE, yM, yN, yO, yr]; try simp
theorem zo3 (x : List UInt8) (b : Int) (hb : b ≠ 0) {a : Tr} (h : Wk a) : Wk (.node 37 x b [a]) := by
 have e1 : gF (.node 37 x b [a]) = [gP a].flatten ++ [h0 (sg x)] := by rw [zv]; exact if_neg hb
 have e2 : fB (.node 37 x b [a]) = pB a ++ x := by rw [zt]; exact if_neg hb
 refine ⟨?_, ?_⟩
 ·rw [e1]; repeat (first | exact En0.one _ | refine En0.cons ?_ _ | refine En0.app ?_ _)
 ·rw [e1, e2]; simp only [zJ, zB, zK, List.flatten_cons, List.flatten_nil, List.append_nil, h.p.2, yu, yy, yE, yM, yN, yO, yr]; try simp
theorem zqO (x : List UInt8) (b : Int) {a c : Tr} (h : Wk a) (g : Wk c) : Wk (.node 38 x b [a, c]) := by
 have e1 : gF (.node 38 x b [a, c]) = zX [32] (gP a) ++ h1 (opT x) :: gP c := by rw [zv]; rfl
 have e2 : fB (.node 38 x b [a, c]) = pB a ++ [32] ++ x ++ [32] ++ pB c := by rw [zt]; rfl
 refine ⟨?_, ?_⟩
 ·rw [e1]; repeat (first | exact En0.one _ | exact g.p.1 | refine En0.cons ?_ _ | refine En0.app ?_ _)
 ·rw [e1, e2]; simp only [zJ, zB, zK, xw h.p.1, h.p.2, g.p.2, yu, yy, yE, yM, yN, yO, yr]; try simp
theorem zqP (x : List UInt8) (b : Int) {a c : Tr} (h : Wk a) (g : Wk c) : Wk (.node 39 x b [a, c]) := by
 have e1 : gF (.node 39 x b [a, c]) = zX [32] (gP a) ++ h1 (opT x) :: gP c := by rw [zv]; rfl
 have e2 : fB (.node 39 x b [a, c]) = pB a ++ [32] ++ x ++ [32] ++ pB c := by rw [zt]; rfl
 refine ⟨?_, ?_⟩
 ·rw [e1]; repeat (first | exact En0.one _ | exact g.p.1 | refine En0.cons ?_ _ | refine En0.app ?_ _)
 ·rw [e1, e2]; simp only [zJ, zB, zK, xw h.p.1, h.p.2, g.p.2, yu, yy, yE, yM, yN, yO, yr]; try simp
theorem zqQ (x : List UInt8) (b : Int) {a c : Tr} (h : Wk a) (g : Wk c) : Wk (.node 41 x b [a, c]) := by
 have e1 : gF (.node 41 x b [a, c]) = zX [32] (gP a) ++ h1 (opT x) :: gP c := by rw [zv]; rfl
 have e2 : fB (.node 41 x b [a, c]) = pB a ++ [32] ++ x ++ [32] ++ pB c := by rw [zt]; rfl
 refine ⟨?_, ?_⟩
 ·rw [e1]; repeat (first | exact En0.one _ | exact g.p.1 | refine En0.cons ?_ _ | refine En0.app ?_ _)
 ·rw [e1, e2]; simp only [zJ, zB, zK, xw h.p.1, h.p.2, g.p.2, yu, yy, yE, yM, yN, yO, yr]; try simp
theorem zqR (x : List UInt8) (b : Int) {a c d : Tr} (h : Wk a) (g : Wk c) (i : Wk d) : Wk (.node 40 x b [a, c, d]) := by
 have e1 : gF (.node 40 x b [a, c, d]) = zX [32] (gP a) ++ h1 (sg [63]) :: (zX [32] (gP c) ++ h1 (sg [58]) :: gP d) := by rw [zv]; rfl
 have e2 : fB (.node 40 x b [a, c, d]) = pB a ++ [32, 63, 32] ++ pB c ++ [32, 58, 32] ++ pB d := by rw [zt]; rfl
 refine ⟨?_, ?_⟩
 ·rw [e1]; repeat (first | exact En0.one _ | exact i.p.1 | refine En0.cons ?_ _ | refine En0.app ?_ _)
 ·rw [e1, e2]; simp only [zJ, zB, zK, xw h.p.1, xw g.p.1, h.p.2, g.p.2, i.p.2, yu, yy, yE, yM, yN, yO, yr]; try simp
theorem zqS (x : List UInt8) (b : Int) {a c : Tr} (h : Wk a) (g : Wk c) : Wk (.node 42 x b [a, c]) := by
 have e1 : gF (.node 42 x b [a, c]) = gP a ++ h1 (sg [44]) :: gP c := by rw [zv]; rfl
 have e2 : fB (.node 42 x b [a, c]) = pB a ++ ([44, 32] ++ pB c) := by rw [zt]; rfl
 refine ⟨?_, ?_⟩
 ·rw [e1]; repeat (first | exact En0.one _ | exact g.p.1 | refine En0.cons ?_ _ | refine En0.app ?_ _)
 ·rw [e1, e2]; simp only [zJ, zB, zK, h.p.2, g.p.2, yu, yy, yE, yM, yN, yO, yr]; try simp
theorem zqT (x : List UInt8) (b : Int) {a : Tr} (h : Wk a) : Wk (.node 30 x b [a]) := by
 have e1 : gF (.node 30 x b [a]) = h0 (txT x) :: h1 (sg [58]) :: [gP a].flatten := by rw [zv]; rfl
 have e2 : fB (.node 30 x b [a]) = yf x ++ [58, 32] ++ pB a := by rw [zt]; rfl
 refine ⟨?_, ?_⟩
 ·rw [e1]; repeat (first | exact En0.one _ | exact (by simpa using h.p.1) | refine En0.cons ?_ _ | refine En0.app ?_ _)
 ·rw [e1, e2]; simp only [zJ, zB, zK, List.flatten_cons, List.flatten_nil, List.append_nil, h.p.2, yu, yy, yE, yM, yN, yO, yr]; try simp
theorem w_2 (x : List UInt8) (b : Int) {l : List Tr} (h : ∀ t ∈ l, Wk t) : Wk (.node 2 x b l) := by
 have e1 : gF (.node 2 x b l) = h1 (sg [123]) :: (vq [32] (l.map gF) ++ [h0 (sg [125])]) := by rw [zv, yq, yH]; rfl
 have e2 : fB (.node 2 x b l) = [123, 32] ++ yw [32] (l.map fB) ++ [125] := by rw [zt]; rfl
 refine ⟨?_, ?_⟩
 ·rw [e1]; repeat (first | exact En0.one _ | refine En0.cons ?_ _ | refine En0.app ?_ _)
 ·rw [e1, e2]; simp only [zJ, zB, zK, (jk gF fB [32] l fun t ht => ⟨(h t ht).en, (h t ht).eq⟩), yu, yy, yE, yM, yN, yO, yr]; try simp
theorem zqU (x : List UInt8) (b : Int) {l : List Tr} (h : ∀ t ∈ l, Wk t) : Wk (.node 20 x b l) := by
 have e1 : gF (.node 20 x b l) = h1 (sg [123]) :: (vq [32] (l.map gF) ++ [h0 (sg [125])]) := by rw [zv, yq, yH]; rfl
 have e2 : fB (.node 20 x b l) = [123, 32] ++ yw [32] (l.map fB) ++ [125] := by rw [zt]; rfl
 refine ⟨?_, ?_⟩
 ·rw [e1]; repeat (first | exact En0.one _ | refine En0.cons ?_ _ | refine En0.app ?_ _)
 ·rw [e1, e2]; simp only [zJ, zB, zK, (jk gF fB [32] l fun t ht => ⟨(h t ht).en, (h t ht).eq⟩), yu, yy, yE, yM, yN, yO, yr]; try simp
theorem w_3 (x : List UInt8) (b : Int) {l : List Tr} (h : ∀ t ∈ l, Wk t) : Wk (.node 3 x b l) := by
 have e1 : gF (.node 3 x b l) = h1 (wd [118, 97, 114]) :: (yz (l.map gF) ++ [h0 (sg [59])]) := by rw [zv, yq, yH]; rfl
 have e2 : fB (.node 3 x b l) = [118, 97, 114, 32] ++ zE (l.map fB) ++ [59] := by rw [zt]; rfl
 refine ⟨?_, ?_⟩
 ·rw [e1]; repeat (first | exact En0.one _ | refine En0.cons ?_ _ | refine En0.app ?_ _)
 ·rw [e1, e2]; simp only [zJ, zB, zK, (qp gF fB l fun t ht => (h t ht).eq), yu, yy, yE, yM, yN, yO, yr]; try simp
theorem zqV (x : List UInt8) (b : Int) {l : List Tr} (h : ∀ t ∈ l, Wk t) : Wk (.node 28 x b l) := by
 have e1 : gF (.node 28 x b l) = h0 (sg [91]) :: (yz (l.map gP) ++ [h0 (sg [93])]) := by rw [zv, yq, yH]; rfl
 have e2 : fB (.node 28 x b l) = [91] ++ zE (l.map pB) ++ [93] := by rw [zt]; rfl
 refine ⟨?_, ?_⟩
 ·rw [e1]; repeat (first | exact En0.one _ | refine En0.cons ?_ _ | refine En0.app ?_ _)
 ·rw [e1, e2]; simp only [zJ, zB, zK, (qp gP pB l fun t ht => (h t ht).p.2), yu, yy, yE, yM, yN, yO, yr]; try simp
theorem zqW (x : List UInt8) (b : Int) {l : List Tr} (h : ∀ t ∈ l, Wk t) : Wk (.node 29 x b l) := by
 have e1 : gF (.node 29 x b l) = h0 (sg [123]) :: (yz (l.map gF) ++ [h0 (sg [125])]) := by rw [zv, yq, yH]; rfl
 have e2 : fB (.node 29 x b l) = [123] ++ zE (l.map fB) ++ [125] := by rw [zt]; rfl
 refine ⟨?_, ?_⟩
 ·rw [e1]; repeat (first | exact En0.one _ | refine En0.cons ?_ _ | refine En0.app ?_ _)
 ·rw [e1, e2]; simp only [zJ, zB, zK, (qp gF fB l fun t ht => (h t ht).eq), yu, yy, yE, yM, yN, yO, yr]; try simp
theorem zqX (x : List UInt8) (b : Int) {a : Tr} (i : Wk a) {l : List Tr} (h : ∀ t ∈ l, Wk t) : Wk (.node 34 x b (a :: l)) := by
 have e1 : gF (.node 34 x b (a :: l)) = gP a ++ h0 (sg [40]) :: (yz (l.map gP) ++ [h0 (sg [41])]) := by rw [zv, yq, yH]; rfl
 have e2 : fB (.node 34 x b (a :: l)) = pB a ++ [40] ++ zE (l.map pB) ++ [41] := by rw [zt]; rfl
 refine ⟨?_, ?_⟩
 ·rw [e1]; repeat (first | exact En0.one _ | refine En0.cons ?_ _ | refine En0.app ?_ _)
 ·rw [e1, e2]; simp only [zJ, zB, zK, i.p.2, (qp gP pB l fun t ht => (h t ht).p.2), yu, yy, yE, yM, yN, yO, yr]; try simp
theorem zqY (x : List UInt8) (b : Int) {a : Tr} (i : Wk a) {l : List Tr} (h : ∀ t ∈ l, Wk t) : Wk (.node 35 x b (a :: l)) := by
 have e1 : gF (.node 35 x b (a :: l)) = h1 (wd [110, 101, 119]) :: (gP a ++ h0 (sg [40]) :: (yz (l.map gP) ++ [h0 (sg [41])])) := by rw [zv, yq, yH]; rfl
 have e2 : fB (.node 35 x b (a :: l)) = [110, 101, 119, 32] ++ (pB a ++ [40] ++ zE (l.map pB) ++ [41]) := by rw [zt]; rfl
 refine ⟨?_, ?_⟩
 ·rw [e1]; repeat (first | exact En0.one _ | refine En0.cons ?_ _ | refine En0.app ?_ _)
 ·rw [e1, e2]; simp only [zJ, zB, zK, i.p.2, (qp gP pB l fun t ht => (h t ht).p.2), yu, yy, yE, yM, yN, yO, yr]; try simp
theorem zqZ (x : List UInt8) (b : Int) {l : List Tr} (h : ∀ t ∈ l, Wk t) {a : Tr} (i : Wk a) : Wk (.node 18 x b (l ++ [a])) := by
 have e1 : gF (.node 18 x b (l ++ [a])) = h1 (wd [102, 117, 110, 99, 116, 105, 111, 110]) :: ((if x = [] then [] else [h0 (nmT x)]) ++ h0 (sg [40]) :: (yz (l.map gF) ++ h1 (sg [41]) :: gF a)) := by
  have q1 : (l ++ [a]).map gF = l.map gF ++ [gF a] := by rw [List.map_append]; rfl
  have q2 : (l.map gF ++ [gF a]).dropLast = l.map gF := by simp
  have q3 : (l.map gF ++ [gF a]).getLastD [] = gF a := by simp
  rw [zv, yq, q1];show h1 (wd [102, 117, 110, 99, 116, 105, 111, 110]) :: ((if x = [] then [] else [h0 (nmT x)]) ++ h0 (sg [40]) :: (yz (l.map gF ++ [gF a]).dropLast ++ h1 (sg [41]) :: (l.map gF ++ [gF a]).getLastD [])) = _
  rw [q2, q3]
 have e2 : fB (.node 18 x b (l ++ [a])) = [102, 117, 110, 99, 116, 105, 111, 110, 32] ++ x ++ [40] ++ zE (l.map fB) ++ [41, 32] ++ fB a := by
  have q1 : (l ++ [a]).map fB = l.map fB ++ [fB a] := by rw [List.map_append]; rfl
  have q2 : (l.map fB ++ [fB a]).dropLast = l.map fB := by simp
  have q3 : (l.map fB ++ [fB a]).getLastD [] = fB a := by simp
  rw [zt, q1];show [102, 117, 110, 99, 116, 105, 111, 110, 32] ++ x ++ [40] ++ zE (l.map fB ++ [fB a]).dropLast ++ [41, 32] ++ (l.map fB ++ [fB a]).getLastD [] = _
  rw [q2, q3]
 have e3 : yd (if x = [] then [] else [h0 (nmT x)]) = x := by
  split
  ·rename_i hx; rw [hx]; rfl
  ·simp only [zB, zK, yE]; simp
 refine ⟨?_, ?_⟩
 ·rw [e1]; repeat (first | exact En0.one _ | exact i.en | refine En0.cons ?_ _ | refine En0.app ?_ _)
 ·rw [e1, e2]; simp only [zJ, zB, zK, e3, (qp gF fB l fun t ht => (h t ht).eq), i.eq, yu, yy]; simp
theorem zq0 (x : List UInt8) (b : Int) {l : List Tr} (h : ∀ t ∈ l, Wk t) {a : Tr} (i : Wk a) : Wk (.node 31 x b (l ++ [a])) := by
 have e1 : gF (.node 31 x b (l ++ [a])) = h1 (wd [102, 117, 110, 99, 116, 105, 111, 110]) :: ((if x = [] then [] else [h0 (nmT x)]) ++ h0 (sg [40]) :: (yz (l.map gF) ++ h1 (sg [41]) :: gF a)) := by
  have q1 : (l ++ [a]).map gF = l.map gF ++ [gF a] := by rw [List.map_append]; rfl
  have q2 : (l.map gF ++ [gF a]).dropLast = l.map gF := by simp
  have q3 : (l.map gF ++ [gF a]).getLastD [] = gF a := by simp
  rw [zv, yq, q1];show h1 (wd [102, 117, 110, 99, 116, 105, 111, 110]) :: ((if x = [] then [] else [h0 (nmT x)]) ++ h0 (sg [40]) :: (yz (l.map gF ++ [gF a]).dropLast ++ h1 (sg [41]) :: (l.map gF ++ [gF a]).getLastD [])) = _
  rw [q2, q3]
 have e2 : fB (.node 31 x b (l ++ [a])) = [102, 117, 110, 99, 116, 105, 111, 110, 32] ++ x ++ [40] ++ zE (l.map fB) ++ [41, 32] ++ fB a := by
  have q1 : (l ++ [a]).map fB = l.map fB ++ [fB a] := by rw [List.map_append]; rfl
  have q2 : (l.map fB ++ [fB a]).dropLast = l.map fB := by simp
  have q3 : (l.map fB ++ [fB a]).getLastD [] = fB a := by simp
  rw [zt, q1];show [102, 117, 110, 99, 116, 105, 111, 110, 32] ++ x ++ [40] ++ zE (l.map fB ++ [fB a]).dropLast ++ [41, 32] ++ (l.map fB ++ [fB a]).getLastD [] = _
  rw [q2, q3]
 have e3 : yd (if x = [] then [] else [h0 (nmT x)]) = x := by
  split
  ·rename_i hx; rw [hx]; rfl
  ·simp only [zB, zK, yE]; simp
 refine ⟨?_, ?_⟩
 ·rw [e1]; repeat (first | exact En0.one _ | exact i.en | refine En0.cons ?_ _ | refine En0.app ?_ _)
 ·rw [e1, e2]; simp only [zJ, zB, zK, e3, (qp gF fB l fun t ht => (h t ht).eq), i.eq, yu, yy]; simp
theorem zmZ {t : Tr} (h : Wk t) : (if eG t = [] then [] else [32]) ++ yd (eG t) = eB t := by
 unfold eG eB;split
 ·rfl
 ·rw [if_neg h.en.ne, h.eq]; rfl
theorem zq1 (x : List UInt8) (b : Int) {a c d g : Tr} (q1 : Wk a) (q2 : Wk c) (q3 : Wk d) (q4 : Wk g) : Wk (.node 10 x b [a, c, d, g]) := by
 have e1 : gF (.node 10 x b [a, c, d, g]) = h1 (wd [102, 111, 114]) :: h0 (sg [40]) :: (zX (if eG c = [] then [] else [32]) (gF a) ++ (eG c ++ (sg [59], if eG d = [] then [] else [32]) :: (eG d ++ h1 (sg [41]) :: gF g))) := by rw [zv]; rfl
 have e2 : fB (.node 10 x b [a, c, d, g]) = [102, 111, 114, 32, 40] ++ fB a ++ eB c ++ [59] ++ eB d ++ [41, 32] ++ fB g := by rw [zt]; rfl
 refine ⟨?_, ?_⟩
 ·rw [e1]; repeat (first | exact En0.one _ | exact q4.en | refine En0.cons ?_ _ | refine En0.app ?_ _)
 ·rw [e1, e2, ← zmZ q2, ← zmZ q3]; simp only [zJ, zB, zK, xw q1.en, q1.eq, q4.eq, yu, yy]; simp
theorem zq2 (x : List UInt8) (b : Int) {a : Tr} (h : Wk a) : En0 (gF (.node 16 x b [a])) ∧ 32 :: yd (gF (.node 16 x b [a])) = fB (.node 16 x b [a]) := by
 have e1 : gF (.node 16 x b [a]) = h1 (wd [99, 97, 116, 99, 104]) :: h0 (sg [40]) :: h0 (nmT x) :: h1 (sg [41]) :: [gF a].flatten := by rw [zv]; rfl
 have e2 : fB (.node 16 x b [a]) = [32, 99, 97, 116, 99, 104, 32, 40] ++ x ++ [41, 32] ++ fB a := by rw [zt]; rfl
 refine ⟨?_, ?_⟩
 ·rw [e1]; repeat (first | exact En0.one _ | exact (by simpa using h.en) | refine En0.cons ?_ _ | refine En0.app ?_ _)
 ·rw [e1, e2]; simp only [zJ, zB, zK, List.flatten_cons, List.flatten_nil, List.append_nil, h.eq, yu, yy, yE]; simp
theorem zq3 (x : List UInt8) (b : Int) {a : Tr} (h : Wk a) : En0 (gF (.node 17 x b [a])) ∧ 32 :: yd (gF (.node 17 x b [a])) = fB (.node 17 x b [a]) := by
 have e1 : gF (.node 17 x b [a]) = h1 (wd [102, 105, 110, 97, 108, 108, 121]) :: [gF a].flatten := by rw [zv]; rfl
 have e2 : fB (.node 17 x b [a]) = [32, 102, 105, 110, 97, 108, 108, 121, 32] ++ fB a := by rw [zt]; rfl
 refine ⟨?_, ?_⟩
 ·rw [e1]; repeat (first | exact En0.one _ | exact (by simpa using h.en) | refine En0.cons ?_ _ | refine En0.app ?_ _)
 ·rw [e1, e2]; simp only [zJ, zB, zK, List.flatten_cons, List.flatten_nil, List.append_nil, h.eq, yu, yy, yE]; simp
theorem zo4 (x : List UInt8) (b : Int) {a c : Tr} (h : Wk a) (g : En0 (gF c)) (e : 32 :: yd (gF c) = fB c) : Wk (.node 15 x b [a, c]) := by
 have e1 : gF (.node 15 x b [a, c]) = h1 (wd [116, 114, 121]) :: (zX [32] (gF a) ++ gF c) := by rw [zv]; rfl
 have e2 : fB (.node 15 x b [a, c]) = [116, 114, 121, 32] ++ yw [] [fB a, fB c] := by rw [zt]; rfl
 refine ⟨?_, ?_⟩
 ·rw [e1]; repeat (first | exact En0.one _ | exact g | refine En0.cons ?_ _ | refine En0.app ?_ _)
 ·rw [e1, e2, ← e]; unfold yw; simp only [zJ, zB, zK, xw h.en, h.eq, yu, yy]; simp
theorem zo5 (x : List UInt8) (b : Int) {a c d : Tr} (h : Wk a) (g : En0 (gF c)) (e : 32 :: yd (gF c) = fB c) (g2 : En0 (gF d)) (f : 32 :: yd (gF d) = fB d) : Wk (.node 15 x b [a, c, d]) := by
 have e1 : gF (.node 15 x b [a, c, d]) = h1 (wd [116, 114, 121]) :: (zX [32] (gF a) ++ (zX [32] (gF c) ++ gF d)) := by rw [zv]; rfl
 have e2 : fB (.node 15 x b [a, c, d]) = [116, 114, 121, 32] ++ yw [] [fB a, fB c, fB d] := by rw [zt]; rfl
 refine ⟨?_, ?_⟩
 ·rw [e1]; repeat (first | exact En0.one _ | exact g2 | refine En0.cons ?_ _ | refine En0.app ?_ _)
 ·rw [e1, e2, ← e, ← f]; unfold yw; simp only [zJ, zB, zK, xw h.en, xw g, h.eq, yu, yy]; simp
theorem w_1 (x : List UInt8) (b : Int) {l : List Tr} (h : ∀ t ∈ l, Wk t) : yd (gF (.node 1 x b l)) = fB (.node 1 x b l) := by
 have e1 : gF (.node 1 x b l) = vq [10] (l.map gF) := by rw [zv, yq]; rfl
 have e2 : fB (.node 1 x b l) = yw [10] (l.map fB) := by rw [zt]; rfl
 rw [e1, e2]; exact (jk gF fB [10] l fun t ht => ⟨(h t ht).en, (h t ht).eq⟩)
theorem zdt {k : Int} {ks : List Int} (h : zP k ks = true) : 1 ≤ k ∧ k ≤ 42 := by
 by_cases hk : 1 ≤ k ∧ k ≤ 42
 ·exact hk
 ·exfalso
  unfold zP yD at h
  repeat rw [if_neg (by omega)] at h
  cases h
theorem xP {l : List Tr} {r : Int} (h : zw (l.map fun t => zl t.kind) [r] = true) : ∃ a, l = [a] ∧ ys (zl a.kind) r = true := by
 obtain ⟨a, rfl⟩ := zqm (by have := jE h; simpa using this);simp only [List.map_cons, List.map_nil, zw, Bool.and_true, Bool.and_eq_true] at h;exact ⟨a, rfl, h⟩
theorem vm {l : List Tr} {r s : Int} (h : zw (l.map fun t => zl t.kind) [r, s] = true) : ∃ a c, l = [a, c] ∧ ys (zl a.kind) r = true ∧ ys (zl c.kind) s = true := by
 obtain ⟨a, c, rfl⟩ := zqn (by have := jE h; simpa using this);simp only [List.map_cons, List.map_nil, zw, Bool.and_true, Bool.and_eq_true] at h;exact ⟨a, c, rfl, h⟩
theorem zdu {l : List Tr} {r s u : Int} (h : zw (l.map fun t => zl t.kind) [r, s, u] = true) : ∃ a c d, l = [a, c, d] ∧ ys (zl a.kind) r = true ∧ ys (zl c.kind) s = true ∧ ys (zl d.kind) u = true := by
 obtain ⟨a, c, d, rfl⟩ := zqo (by have := jE h; simpa using this);simp only [List.map_cons, List.map_nil, zw, Bool.and_true, Bool.and_eq_true] at h;exact ⟨a, c, d, rfl, h⟩
theorem zmL {l : List Tr} {r s u v : Int} (h : zw (l.map fun t => zl t.kind) [r, s, u, v] = true) : ∃ a c d e, l = [a, c, d, e] ∧ ys (zl a.kind) r = true ∧ ys (zl c.kind) s = true ∧ ys (zl d.kind) u = true ∧ ys (zl e.kind) v = true := by
 obtain ⟨a, c, d, e, rfl⟩ := zqp (by have := jE h; simpa using this);simp only [List.map_cons, List.map_nil, zw, Bool.and_true, Bool.and_eq_true] at h;exact ⟨a, c, d, e, rfl, h⟩
theorem Wk.t {k : Int} {x : List UInt8} {b : Int} {l : List Tr} (h : Wk (.node k x b l)) (h6 : k ≠ 16) (h7 : k ≠ 17) : Wt (.node k x b l) := ⟨fun _ => h.en, fun _ _ => h.eq, fun e => by rcases e with e | e; exact absurd e h6; exact absurd e h7⟩
theorem zmM (k : Int) (x : List UInt8) (b : Int) (kids : List Tr) (h : zP k (kids.map fun t : Tr => zl t.kind) = true) (IH : ∀ u ∈ kids, Wt u) : Wt (.node k x b kids) := by
 obtain ⟨k0, k1⟩ := zdt h;obtain ⟨n, rfl⟩ : ∃ n : Nat, k = n := ⟨k.toNat, by omega⟩;have hw : ∀ {u : Tr} {r : Int}, u ∈ kids → ys (zl u.kind) r = true → r ∈ ([1, 2, 4, 8, 16, 32, 64, 128, 1024, 2048, 4096] : List Int) → Wk u := fun hu hr hm => Wk.of (IH _ hu) hr hm
 have all : ∀ {r : Int}, yt (kids.map fun t : Tr => zl t.kind) r = true → r ∈ ([1, 2, 4, 8, 16, 32, 64, 128, 1024, 2048, 4096] : List Int) → ∀ u ∈ kids, Wk u := fun h hm u hu => hw hu (zb8 h u hu) hm
 match n, k0, k1, h with
 | 0, k0, _, h =>
  exact absurd k0 (by decide)
 | 1, k0, _, h =>
  refine ⟨fun e => absurd rfl e, fun _ _ => w_1 x b (all (r := 1) h (by decide)), fun e => ?_⟩;rcases e with e | e <;> exact absurd e (by show (1 : Int) ≠ _; decide)
 | 2, k0, _, h =>
  exact (w_2 x b (all (r := 2) h (by decide))).t (by decide) (by decide)
 | 3, k0, _, h =>
  have h1 : (!(kids.map fun t : Tr => zl t.kind).isEmpty && yt (kids.map fun t : Tr => zl t.kind) 128) = true := h;rw [Bool.and_eq_true] at h1;have h2 := h1.2;exact (w_3 x b (all h2 (by decide))).t (by decide) (by decide)
 | 4, k0, _, h =>
  have h2 : (if (kids.map fun t : Tr => zl t.kind).isEmpty = true then true else zw (kids.map fun t : Tr => zl t.kind) [4]) = true := h;by_cases he : (kids.map fun t : Tr => zl t.kind).isEmpty = true
  ·have e := xG he;subst e; exact (zqG x b).t (by decide) (by decide)
  ·rw [if_neg he] at h2;obtain ⟨a, rfl, ra⟩ := xP h2;exact (w_4 x b (hw (by simp) ra (by decide))).t (by decide) (by decide)
 | 13, k0, _, h =>
  have h2 : (if (kids.map fun t : Tr => zl t.kind).isEmpty = true then true else zw (kids.map fun t : Tr => zl t.kind) [4]) = true := h;by_cases he : (kids.map fun t : Tr => zl t.kind).isEmpty = true
  ·have e := xG he;subst e; exact (zo1 x b).t (by decide) (by decide)
  ·rw [if_neg he] at h2;obtain ⟨a, rfl, ra⟩ := xP h2;exact (zqH x b (hw (by simp) ra (by decide))).t (by decide) (by decide)
 | 5, k0, _, h =>
  have e : kids = [] := xG h;subst e; exact (w_5 x b).t (by decide) (by decide)
 | 6, k0, _, h =>
  obtain ⟨a, rfl, ra⟩ := xP (show zw (kids.map fun t : Tr => zl t.kind) [4] = true from h);exact (w_6 x b (hw (by simp) ra (by decide))).t (by decide) (by decide)
 | 7, k0, _, h =>
  have h2 : (if (kids.map fun t : Tr => zl t.kind).length = 3 then zw (kids.map fun t : Tr => zl t.kind) [4, 2, 2] else zw (kids.map fun t : Tr => zl t.kind) [4, 2]) = true := h;split at h2
  ·obtain ⟨a, c, d, rfl, ra, rc, rd⟩ := zdu h2;exact (zqK x b (hw (by simp) ra (by decide)) (hw (by simp) rc (by decide)) (hw (by simp) rd (by decide))).t (by decide) (by decide)
  ·obtain ⟨a, c, rfl, ra, rc⟩ := vm h2;exact (zqJ x b (hw (by simp) ra (by decide)) (hw (by simp) rc (by decide))).t (by decide) (by decide)
 | 8, k0, _, h =>
  obtain ⟨a, c, rfl, ra, rc⟩ := vm (show zw (kids.map fun t : Tr => zl t.kind) [4, 2] = true from h);exact (w_8 x b (hw (by simp) ra (by decide)) (hw (by simp) rc (by decide))).t (by decide) (by decide)
 | 9, k0, _, h =>
  obtain ⟨a, c, rfl, ra, rc⟩ := vm (show zw (kids.map fun t : Tr => zl t.kind) [2, 4] = true from h);exact (w_9 x b (hw (by simp) ra (by decide)) (hw (by simp) rc (by decide))).t (by decide) (by decide)
 | 10, k0, _, h =>
  obtain ⟨a, c, d, e, rfl, ra, rc, rd, re⟩ := zmL (show zw (kids.map fun t : Tr => zl t.kind) [16, 32, 32, 2] = true from h);exact (zq1 x b (hw (by simp) ra (by decide)) (hw (by simp) rc (by decide)) (hw (by simp) rd (by decide)) (hw (by simp) re (by decide))).t (by decide) (by decide)
 | 11, k0, _, h =>
  have e : kids = [] := xG h;subst e; exact (zqE x b).t (by decide) (by decide)
 | 12, k0, _, h =>
  have e : kids = [] := xG h;subst e; exact (zqF x b).t (by decide) (by decide)
 | 14, k0, _, h =>
  obtain ⟨a, rfl, ra⟩ := xP (show zw (kids.map fun t : Tr => zl t.kind) [4] = true from h);exact (zqI x b (hw (by simp) ra (by decide))).t (by decide) (by decide)
 | 15, k0, _, h =>
  have h2 : (zw (kids.map fun t : Tr => zl t.kind) [64, 768] || zw (kids.map fun t : Tr => zl t.kind) [64, 256, 512]) = true := h;rw [Bool.or_eq_true] at h2;rcases h2 with h2 | h2
  ·obtain ⟨a, c, rfl, ra, rc⟩ := vm h2;have hc := IH c (by simp);have kc := zja (.inl rc);exact (zo4 x b (hw (by simp) ra (by decide)) (hc.en (by omega)) (hc.ca kc)).t (by decide) (by decide)
  ·obtain ⟨a, c, d, rfl, ra, rc, rd⟩ := zdu h2;have hc := IH c (by simp);have kc := zja (.inr (.inl rc));have hd := IH d (by simp);have kd := zja (.inr (.inr rd));exact (zo5 x b (hw (by simp) ra (by decide)) (hc.en (by omega)) (hc.ca kc) (hd.en (by omega)) (hd.ca kd)).t (by decide) (by decide)
 | 16, k0, _, h =>
  obtain ⟨a, rfl, ra⟩ := xP (show zw (kids.map fun t : Tr => zl t.kind) [64] = true from h);have w := zq2 x b (hw (by simp) ra (by decide));exact ⟨fun _ => w.1, fun e f => absurd rfl e, fun _ => w.2⟩
 | 17, k0, _, h =>
  obtain ⟨a, rfl, ra⟩ := xP (show zw (kids.map fun t : Tr => zl t.kind) [64] = true from h);have w := zq3 x b (hw (by simp) ra (by decide));exact ⟨fun _ => w.1, fun e f => absurd rfl f, fun _ => w.2⟩
 | 18, k0, _, h =>
  have h2 : (!(kids.map fun t : Tr => zl t.kind).isEmpty && (yt ((kids.map fun t : Tr => zl t.kind).take ((kids.map fun t : Tr => zl t.kind).length - 1)) 1024 && zw ((kids.map fun t : Tr => zl t.kind).drop ((kids.map fun t : Tr => zl t.kind).length - 1)) [2048])) = true := h;rw [List.length_map, ← List.map_take, ← List.map_drop, Bool.and_eq_true, Bool.and_eq_true] at h2;obtain ⟨a, ea, ra⟩ := xP h2.2.2;have e : kids = kids.take (kids.length - 1) ++ [a] := by rw [← ea, List.take_append_drop]
  have hl := zb8 h2.2.1;have w1 : ∀ u ∈ kids.take (kids.length - 1), Wk u := fun u hu => hw (List.mem_of_mem_take hu) (hl u hu) (by decide)
  have w2 : Wk a := hw (by rw [e]; simp) ra (by decide);rw [e];exact (zqZ x b w1 w2).t (by decide) (by decide)
 | 31, k0, _, h =>
  have h2 : (!(kids.map fun t : Tr => zl t.kind).isEmpty && (yt ((kids.map fun t : Tr => zl t.kind).take ((kids.map fun t : Tr => zl t.kind).length - 1)) 1024 && zw ((kids.map fun t : Tr => zl t.kind).drop ((kids.map fun t : Tr => zl t.kind).length - 1)) [2048])) = true := h;rw [List.length_map, ← List.map_take, ← List.map_drop, Bool.and_eq_true, Bool.and_eq_true] at h2;obtain ⟨a, ea, ra⟩ := xP h2.2.2;have e : kids = kids.take (kids.length - 1) ++ [a] := by rw [← ea, List.take_append_drop]
  have hl := zb8 h2.2.1;have w1 : ∀ u ∈ kids.take (kids.length - 1), Wk u := fun u hu => hw (List.mem_of_mem_take hu) (hl u hu) (by decide)
  have w2 : Wk a := hw (by rw [e]; simp) ra (by decide);rw [e];exact (zq0 x b w1 w2).t (by decide) (by decide)
 | 19, k0, _, h =>
  have e : kids = [] := xG h;subst e; exact (zqD x b).t (by decide) (by decide)
 | 21, k0, _, h =>
  have e : kids = [] := xG h;subst e; exact (zqA x b).t (by decide) (by decide)
 | 22, k0, _, h =>
  have e : kids = [] := xG h;subst e; exact (zqB x b).t (by decide) (by decide)
 | 23, k0, _, h =>
  have e : kids = [] := xG h;subst e; exact (zqw x b).t (by decide) (by decide)
 | 24, k0, _, h =>
  have e : kids = [] := xG h;subst e; exact (zqx x b).t (by decide) (by decide)
 | 25, k0, _, h =>
  have e : kids = [] := xG h;subst e; exact (zqy x b).t (by decide) (by decide)
 | 26, k0, _, h =>
  have e : kids = [] := xG h;subst e; exact (zqz x b).t (by decide) (by decide)
 | 27, k0, _, h =>
  have e : kids = [] := xG h;subst e; exact (zqC x b).t (by decide) (by decide)
 | 20, k0, _, h =>
  exact (zqU x b (all (r := 1) h (by decide))).t (by decide) (by decide)
 | 28, k0, _, h =>
  exact (zqV x b (all (r := 4) h (by decide))).t (by decide) (by decide)
 | 29, k0, _, h =>
  exact (zqW x b (all (r := 4096) h (by decide))).t (by decide) (by decide)
 | 30, k0, _, h =>
  obtain ⟨a, rfl, ra⟩ := xP (show zw (kids.map fun t : Tr => zl t.kind) [4] = true from h);exact (zqT x b (hw (by simp) ra (by decide))).t (by decide) (by decide)
 | 32, k0, _, h =>
  obtain ⟨a, rfl, ra⟩ := xP (show zw (kids.map fun t : Tr => zl t.kind) [4] = true from h);exact (zqL x b (hw (by simp) ra (by decide))).t (by decide) (by decide)
 | 36, k0, _, h =>
  obtain ⟨a, rfl, ra⟩ := xP (show zw (kids.map fun t : Tr => zl t.kind) [4] = true from h);exact (zqN x b (hw (by simp) ra (by decide))).t (by decide) (by decide)
 | 33, k0, _, h =>
  obtain ⟨a, c, rfl, ra, rc⟩ := vm (show zw (kids.map fun t : Tr => zl t.kind) [4, 4] = true from h);exact (zqM x b (hw (by simp) ra (by decide)) (hw (by simp) rc (by decide))).t (by decide) (by decide)
 | 38, k0, _, h =>
  obtain ⟨a, c, rfl, ra, rc⟩ := vm (show zw (kids.map fun t : Tr => zl t.kind) [4, 4] = true from h);exact (zqO x b (hw (by simp) ra (by decide)) (hw (by simp) rc (by decide))).t (by decide) (by decide)
 | 39, k0, _, h =>
  obtain ⟨a, c, rfl, ra, rc⟩ := vm (show zw (kids.map fun t : Tr => zl t.kind) [4, 4] = true from h);exact (zqP x b (hw (by simp) ra (by decide)) (hw (by simp) rc (by decide))).t (by decide) (by decide)
 | 42, k0, _, h =>
  obtain ⟨a, c, rfl, ra, rc⟩ := vm (show zw (kids.map fun t : Tr => zl t.kind) [4, 4] = true from h);exact (zqS x b (hw (by simp) ra (by decide)) (hw (by simp) rc (by decide))).t (by decide) (by decide)
 | 34, k0, _, h =>
  have h2 : yt (kids.map fun t : Tr => zl t.kind) 4 = true ∧ (kids.map fun t : Tr => zl t.kind).isEmpty = false := by
   have this : (!(kids.map fun t : Tr => zl t.kind).isEmpty && yt (kids.map fun t : Tr => zl t.kind) 4) = true := h;rw [Bool.and_eq_true] at this;exact ⟨this.2, by simpa using this.1⟩
  have w := all h2.1 (by decide)
  match kids, w, h2.2 with
  | [], _, e => cases e
  | a :: l, w, _ => exact (zqX x b (w a List.mem_cons_self) (fun t ht => w t (List.mem_cons_of_mem _ ht))).t (by decide) (by decide)
 | 35, k0, _, h =>
  have h2 : yt (kids.map fun t : Tr => zl t.kind) 4 = true ∧ (kids.map fun t : Tr => zl t.kind).isEmpty = false := by
   have this : (!(kids.map fun t : Tr => zl t.kind).isEmpty && yt (kids.map fun t : Tr => zl t.kind) 4) = true := h;rw [Bool.and_eq_true] at this;exact ⟨this.2, by simpa using this.1⟩
  have w := all h2.1 (by decide)
  match kids, w, h2.2 with
  | [], _, e => cases e
  | a :: l, w, _ => exact (zqY x b (w a List.mem_cons_self) (fun t ht => w t (List.mem_cons_of_mem _ ht))).t (by decide) (by decide)
 | 37, k0, _, h =>
  obtain ⟨a, rfl, ra⟩ := xP (show zw (kids.map fun t : Tr => zl t.kind) [8] = true from h);by_cases hb : b = 0
  ·subst hb; exact (zo2 x (hw (by simp) ra (by decide))).t (by decide) (by decide)
  ·exact (zo3 x b hb (hw (by simp) ra (by decide))).t (by decide) (by decide)
 | 40, k0, _, h =>
  obtain ⟨a, c, d, rfl, ra, rc, rd⟩ := zdu (show zw (kids.map fun t : Tr => zl t.kind) [4, 4, 4] = true from h);exact (zqR x b (hw (by simp) ra (by decide)) (hw (by simp) rc (by decide)) (hw (by simp) rd (by decide))).t (by decide) (by decide)
 | 41, k0, _, h =>
  obtain ⟨a, c, rfl, ra, rc⟩ := vm (show zw (kids.map fun t : Tr => zl t.kind) [8, 4] = true from h);exact (zqQ x b (hw (by simp) ra (by decide)) (hw (by simp) rc (by decide))).t (by decide) (by decide)
 | n + 43, _, k1, _ => omega
mutual
theorem zfn : ∀ t : Tr, okT t → Wt t
 | .node k x b kids, o => by
  rw [okT] at o;exact zmM k x b kids o.1.2.2.1 (zdv kids o.2)
theorem zdv : ∀ l : List Tr, uR l → ∀ u ∈ l, Wt u
 | [], _, u, hu => by cases hu
 | t :: l, o, u, hu => by
  rw [uR] at o;rcases List.mem_cons.1 hu with e | hu
  ·rw [e]; exact zfn t o.1
  ·exact zdv l o.2 u hu
end
theorem zgo {l : List Tr} (o : okT (nd 1 [] l)) : yd (gF (nd 1 [] l)) = fB (nd 1 [] l) := (zfn _ o).eq (by show (1 : Int) ≠ 16; decide) (by show (1 : Int) ≠ 17; decide)
end Go.Proofs.YtfcgpphodacdmaaGreatDoor
namespace Go.Proofs.YtfcgpphodacdmaaGreatDoor
open Go.RowKit
def NRi (w : World) (v : Value) (L : List NI) : Prop :=
 (L = [] ∧ ∃ ao cap, v = .slice ao 0 cap) ∨ ∃ g cap, g < w.heap.size ∧ v = .slice (some ⟨g, 0, none⟩) L.length cap ∧ ∀ (i : Nat) (h : i < L.length), w.cell? ⟨g, i * 5, none⟩ = some (.int .i64 L[i].kind) ∧ w.cell? ⟨g, i * 5 + 1, none⟩ = some (.int .i64 L[i].n) ∧ w.cell? ⟨g, i * 5 + 2, none⟩ = some (.int .i64 L[i].size) ∧ w.cell? ⟨g, i * 5 + 3, none⟩ = some (.string (bs L[i].text)) ∧ w.cell? ⟨g, i * 5 + 4, none⟩ = some (.int .u64 L[i].bits)
theorem NRi.below {w w' : World} {v : Value} {L : List NI} (h : NRi w v L) (hb : Below w.heap.size w w') : NRi w' v L := by
 rcases h with h | ⟨g, cap, hg, hv, hc⟩
 ·exact .inl h
 ·refine .inr ⟨g, cap, Nat.lt_of_lt_of_le hg hb.size, hv, fun i hi => ?_⟩;obtain ⟨h0, h1, h2, h3, h4⟩ := hc i hi;exact ⟨(hb.cell (p := ⟨g, _, none⟩) hg).trans h0, (hb.cell (p := ⟨g, _, none⟩) hg).trans h1, (hb.cell (p := ⟨g, _, none⟩) hg).trans h2, (hb.cell (p := ⟨g, _, none⟩) hg).trans h3, (hb.cell (p := ⟨g, _, none⟩) hg).trans h4⟩
theorem NRi.slice {w : World} {v : Value} {L : List NI} (h : NRi w v L) : ∃ ao cap, v = .slice ao L.length cap := by
 rcases h with ⟨rfl, ao, cap, h⟩ | ⟨g, cap, _, h, _⟩
 ·exact ⟨ao, cap, h⟩
 ·exact ⟨_, cap, h⟩
theorem NRi.get {w : World} {ao : Option Addr} {cap : Nat} {L : List NI} (h : NRi w (.slice ao L.length cap) L) (hl : 0 < L.length) : ∃ g, ao = some ⟨g, 0, none⟩ ∧ g < w.heap.size ∧ ∀ (i : Nat) (h : i < L.length), w.cell? ⟨g, i * 5, none⟩ = some (.int .i64 L[i].kind) ∧ w.cell? ⟨g, i * 5 + 1, none⟩ = some (.int .i64 L[i].n) ∧ w.cell? ⟨g, i * 5 + 2, none⟩ = some (.int .i64 L[i].size) ∧ w.cell? ⟨g, i * 5 + 3, none⟩ = some (.string (bs L[i].text)) ∧ w.cell? ⟨g, i * 5 + 4, none⟩ = some (.int .u64 L[i].bits) := by
 rcases h with ⟨h, _⟩ | ⟨g, cap', hg, hv, hc⟩
 ·rw [h] at hl; exact absurd hl (Nat.lt_irrefl 0)
 ·injection hv with h1 _ _;exact ⟨g, h1, hg, hc⟩
theorem xf.i {w : World} {v : Value} {L : List LN} (h : xf w v L) : NRi w v (LI L) := by
 rcases h with ⟨rfl, h⟩ | ⟨g, cap, hg, hv, hc⟩
 ·exact .inl ⟨rfl, h⟩
 ·refine .inr ⟨g, cap, hg, by rw [jb]; exact hv, fun i hi => ?_⟩;have hi' : i < L.length := by rw [jb] at hi; exact hi
  have e : (LI L)[i]'hi = LN.i L[i] := by show (List.map LN.i L)[i]'(by simpa using hi') = _; rw [List.getElem_map]
  rw [e]; exact hc i hi'
def I64 (n : Int) : Prop := -9223372036854775808 ≤ n ∧ n ≤ 9223372036854775807
def zaQ (L : List NI) : Prop := ∀ l ∈ L, I64 l.n ∧ I64 l.size ∧ 0 ≤ l.bits ∧ l.bits < 18446744073709551616 ∧ l.text.length ≤ 1000000
theorem zbT (w : World) (v : Value) (L : List NI) (h : NRi w v L) (hl : L.length ≤ 100000) (hn : zaQ L) (i : Nat) (hi : i < L.length) :
    Calls Tryz.prog 61 #[v, .int .i64 (i : Int)] w fun e w' => ∃ v', e = .returned (.tuple #[v', .int .i64 ((yY L i L[i].n).2 : Nat)]) ∧ w'.ownsRow w.heap.size 3 1 v' (yY L i L[i].n).1.length (qA (yY L i L[i].n).1) ∧ Below w.heap.size w w' := by
  obtain ⟨ao, cp, rfl⟩ := h.slice;obtain ⟨g, rfl, hg, hc⟩ := h.get (by omega);obtain ⟨i0, hi0, hz0, hz1', hz2⟩ := info_parts zag;have HI := za hi0;have HZ0 := za hz0;have HZ1 := za hz1';have HZ2 := za hz2;have HNN := za hn;have c1 := (hc i hi).2.1;have HC := za hc;have hni := (hn _ (List.getElem_mem hi)).1;generalize L[i].n = N at *;have hi1 : ¬ (i : Int) < 0 := by omega
  have hi2 : ¬ (L.length : Int) ≤ (i : Int) := by omega
  clear h hi0 hz0 hz1' hz2 hn hc;by_cases hN : N < 0
  · have e : yY L i N = ([], 0) := by unfold yY; rw [if_pos hN]
    rw [e];clear e
    go_enter Tryz.func61, Tryz.ntmps61
    go_wp2_with fail;go_ret2;exact ⟨_, rfl, World.ownsRow_nil _ _ _ _, ze _ _⟩
  obtain ⟨m, rfl⟩ : ∃ m : Nat, N = m := ⟨N.toNat, by omega⟩;obtain ⟨K, hK⟩ : ∃ K, K = yY L i (m : Int) := ⟨_, rfl⟩;rw [← hK];have hK2 : K = match qQ (szI L) L.length m (i + 1) with | none => ([], 0) | some q => (q.1, q.2 - i) := by
    rw [hK]; unfold yY; rw [if_neg hN, Int.toNat_natCast]; rfl
  have HKK := za hK2;have hm9 : m ≤ 9223372036854775807 := by have := hni.2; omega
  clear hK hK2 hN hni
  go_enter Tryz.func61, Tryz.ntmps61
  go_wp2_with fail
  go_loopg [4, 5, 6, 20] m (fun gg kk ss aa nn wr => ∃ (n p : Nat) (acc : List Nat), ss = .int .i64 0 ∧ aa = .int .i64 (p : Int) ∧ nn = .int .i64 (n : Int) ∧ gg = m - n ∧ n ≤ m ∧ p ≤ L.length ∧ i < p ∧ acc.length ≤ p ∧ Hid (wr.ownsRow w.heap.size 3 1 kk acc.length (qA acc)) ∧ Hid (Below w.heap.size w wr) ∧ Hid (qQ (szI L) L.length m (i + 1) = (qQ (szI L) L.length (m - n) p).map fun q => (acc ++ q.1, q.2)))
  case atStart => exact ⟨0, i + 1, [], rfl, by simp, rfl, rfl, Nat.zero_le _, hi, Nat.lt_succ_self _, Nat.zero_le _, World.ownsRow_nil _ _ _ _, ze _ _, by show _ = _; rw [Nat.sub_zero]; cases qQ (szI L) L.length m (i + 1) <;> rfl⟩
  case round =>
    obtain ⟨n, p, acc, rfl, rfl, rfl, rfl, hn1, hp1, hip, ha1, HR, HB, HGG⟩ := hrel;obtain ⟨ao2, cp2, rfl⟩ := yb HR.out;by_cases hnm : n < m
    · obtain ⟨r, hr⟩ : ∃ r, m - n = r + 1 := ⟨m - n - 1, by omega⟩;have hgg := HGG.out;rw [hr, qQ] at hgg;have hnm2 : (n : Int) < (m : Int) := by omega
      by_cases hlt : p < L.length
      · have hcp := (HC.out p hlt).2.2.1;have hsz := (HNN.out _ (List.getElem_mem hlt)).2.1;rw [znO hlt] at hgg;have c2 := (HB.out.cell (p := ⟨g, p * 5 + 2, none⟩) hg).trans hcp;generalize L[p].size = z at *;obtain ⟨z0, z1⟩ := hsz;have hpl : ((p : Int) == (L.length : Int)) = false := beq_eq_false_iff_ne.2 (by omega);have HRR := za hr;clear hcp hr;by_cases hz : 1 ≤ z ∧ z ≤ (L.length : Int) - p
        · rw [if_pos ⟨hlt, hz⟩] at hgg;obtain ⟨zn, rfl⟩ : ∃ zn : Nat, z = zn := ⟨z.toNat, by omega⟩;rw [Int.toNat_natCast] at hgg;have HG2 := za hgg;have hz1 : ¬ (zn : Int) < 1 := by omega
          have hz2 : ¬ (L.length : Int) - (p : Int) < (zn : Int) := by omega
          have hown := HR.out;have hi := HI.out;have hz0 := HZ0.out;have hz1' := HZ1.out;have hz2' := HZ2.out;have hsz2 : w.heap.size ≤ wr.heap.size := HB.out.size;clear hgg;go_wp2_with (at_builtin; refine wpList_append_own _ rfl _ _ 45 rfl w.heap.size 3 i0 _ 1 8 Tryz.underlying45 hi hz0 hz1' hz2' rfl (by decide) _ _ _ rfl (hown.alloc _) ⟨wr.heap.size, 0, none⟩ 1 1 [.int .i64 (p : Int)] rfl rfl ?q1 ?q2 ?q3 ?q4 ?q5 ?_)
          case q2 => first | (intro u hu; simp at hu; subst hu; rfl) | rfl
          case q3 => first | (unfold maxLen; omega) | omega
          case q4 => omega
          case q5 => first | (simp; omega) | omega
          intro v' w3 hown' hgrow _;have hbel : Below w.heap.size wr w3 := ((ze _ wr).alloc hsz2 _).grown hgrow (by simp; omega) (fun k hk => (hown.lt k hk).1);have HB3 := za (HB.out.trans hbel);rw [← zbW] at hown';have HW3 := za hown';obtain ⟨ao3, cp3, rfl⟩ := yb hown';have d2 : w3.cell? ⟨g, p * 5 + 2, none⟩ = some (.int .i64 (zn : Int)) := (hbel.cell (p := ⟨g, _, none⟩) hg).trans c2;clear hown' hgrow hbel hown hi hz0 hz1' hz2' c2;go_wp2_with fail;have hr := HRR.out
          go_roundg r
          case measure => omega
          case rel => exact ⟨n + 1, p + zn, acc ++ [p], rfl, by simp, by simp, by omega, hnm, by omega, by omega, by simp; omega, by have := HW3.out; rw [List.length_append]; exact this, HB3.out, by
            show _ = _
            rw [HG2.out, show m - (n + 1) = r by omega];cases qQ (szI L) L.length r (p + zn) <;> simp⟩
        · rw [if_neg (fun h => hz h.2)] at hgg;have hk : K = ([], 0) := by rw [HKK.out, hgg]; rfl
          subst hk;clear hgg;have hz3 : z < 1 ∨ (¬ z < 1 ∧ (L.length : Int) - (p : Int) < z) := by omega
          clear hz;rcases hz3 with hz1 | ⟨hz1, hz2⟩
          · go_wp2_with fail;go_ret2;exact ⟨_, rfl, World.ownsRow_nil _ _ _ _, HB.out⟩
          · go_wp2_with fail;go_ret2;exact ⟨_, rfl, World.ownsRow_nil _ _ _ _, HB.out⟩
      · rw [if_neg (fun h => hlt h.1)] at hgg;have hk : K = ([], 0) := by rw [HKK.out, hgg]; rfl
        subst hk;clear hgg;have hpl : ((p : Int) == (L.length : Int)) = true := beq_iff_eq.2 (by omega);go_wp2_with fail;go_ret2;exact ⟨_, rfl, World.ownsRow_nil _ _ _ _, HB.out⟩
    · have he : n = m := by omega
      subst he;have hgg := HGG.out;rw [Nat.sub_self, qQ] at hgg;have hk : K = (acc, p - i) := by rw [HKK.out, hgg]; show (acc ++ [], p - i) = _; rw [List.append_nil]
      subst hk;clear hgg;have hpi : ((p - i : Nat) : Int) = (p : Int) - (i : Int) := by omega
      have HPI := za hpi;clear hpi;go_wp2_with fail;go_ret2;exact ⟨_, by rw [HPI.out]; first | done | rfl, HR.out, HB.out⟩
end Go.Proofs.YtfcgpphodacdmaaGreatDoor
