/- Part of a proof: contracts of functions. -/
import Derived.Test.YtfcgpphodacdmaaGreatDoorRows
import Derived.Below
import Derived.WalkKit
import Derived.WalkSpells
import Derived.WalkLawsBesides
import Derived.WalkSmall
import Derived.Handy
import Derived.Lib.Hide
import Derived.OwnWalk
import Derived.Deep.LoopGhost
import Derived.Deep.Draws
import Derived.Test.YtfcgpphodacdmaaGreatDoorY0
set_option maxRecDepth 100000
set_option maxHeartbeats 4000000
set_option linter.all false
namespace Go.Proofs.YtfcgpphodacdmaaGreatDoor
def zaR : List Int := [0, 0, 67, 19, 128, 51, 19, 3, 3, 3, 3, 3, 3, 3, 3, 3, 256, 512, 1, 1024, 2048, 36, 36, 36, 36, 36, 36, 44, 36, 36, 4096, 36, 44, 44, 36, 36, 36, 36, 36, 36, 36, 36, 36]
def zl (k : Int) : Int := if k < 0 ∨ 43 ≤ k then 0 else zaR.getD k.toNat 0
def ys (k r : Int) : Bool := (k.toNat &&& r.toNat) != 0
def yt (ks : List Int) (r : Int) : Bool := ks.all fun k => ys k r
def zw : List Int → List Int → Bool
 | [], [] => true
 | k :: ks, r :: rs => ys k r && zw ks rs
 | _, _ => false
def yD (k : Int) (ks : List Int) : Bool :=
 if k = 21 ∨ k = 22 ∨ k = 23 ∨ k = 24 ∨ k = 25 ∨ k = 26 ∨ k = 27 then ks.isEmpty
 else if k = 34 ∨ k = 35 then !ks.isEmpty && yt ks 4
 else if k = 28 then yt ks 4
 else if k = 29 then yt ks 4096
 else if k = 30 ∨ k = 32 ∨ k = 36 then zw ks [4]
 else if k = 37 then zw ks [8]
 else if k = 33 ∨ k = 38 ∨ k = 39 ∨ k = 42 then zw ks [4, 4]
 else if k = 41 then zw ks [8, 4]
 else if k = 40 then zw ks [4, 4, 4]
 else false
def zP (k : Int) (ks : List Int) : Bool :=
 if k = 1 ∨ k = 20 then yt ks 1
 else if k = 2 then yt ks 2
 else if k = 3 then !ks.isEmpty && yt ks 128
 else if k = 7 then (if ks.length = 3 then zw ks [4, 2, 2] else zw ks [4, 2])
 else if k = 8 then zw ks [4, 2]
 else if k = 9 then zw ks [2, 4]
 else if k = 10 then zw ks [16, 32, 32, 2]
 else if k = 4 ∨ k = 13 then (if ks.isEmpty then true else zw ks [4])
 else if k = 6 ∨ k = 14 then zw ks [4]
 else if k = 15 then zw ks [64, 768] || zw ks [64, 256, 512]
 else if k = 16 ∨ k = 17 then zw ks [64]
 else if k = 18 ∨ k = 31 then !ks.isEmpty && (yt (ks.take (ks.length - 1)) 1024 && zw (ks.drop (ks.length - 1)) [2048])
 else if k = 5 ∨ k = 11 ∨ k = 12 ∨ k = 19 then ks.isEmpty
 else yD k ks
end Go.Proofs.YtfcgpphodacdmaaGreatDoor
namespace Go.Proofs.YtfcgpphodacdmaaGreatDoor
open Go.RowKit
def IRo (w : World) (v : Value) (L : List Int) : Prop :=
 (L = [] ∧ ∃ ao cap, v = .slice ao 0 cap) ∨ ∃ g o cap, g < w.heap.size ∧ L.length ≤ cap ∧ v = .slice (some ⟨g, o, none⟩) L.length cap ∧ ∀ (i : Nat) (h : i < L.length), w.cell? ⟨g, o + i, none⟩ = some (.int .i64 L[i])
theorem IRo.below {w w' : World} {v : Value} {L : List Int} (h : IRo w v L) (hb : Below w.heap.size w w') : IRo w' v L := by
 rcases h with h | ⟨g, o, cap, hg, hcap, hv, hc⟩
 ·exact .inl h
 ·exact .inr ⟨g, o, cap, Nat.lt_of_lt_of_le hg hb.size, hcap, hv, fun i hi => (hb.cell (p := ⟨g, _, none⟩) hg).trans (hc i hi)⟩
theorem IRo.slice {w : World} {v : Value} {L : List Int} (h : IRo w v L) : ∃ ao cap, v = .slice ao L.length cap := by
 rcases h with ⟨rfl, ao, cap, h⟩ | ⟨g, o, cap, _, _, h, _⟩
 ·exact ⟨ao, cap, h⟩
 ·exact ⟨_, cap, h⟩
theorem IRo.get {w : World} {ao : Option Addr} {cap : Nat} {L : List Int} (h : IRo w (.slice ao L.length cap) L) (hl : 0 < L.length) : ∃ g o, ao = some ⟨g, o, none⟩ ∧ g < w.heap.size ∧ L.length ≤ cap ∧ ∀ (i : Nat) (h : i < L.length), w.cell? ⟨g, o + i, none⟩ = some (.int .i64 L[i]) := by
 rcases h with ⟨h, _⟩ | ⟨g, o, cap', hg, hcap, hv, hc⟩
 ·rw [h] at hl; exact absurd hl (Nat.lt_irrefl 0)
 ·injection hv with h1 _ h2;subst h2;exact ⟨g, o, h1, hg, hcap, hc⟩
theorem zR (w : World) (C : Array Value) (t : TypeId) (j : Nat) : (w.alloc (.cells C t)).cell? ⟨w.heap.size, j, none⟩ = C[j]? := by
 exact World.cell?_alloc_mark w C t _ j
theorem IRo.lit (w : World) (L : List Int) (t : TypeId) (n : Nat) (hn : n = L.length) : IRo (w.alloc (.cells (L.map fun x => Value.int .i64 x).toArray t)) (.slice (some ⟨w.heap.size, 0, none⟩) n n) L := by
 subst hn;refine .inr ⟨w.heap.size, 0, L.length, by simp, zd _, rfl, fun i hi => ?_⟩;rw [zR]; simp [hi]
theorem IRo.part {w : World} {g o cap : Nat} {L : List Int} (h : IRo w (.slice (some ⟨g, o, none⟩) L.length cap) L) (k n c : Nat) (hk : k + n ≤ L.length) (hnc : n ≤ c) : IRo w (.slice (some ⟨g, o + k, none⟩) n c) ((L.drop k).take n) := by
 by_cases h0 : n = 0
 ·subst h0; exact .inl ⟨by simp, _, _, rfl⟩
 ·obtain ⟨g', o', hv, hg, hcap, hc⟩ := h.get (by omega);injection hv with hv; injection hv with hv ho _;subst hv; subst ho;have hl : ((L.drop k).take n).length = n := by rw [List.length_take, List.length_drop]; omega
  refine .inr ⟨g, o + k, c, hg, by rw [hl]; exact hnc, by rw [hl], fun i hi => ?_⟩;rw [hl] at hi;have := hc (k + i) (by omega);have e : ((L.drop k).take n)[i]'(by rw [hl]; exact hi) = L[k + i]'(by omega) := by rw [List.getElem_take, List.getElem_drop]
  rw [e, Nat.add_assoc];exact this
def Rng (L : List Int) : Prop := ∀ k ∈ L, 0 ≤ k ∧ k < 8192
theorem zjZ {k r : Int} (hk : 0 ≤ k ∧ k < 8192) (hr : 0 ≤ r ∧ r < 8192) : bits .and .i64 k r = ((k.toNat &&& r.toNat : Nat) : Int) := by
 obtain ⟨a, rfl⟩ : ∃ a : Nat, k = a := ⟨k.toNat, by omega⟩;obtain ⟨b, rfl⟩ : ∃ b : Nat, r = b := ⟨r.toNat, by omega⟩;have ha : a < 8192 := by omega
 have hb : b < 8192 := by omega
 have hab : a &&& b ≤ a := Nat.and_le_left;have e1 : (BitVec.ofInt 64 (a : Int) &&& BitVec.ofInt 64 (b : Int)).toNat = a &&& b := by
  rw [BitVec.toNat_and, BitVec.toNat_ofInt, BitVec.toNat_ofInt];have f1 : ((a : Int) % (2 ^ 64 : Nat)).toNat = a := by omega
  have f2 : ((b : Int) % (2 ^ 64 : Nat)).toNat = b := by omega
  rw [f1, f2]
 show IntKind.i64.wrap ((BitVec.ofInt 64 (a : Int) &&& BitVec.ofInt 64 (b : Int)).toNat : Int) = _
 rw [e1, IntKind.wrap_i64, Int.toNat_natCast, Int.toNat_natCast]; omega
theorem zae {k r : Int} (hk : 0 ≤ k ∧ k < 8192) (hr : 0 ≤ r ∧ r < 8192) : (bits .and .i64 k r == 0) = !ys k r := by
 rw [zjZ hk hr]; unfold ys;cases (k.toNat &&& r.toNat) with
 | zero => rfl
 | succ n => simp; omega
theorem zlN (w : World) (v : Value) (L : List Int) (r : Int) (h : IRo w v L) (hl : L.length ≤ 1000000) (hr : 0 ≤ r ∧ r < 8192) (hL : Rng L) :
  Calls Tryz.prog 102 #[v, .int .i64 r] w fun e w' => e = .returned (.bool (yt L r)) ∧ Below w.heap.size w w' := by
 obtain ⟨ao, cp, rfl⟩ := h.slice;have HN := za h;have HL := za hL;have HRR := za hr;clear h hL hr;obtain ⟨G, hG⟩ : ∃ G, G = yt L r := ⟨_, rfl⟩;rw [← hG];have HG := za hG;clear hG
 go_enter Tryz.func102, Tryz.ntmps102
 go_wp2_with fail
 go_loopg [6, 9] L.length (fun gg kk ii wr => ∃ i : Nat, ii = .int .i64 (i : Int) ∧ gg = L.length - i ∧ i ≤ L.length ∧ Hid (Below w.heap.size w wr) ∧ Hid (G = yt (L.drop i) r))
 case atStart => exact ⟨0, rfl, rfl, Nat.zero_le _, ze _ _, HG.out⟩
 case round =>
  obtain ⟨i, rfl, rfl, hi, HB, HGG⟩ := hrel;by_cases hlt : i < L.length
  ·obtain ⟨g, o, rfl, hg, hcap, hc⟩ := (HN.out.below HB.out).get (by omega);have c0 := hc i hlt;have hm := HL.out _ (List.getElem_mem hlt);have ht := zae hm HRR.out;have hgg := HGG.out;have hdr : L.drop i = L[i] :: L.drop (i + 1) := List.drop_eq_getElem_cons hlt;rw [hdr] at hgg;unfold yt at hgg;rw [List.all_cons] at hgg;generalize L[i] = q at *;cases hq : ys q r
   ·rw [hq] at ht hgg;simp only [Bool.false_and] at hgg;subst hgg;have ht' : (bits .and .i64 q r == 0) = true := by rw [ht]; rfl
    clear ht hc hm hdr;go_wp2_with fail;go_ret;exact ⟨rfl, HB.out⟩
   ·rw [hq] at ht hgg;have ht' : (bits .and .i64 q r == 0) = false := by rw [ht]; rfl
    have HG3 := za hgg;clear ht hc hm hdr hgg;go_wp2_with fail
    go_roundg (L.length - (i + 1))
    case measure => omega
    case rel => exact ⟨i + 1, by simp, rfl, hlt, HB.out, by have := HG3.out; rw [Bool.true_and] at this; exact this⟩
  ·have he : i = L.length := by omega
   subst he;have hgg := HGG.out;rw [List.drop_length] at hgg;have hgg : G = true := hgg;subst hgg;go_wp2_with fail;go_ret;exact ⟨rfl, HB.out⟩
theorem zaF : ∀ {ks rs : List Int}, zw ks rs = true → ks.length = rs.length
 | [], [], _ => rfl
 | k :: ks, r :: rs, h => by
  rw [zw, Bool.and_eq_true] at h;rw [List.length_cons, List.length_cons, zaF h.2]
 | [], r :: rs, h => by simp [zw] at h
 | k :: ks, [], h => by simp [zw] at h
theorem zlO (w : World) (v u : Value) (L M : List Int) (h : IRo w v L) (g : IRo w u M) (hl : L.length ≤ 1000000) (gl : M.length ≤ 10) (hL : Rng L) (hM : Rng M) :
  Calls Tryz.prog 103 #[v, u] w fun e w' => e = .returned (.bool (zw L M)) ∧ Below w.heap.size w w' := by
 obtain ⟨ao, cp, rfl⟩ := h.slice;obtain ⟨bo, bp, rfl⟩ := g.slice;have HN := za h;have HM := za g;have HL := za hL;have HRR := za hM;clear h g hL hM;obtain ⟨G, hG⟩ : ∃ G, G = zw L M := ⟨_, rfl⟩;rw [← hG];have HG := za hG;clear hG
 go_enter Tryz.func103, Tryz.ntmps103
 by_cases hlen : L.length = M.length
 ·have hne : ((L.length : Int) != (M.length : Int)) = false := by rw [hlen]; simp
  have hni : ¬ (L.length : Int) ≠ (M.length : Int) := by omega
  have HLEN := za hlen;clear hlen;go_wp2_with fail
  go_loopg [5, 6, 14] M.length (fun gg k1 k2 ii wr => ∃ i : Nat, ii = .int .i64 (i : Int) ∧ gg = M.length - i ∧ i ≤ M.length ∧ Hid (Below w.heap.size w wr) ∧ Hid (G = zw (L.drop i) (M.drop i)))
  case atStart => exact ⟨0, rfl, rfl, Nat.zero_le _, ze _ _, HG.out⟩
  case round =>
   obtain ⟨i, rfl, rfl, hi, HB, HGG⟩ := hrel;have hlen := HLEN.out;by_cases hlt : i < M.length
   ·have hlt2 : i < L.length := by omega
    obtain ⟨g, o, rfl, hg, hcap, hc⟩ := (HN.out.below HB.out).get (by omega);obtain ⟨g2, o2, rfl, hg2, hcap2, hc2⟩ := (HM.out.below HB.out).get (by omega);have c0 := hc i hlt2;have d0 := hc2 i hlt;have hm := HL.out _ (List.getElem_mem hlt2);have hr := HRR.out _ (List.getElem_mem hlt);have ht := zae hm hr;have hgg := HGG.out;have hdr : L.drop i = L[i] :: L.drop (i + 1) := List.drop_eq_getElem_cons hlt2;have hdr2 : M.drop i = M[i] :: M.drop (i + 1) := List.drop_eq_getElem_cons hlt;rw [hdr, hdr2, zw] at hgg;generalize L[i] = q at *;generalize M[i] = r at *;have hlt3 : (i : Int) < (L.length : Int) := by omega
    cases hq : ys q r
    ·rw [hq] at ht hgg;simp only [Bool.false_and] at hgg;subst hgg;have ht' : (bits .and .i64 q r == 0) = true := by rw [ht]; rfl
     clear ht hc hc2 hm hr hdr hdr2 hlen;go_wp2_with fail;go_ret;exact ⟨rfl, HB.out⟩
    ·rw [hq] at ht hgg;have ht' : (bits .and .i64 q r == 0) = false := by rw [ht]; rfl
     have HG3 := za hgg;clear ht hc hc2 hm hr hdr hdr2 hgg hlen;go_wp2_with fail
     go_roundg (M.length - (i + 1))
     case measure => omega
     case rel => exact ⟨i + 1, by simp, rfl, hlt, HB.out, by have := HG3.out; rw [Bool.true_and] at this; exact this⟩
   ·have he : i = M.length := by omega
    subst he;have hgg := HGG.out;rw [List.drop_length, ← hlen, List.drop_length] at hgg;have hgg : G = true := hgg;subst hgg;clear hlen;go_wp2_with fail;go_ret;exact ⟨rfl, HB.out⟩
 ·have hne : ((L.length : Int) != (M.length : Int)) = true := by rw [bne_iff_ne]; omega
  have hni : (L.length : Int) ≠ (M.length : Int) := by omega
  have hg : G = false := by
   rw [HG.out];cases he : zw L M
   ·rfl
   ·exact absurd (zaF he) hlen
  subst hg;go_wp2_with fail;go_ret;exact ⟨rfl, ze _ _⟩
def qR (w : World) : Prop := (∀ i : Nat, i < 43 → w.cell? ⟨0, i, none⟩ = some (.int .i64 (zaR.getD i 0))) ∧ 0 < w.heap.size
theorem qR.below {w w' : World} (h : qR w) (hb : Below w.heap.size w w') : qR w' :=
 ⟨fun i hi => (hb.cell (p := ⟨0, _, none⟩) h.2).trans (h.1 i hi), Nat.lt_of_lt_of_le h.2 hb.size⟩
theorem zaf (k : Int) : 0 ≤ zl k ∧ zl k < 8192 := by
 unfold zl;split
 ·omega
 ·have h1 : ∀ n : Nat, n < 43 → 0 ≤ zaR.getD n 0 ∧ zaR.getD n 0 < 8192 := by decide
  exact h1 _ (by omega)
theorem jz (k : Int) (w : World) (hr : qR w) :
  Calls Tryz.prog 46 #[.int .i64 k] w fun e w' => e = .returned (.int .i64 (zl k)) ∧ w' = w := by
 by_cases h0 : k < 0
 ·have e : zl k = 0 := by unfold zl; rw [if_pos (.inl h0)]
  rw [e]
  go_enter Tryz.func46, Tryz.ntmps46
  go_wp2_with fail;go_ret;exact ⟨rfl, rfl⟩
 ·by_cases h1 : 43 ≤ k
  ·have e : zl k = 0 := by unfold zl; rw [if_pos (.inr h1)]
   rw [e]
   go_enter Tryz.func46, Tryz.ntmps46
   go_wp2_with fail;go_ret;exact ⟨rfl, rfl⟩
  ·have e : zl k = zaR.getD k.toNat 0 := by unfold zl; rw [if_neg (by omega)]
   obtain ⟨n, rfl⟩ : ∃ n : Nat, k = n := ⟨k.toNat, by omega⟩;rw [e, Int.toNat_natCast];have c := hr.1 n (by omega);clear hr e;generalize zaR.getD n 0 = z at *
   go_enter Tryz.func46, Tryz.ntmps46
   go_wp2_with fail;go_ret;exact ⟨rfl, rfl⟩
end Go.Proofs.YtfcgpphodacdmaaGreatDoor
