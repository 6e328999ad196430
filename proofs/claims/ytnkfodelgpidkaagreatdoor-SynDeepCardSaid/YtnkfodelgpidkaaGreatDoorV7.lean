/- Part of a proof that the program keeps SynDeep: contracts of its functions and of the document's. -/
import Derived.Test.YtnkfodelgpidkaaGreatDoorV6
import Derived.Laws.OwnMore
import Derived.Deep.AppendLies
import Derived.Test.YtnkfodelgpidkaaGreatDoorV4
import Derived.Test.YtnkfodelgpidkaaGreatDoorV1
import Derived.Test.YtnkfodelgpidkaaGreatDoorV3
set_option maxRecDepth 100000
set_option maxHeartbeats 4000000
set_option linter.unusedVariables false
set_option linter.unusedSimpArgs false
namespace Go.Proofs.YtnkfodelgpidkaaGreatDoor
open Go.RowKit
theorem cellsOf_at (l : List Tk) : ∀ (k : Nat) (h : k < l.length),
  (cellsOf l)[k * 4]? = some (.int .i64 l[k].kind) ∧ (cellsOf l)[k * 4 + 1]? = some (.int .i64 l[k].pos) ∧ (cellsOf l)[k * 4 + 2]? = some (.string (bs l[k].text)) ∧ (cellsOf l)[k * 4 + 3]? = some (.int .u64 l[k].bits) := by
 induction l with
 | nil => intro k h; simp at h
 | cons t r ih =>
  intro k h
  rcases k with _ | k
  ·simp [cellsOf, tkC]
  ·have := ih k (by simpa using h)
   have e : cellsOf (t :: r) = .int .i64 t.kind :: .int .i64 t.pos :: .string (bs t.text) :: .int .u64 t.bits :: cellsOf r := rfl
   rw [e, show (k + 1) * 4 = k * 4 + 1 + 1 + 1 + 1 by omega]
   simpa using this
theorem tok_at {w : World} {B e g cap : Nat} {l : List Tk} (h : w.ownsRow B e 4 (.slice (some ⟨g, 0, none⟩) l.length cap) l.length (cellsOf l)) (k : Nat) (hk : k < l.length) :
  w.cell? ⟨g, k * 4, none⟩ = some (.int .i64 l[k].kind) ∧ w.cell? ⟨g, k * 4 + 1, none⟩ = some (.int .i64 l[k].pos) ∧ w.cell? ⟨g, k * 4 + 2, none⟩ = some (.string (bs l[k].text)) ∧ w.cell? ⟨g, k * 4 + 3, none⟩ = some (.int .u64 l[k].bits) := by
 obtain ⟨a, b, c, d⟩ := cellsOf_at l k hk
 exact ⟨(h.cellAt _ (by omega)).trans a, (h.cellAt _ (by omega)).trans b, (h.cellAt _ (by omega)).trans c, (h.cellAt _ (by omega)).trans d⟩
end Go.Proofs.YtnkfodelgpidkaaGreatDoor
namespace Go.Proofs.YtnkfodelgpidkaaGreatDoor
open Go.RowKit
end Go.Proofs.YtnkfodelgpidkaaGreatDoor
namespace Go.Proofs.YtnkfodelgpidkaaGreatDoor
open Go.RowKit
theorem np_parts (c : Int) : npB c = (letB c || digB c) := by
 unfold npB letB digB; rw [Bool.eq_iff_iff]; simp; omega
theorem hex_np {c : Int} (h : ¬ hexI c = 16) : npB c = true := by
 unfold hexI at h; unfold npB
 simp only [decide_eq_true_eq]
 split at h
 ·omega
 ·split at h
  ·omega
  ·split at h
   ·omega
   ·exact absurd rfl h
theorem nm_drop : ∀ (R : List UInt8) (n : Nat), n ≤ nmL R → nmL R = n + nmL (R.drop n)
 | R, 0, _ => by simp
 | [], n + 1, h => by simp [nmL] at h
 | c :: r, n + 1, h => by
  rw [nmL] at h ⊢
  split at h
  ·rename_i hc
   rw [if_pos hc, nm_drop r n (by omega)]
   simp; omega
  ·omega
theorem part_cons {s : ByteArray} {m n : Nat} (hl : n < s.size) (hm : m ≤ s.size) (h : n < m) : (s.data.toList.take m).drop n = s[n] :: (s.data.toList.take m).drop (n + 1) := by
 have hl2 : n < (s.data.toList.take m).length := by rw [List.length_take, list_size']; omega
 rw [List.drop_eq_getElem_cons hl2, List.getElem_take]; rfl
theorem part_done {s : ByteArray} {m n : Nat} (h : m ≤ n) : (s.data.toList.take m).drop n = [] := List.drop_eq_nil_of_le (by rw [List.length_take]; omega)
theorem pdigs_bad {base : Int} {s : ByteArray} {m n : Nat} (hl : n < s.size) (hm : m ≤ s.size) (h : n < m) {x : Int} (hb : base ≤ hexI (s[n].toNat : Int)) : digs base ((s.data.toList.take m).drop n) x = none := by
 rw [part_cons hl hm h, digs]; unfold ci; rw [if_pos hb]
theorem pdigs_big {base : Int} {s : ByteArray} {m n : Nat} (hl : n < s.size) (hm : m ≤ s.size) (h : n < m) {x : Int} (hb : ¬ base ≤ hexI (s[n].toNat : Int)) (hn : 9007199254740992 < x * base + hexI (s[n].toNat : Int)) : digs base ((s.data.toList.take m).drop n) x = none := by
 rw [part_cons hl hm h, digs]; unfold ci; rw [if_neg hb, if_pos hn]
theorem pdigs_more {base : Int} {s : ByteArray} {m n : Nat} (hl : n < s.size) (hm : m ≤ s.size) (h : n < m) {x : Int} (hb : ¬ base ≤ hexI (s[n].toNat : Int)) (hn : ¬ 9007199254740992 < x * base + hexI (s[n].toNat : Int)) : digs base ((s.data.toList.take m).drop n) x = digs base ((s.data.toList.take m).drop (n + 1)) (x * base + hexI (s[n].toNat : Int)) := by
 rw [part_cons hl hm h, digs]; unfold ci; rw [if_neg hb, if_neg hn]
theorem rname_any (s : ByteArray) (hs : s.size ≤ 1000000) (w : World) :
  Calls Tryz.prog 91 #[.string s] w fun e w' => e = .returned (.int .i64 (nameN s.data.toList : Nat)) ∧ w = w' := by
 obtain ⟨z, hz⟩ : ∃ z, z = nameN s.data.toList := ⟨_, rfl⟩
 rw [← hz]
 have HZ := Lib.hid hz
 have hzl : z ≤ s.size := by
  rw [hz]; unfold nameN; split
  ·omega
  ·split
   ·have := nmL_le s.data.toList; rw [list_size'] at this; simp_all
   ·omega
 clear hz
 go_enter Tryz.func91, Tryz.ntmps91
 go_wp2_with fail
 go_loop [3] (fun nn => ∃ n : Nat, nn = .int .i64 (n : Int) ∧ n ≤ s.size ∧ Hid (z = if n = 0 then nameN s.data.toList else n + nmL (s.data.toList.drop n))) (fun nn => s.size - (intOf nn).toNat)
 case atStart => exact ⟨0, rfl, by omega, by show _ = _; rw [if_pos rfl]; exact HZ.out⟩
 case round =>
  obtain ⟨n, rfl, hn, HC⟩ := hrel
  by_cases hlt : n < s.size
  ·have L := Lib.hid (fun w => rLetter_any (s[n].toNat : Int) w)
   have D := Lib.hid (fun w => rDigit_any (s[n].toNat : Int) w)
   have NY := Lib.hid (@nm_yes s n hlt)
   have NN := Lib.hid (@nm_no s n hlt)
   have NP := Lib.hid (np_parts (s[n].toNat : Int))
   have N0 : Hid (n = 0 → nameN s.data.toList = if letB (s[n].toNat : Int) then nmL (s.data.toList.drop n) else 0) := by
    intro h; subst h
    have := drop_cons s 0 hlt
    rw [List.drop_zero] at this
    show (match s.data.toList with | [] => 0 | c :: _ => if letB (ci c) then nmL s.data.toList else 0) = _
    rw [List.drop_zero, this]; rfl
   cases hl : letB (s[n].toNat : Int)
   ·rw [hl] at L NP N0
    by_cases h0 : n = 0
    ·have E := Lib.hid (HC.out.trans (by rw [if_pos h0, N0.out h0, if_neg (by decide)]))
     have hn0 : (n : Int) = 0 := by omega
     have hd0 : decide (0 < n) = false := by rw [decide_eq_false_iff_not]; omega
     clear hl
     obtain rfl : z = 0 := E.out
     subst h0
     go_wp2_with (go_at_call 164; refine (L.out _).mono ?_; rintro e w' ⟨rfl, rfl⟩)
     go_ret
     exact ⟨rfl, rfl⟩
    ·have hn1 : 0 < n := by omega
     cases hd : digB (s[n].toNat : Int)
     ·rw [hd] at D NP
      have E := Lib.hid (HC.out.trans (by rw [if_neg h0, NN.out NP.out]))
      clear hl hd h0
      go_wp2_with (first | (go_at_call 164; refine (L.out _).mono ?_; rintro e w' ⟨rfl, rfl⟩) | (go_at_call 93; refine (D.out _).mono ?_; rintro e w' ⟨rfl, rfl⟩))
      go_ret
      exact ⟨ret_int (by rw [E.out]; rfl), rfl⟩
     ·rw [hd] at D NP
      have E := Lib.hid (HC.out.trans (by rw [if_neg h0, NY.out NP.out]))
      clear hl hd h0
      go_wp2_with (first | (go_at_call 164; refine (L.out _).mono ?_; rintro e w' ⟨rfl, rfl⟩) | (go_at_call 93; refine (D.out _).mono ?_; rintro e w' ⟨rfl, rfl⟩))
      go_round
      case rel => exact ⟨n + 1, by go_num, by omega, by show _ = _; rw [if_neg (by omega), E.out]; omega⟩
      case measure => simp [intOf]; omega
   ·rw [hl] at L NP N0
    have E : Hid (z = if n + 1 = 0 then nameN s.data.toList else n + 1 + nmL (s.data.toList.drop (n + 1))) := by
     show _ = _
     rw [if_neg (by omega), HC.out]
     have hy := NY.out (NP.out.trans rfl)
     by_cases h0 : n = 0
     ·rw [if_pos h0, N0.out h0, if_pos rfl, hy]; omega
     ·rw [if_neg h0, hy]; omega
    clear hl
    go_wp2_with (go_at_call 164; refine (L.out _).mono ?_; rintro e w' ⟨rfl, rfl⟩)
    go_round
    case rel => exact ⟨n + 1, by go_num, by omega, E.out⟩
    case measure => simp [intOf]; omega
  ·have E : Hid (z = n) := by
    show _ = _
    rw [HC.out]
    split
    ·rename_i h0
     have hz : s.data.toList = [] := List.eq_nil_of_length_eq_zero (by rw [list_size']; omega)
     rw [hz, h0]; rfl
    ·rw [nm_end (by omega)]; rfl
   have hd : decide (n < s.size) = false := by rw [decide_eq_false_iff_not]; exact hlt
   go_wp2_with fail
   go_ret
   exact ⟨ret_int (by rw [E.out]), rfl⟩
end Go.Proofs.YtnkfodelgpidkaaGreatDoor
namespace Go.Proofs.YtnkfodelgpidkaaGreatDoor
open Go.RowKit
def exT : List Tk := [⟨1, 0, [97], 0⟩, ⟨5, 1, [43, 43], 0⟩, ⟨5, 3, [43], 0⟩, ⟨1, 4, [98], 0⟩]
end Go.Proofs.YtnkfodelgpidkaaGreatDoor
namespace Go.Proofs.YtnkfodelgpidkaaGreatDoor
open Go.RowKit
theorem MLw.open {w : World} (h : w.ShapedOpen Tryz.prog) : MLw w := by
 obtain ⟨m, hm⟩ := Tryz.maxLen_shaped w h
 refine ⟨⟨m, hm⟩, ?_⟩
 rcases Nat.lt_or_ge 3 w.heap.size with hl | hl
 ·exact hl
 ·have : w.heap[3]? = none := Array.getElem?_eq_none hl
  simp [World.cell?, this] at hm
end Go.Proofs.YtnkfodelgpidkaaGreatDoor
namespace Go.Proofs.YtnkfodelgpidkaaGreatDoor
theorem np_small {c : UInt8} (h : npB (ci c) = true) : ci c < 128 := by unfold npB at h; simp only [decide_eq_true_eq] at h; omega
theorem chk_ascii (L : List UInt8) (h : ∀ c ∈ L, ci c < 128) : ∀ (j a : Nat), L.length - a ≤ j → chk L a = none
 | 0, a, hj => chk_done (by omega)
 | j + 1, a, hj => by
  by_cases ha : a < L.length
  ·have hb : by8 L a = ci L[a] := by unfold by8 ci; simp [List.getElem?_eq_getElem ha]
   have h1 := h L[a] (List.getElem_mem ha)
   have h0 := ci_lo L[a]
   have h4 : ∀ d e f, siz4 (ci L[a]) d e f = 1 := fun d e f => by unfold siz4; rw [if_pos h1]
   have hs : ¬ signAt L a < 0 := by unfold signAt sgn4; rw [hb, h4]; simp; omega
   have hp : stepAt L a = 1 := by unfold stepAt sizeAt siz4; rw [hb, if_pos h1]; rfl
   rw [chk_more ha hs, hp]
   exact chk_ascii L h j (a + 1) (by omega)
  ·exact chk_done (by omega)
theorem lexB_err : ∀ (j : Nat) (R : List UInt8) (a op p c : Int), R.length ≤ j → lexB R a op = .error (p, c) → c = 5 ∨ c = 6
 | j, [], a, op, p, c, _, h => by rw [lexB] at h; cases h
 | 0, d :: r, a, op, p, c, hj, h => by simp at hj
 | j + 1, d :: r, a, op, p, c, hj, h => by
  rw [lexB_cons] at h
  split at h
  ·injection h with h; injection h with _ h; exact .inl h.symm
  ·split at h
   ·injection h with h; injection h with _ h; exact .inr h.symm
   ·rename_i t n ht _
    unfold lexA at h
    split at h
    ·injection h with h; injection h with _ h; exact .inl h.symm
    ·rename_i m hg
     cases hx : lexB ((r.drop (n - 1)).drop m) (a + n + m) (opA t op) with
     | ok l => rw [hx] at h; cases h
     | error e =>
      obtain ⟨p', c'⟩ := e
      rw [hx] at h
      simp only [consT, Except.error.injEq, Prod.mk.injEq] at h
      obtain ⟨rfl, rfl⟩ := h
      exact lexB_err j _ _ _ _ _ (by rw [List.length_drop, List.length_drop]; simp at hj; omega) hx
theorem lex_err {L : List UInt8} {p c : Int} (h : lexL L = .error (p, c)) : 3 ≤ c ∧ c ≤ 6 := by
 unfold lexL at h
 split at h
 ·injection h with h; injection h with _ h; omega
 ·split at h
  ·injection h with h; injection h with _ h; omega
  ·unfold lexA at h
   split at h
   ·injection h with h; injection h with _ h; omega
   ·have := lexB_err _ _ _ _ _ _ (Nat.le_refl _) h
    omega
end Go.Proofs.YtnkfodelgpidkaaGreatDoor
namespace Go.Proofs.YtnkfodelgpidkaaGreatDoor
end Go.Proofs.YtnkfodelgpidkaaGreatDoor
namespace Go.Proofs.YtnkfodelgpidkaaGreatDoor
theorem lexA_go {R : List UInt8} {k : Nat} {a op : Int} (h : gap R = (k, true)) : lexA R a op = lexB (R.drop k) (a + k) op := by unfold lexA; rw [h]
theorem lexA_stop {R : List UInt8} {k : Nat} {a op : Int} (h : gap R = (k, false)) : lexA R a op = .error (a + k, 5) := by unfold lexA; rw [h]
def shift (d : Int) (t : Tk) : Tk := { t with pos := t.pos + d }
theorem lex_parts {L : List UInt8} {l : List Tk} (h : lexL L = .ok l) : L.length ≤ 4096 ∧ chk L 0 = none ∧ lexA L 0 0 = .ok l := by
 unfold lexL at h
 split at h
 ·cases h
 ·split at h
  ·cases h
  ·rename_i hc; exact ⟨by omega, hc, h⟩
end Go.Proofs.YtnkfodelgpidkaaGreatDoor
namespace Go.Proofs.YtnkfodelgpidkaaGreatDoor
theorem nm_cut : ∀ (R : List UInt8) (m : Nat), nmL R ≤ m → nmL (R.take m) = nmL R
 | [], m, _ => by simp
 | c :: r, m, h => by
  rw [nmL] at h ⊢
  cases hc : npB (ci c)
  ·cases m with
   | zero => rfl
   | succ m => rw [List.take_succ_cons, nmL, hc]; rfl
  ·rw [hc] at h
   simp only [if_true] at h ⊢
   obtain ⟨m, rfl⟩ : ∃ j, m = j + 1 := ⟨m - 1, by omega⟩
   rw [List.take_succ_cons, nmL, hc]
   simp only [if_true]
   rw [nm_cut r m (by omega)]
end Go.Proofs.YtnkfodelgpidkaaGreatDoor
namespace Go.Proofs.YtnkfodelgpidkaaGreatDoor
theorem by8_ci {L : List UInt8} {a : Nat} (ha : a < L.length) : by8 L a = ci L[a] := by unfold by8 ci; simp [List.getElem?_eq_getElem ha]
theorem chk_at (L : List UInt8) (a : Nat) (hb : by8 L a < 128) : ∀ (j k : Nat), a - k ≤ j → k ≤ a → a ≤ L.length → chk L k = none → chk L a = none
 | 0, k, hj, hk, hl, h => by rw [show a = k by omega]; exact h
 | j + 1, k, hj, hk, hl, h => by
  by_cases he : k = a
  ·rw [← he]; exact h
  ·have hs : ¬ signAt L k < 0 := fun hs => by rw [chk_bad (by omega) hs] at h; cases h
   rw [chk_more (by omega) hs] at h
   refine chk_at L a hb j _ (by have := stepAt_range L k; omega) ?_ hl h
   have hr := siz4_range (by8 L k) (by8 L (k + 1)) (by8 L (k + 2)) (by8 L (k + 3))
   have hf := siz4_fits (by8 L k) (by8 L (k + 1)) (by8 L (k + 2)) (by8 L (k + 3))
   rcases Nat.lt_or_ge a (k + stepAt L k) with hlt | hge
   ·exfalso
    unfold stepAt sizeAt at hlt
    have hne : ∀ i, a = k + i → by8 L (k + i) < 128 := fun i hi => by rw [← hi]; exact hb
    split at hlt
    ·omega
    ·have h4 : siz4 (by8 L k) (by8 L (k + 1)) (by8 L (k + 2)) (by8 L (k + 3)) = 1 ∨ siz4 (by8 L k) (by8 L (k + 1)) (by8 L (k + 2)) (by8 L (k + 3)) = 2 ∨ siz4 (by8 L k) (by8 L (k + 1)) (by8 L (k + 2)) (by8 L (k + 3)) = 3 ∨ siz4 (by8 L k) (by8 L (k + 1)) (by8 L (k + 2)) (by8 L (k + 3)) = 4 := by omega
     rcases h4 with h4 | h4 | h4 | h4
     ·rw [h4] at hlt; simp at hlt; omega
     ·rw [h4] at hlt; simp at hlt
      have := hf.1 h4; have := hne 1 (by omega); omega
     ·rw [h4] at hlt; simp at hlt
      have := hf.2.1 h4
      rcases (show a = k + 1 ∨ a = k + 2 by omega) with e | e
      ·have := hne 1 e; omega
      ·have := hne 2 e; omega
     ·rw [h4] at hlt; simp at hlt
      have := hf.2.2 h4
      rcases (show a = k + 1 ∨ a = k + 2 ∨ a = k + 3 by omega) with e | e | e
      ·have := hne 1 e; omega
      ·have := hne 2 e; omega
      ·have := hne 3 e; omega
   ·exact hge
theorem chk_drop {L : List UInt8} {a : Nat} (hl : a ≤ L.length) (hb : by8 L a < 128) (h : chk L 0 = none) : chk (L.drop a) 0 = none := by
 have h1 := chk_at L a hb _ 0 (Nat.le_refl _) (Nat.zero_le _) hl h
 have h2 := chk_right (L.take a) (L.drop a) _ 0 (Nat.le_refl _)
 rw [List.take_append_drop, List.length_take, Nat.min_eq_left hl, Nat.add_zero, h1] at h2
 cases hx : chk (L.drop a) 0 with
 | none => rfl
 | some x => rw [hx] at h2; cases h2
theorem by8_take {L : List UInt8} {m i : Nat} (h : i < m) : by8 (L.take m) i = by8 L i := by
 unfold by8; rw [List.getD_eq_getElem?_getD, List.getD_eq_getElem?_getD, List.getElem?_take, if_pos h]
theorem siz4_own {c d e f : Int} (d' e' f' : Int) : (siz4 c d e f = 1 → siz4 c d' e' f' = 1 ∧ sgn4 c d' e' f' = sgn4 c d e f) ∧ (siz4 c d e f = 2 → siz4 c d e' f' = 2 ∧ sgn4 c d e' f' = sgn4 c d e f) ∧
  (siz4 c d e f = 3 → siz4 c d e f' = 3 ∧ sgn4 c d e f' = sgn4 c d e f) := by
 have a1 := siz4_is c d e f
 have a2 := siz4_is c d' e' f'
 have a3 := siz4_is c d e' f'
 have a4 := siz4_is c d e f'
 have b1 := sgn4_is c d e f
 have b2 := sgn4_is c d' e' f'
 have b3 := sgn4_is c d e' f'
 have b4 := sgn4_is c d e f'
 refine ⟨fun h => ?_, fun h => ?_, fun h => ?_⟩
 ·have h2 := a2.1.2 (a1.1.1 h)
  exact ⟨h2, by rw [b1.1 h, b2.1 h2]⟩
 ·have h2 := a3.2.1.2 (a1.2.1.1 h)
  exact ⟨h2, by rw [b1.2.1 h, b3.2.1 h2]⟩
 ·have h2 := a4.2.2.1.2 (a1.2.2.1.1 h)
  exact ⟨h2, by rw [b1.2.2.1 h, b4.2.2.1 h2]⟩
theorem sign_heads : ∀ P ∈ signs, ∀ c ∈ P, ci c < 128 := by decide +kernel
theorem sgn_in (R : List UInt8) : ∀ n, sgnN R n ≠ 0 → sgnB (R.take (sgnN R n)) = true
 | 0, h => absurd rfl h
 | n + 1, h => by
  rw [sgnN] at h ⊢
  by_cases hc : n + 1 ≤ R.length ∧ sgnB (R.take (n + 1)) = true
  ·rw [if_pos hc]; exact hc.2
  ·rw [if_neg hc] at h ⊢; exact sgn_in R n h
theorem tok_head {c : UInt8} {r : List UInt8} {t : Tk} {n : Nat} (h : tokO (c :: r) = some (t, n)) : ci c < 128 := by
 unfold tokO at h
 simp only at h
 split at h
 ·rename_i hc; unfold digB at hc; simp only [decide_eq_true_eq] at hc; omega
 ·split at h
  ·rename_i hc; exact np_small hc
  ·split at h
   ·omega
   ·split at h
    ·cases h
    ·rename_i hs
     have h1 := sgn_in (c :: r) 4 hs
     obtain ⟨k, hk⟩ : ∃ k, sgnN (c :: r) 4 = k + 1 := ⟨sgnN (c :: r) 4 - 1, by omega⟩
     rw [hk, List.take_succ_cons] at h1
     exact sign_heads _ (by unfold sgnB at h1; simpa using h1) c (by simp)
end Go.Proofs.YtnkfodelgpidkaaGreatDoor
namespace Go.Proofs.YtnkfodelgpidkaaGreatDoor
def hxU (d : Nat) : UInt8 := UInt8.ofNat (if d < 10 then 48 + d else 87 + d)
def escL (c : UInt8) : List UInt8 :=
 if c = 92 ∨ c = 34 then [92, c] else if c = 10 then [92, 110] else if c = 13 then [92, 114] else if c = 9 then [92, 116]
 else if c.toNat < 32 then [92, 117, 48, 48, hxU (c.toNat / 16), hxU (c.toNat % 16)] else [c]
def escsL (L : List UInt8) : List UInt8 := L.flatMap escL
def quoteL (L : List UInt8) : List UInt8 := 34 :: (escsL L ++ [34])
/- Right texts, sign by sign. -/
theorem first_sign {c : UInt8} {r : List UInt8} (h : chk (c :: r) 0 = none) :
  ∃ A R, c :: r = A ++ R ∧ A ≠ [] ∧ chk A 0 = none ∧ chk R 0 = none ∧ ((A = [c] ∧ ci c < 128) ∨ ∀ d ∈ A, 128 ≤ ci d) := by
 have h0 : 0 < (c :: r).length := by simp
 have hc0 : by8 (c :: r) 0 = ci c := by rw [by8_ci h0]; rfl
 generalize hL : c :: r = L at *
 have hs : ¬ signAt L 0 < 0 := fun hs => by rw [chk_bad h0 hs] at h; cases h
 have hn : chk L (0 + stepAt L 0) = none := by rw [chk_more h0 hs] at h; exact h
 have hin := step_in h0
 have hr := siz4_range (by8 L 0) (by8 L (0 + 1)) (by8 L (0 + 2)) (by8 L (0 + 3))
 have hi := siz4_is (by8 L 0) (by8 L (0 + 1)) (by8 L (0 + 2)) (by8 L (0 + 3))
 have hz : siz4 (by8 L 0) (by8 L (0 + 1)) (by8 L (0 + 2)) (by8 L (0 + 3)) ≠ 0 := fun hz => hs (by unfold signAt sgn4; rw [if_pos hz]; decide)
 have hst : ((stepAt L 0 : Nat) : Int) = siz4 (by8 L 0) (by8 L (0 + 1)) (by8 L (0 + 2)) (by8 L (0 + 3)) := by
  unfold stepAt sizeAt; rw [if_neg hz]; omega
 have own := siz4_own (c := by8 L 0) (d := by8 L (0 + 1)) (e := by8 L (0 + 2)) (f := by8 L (0 + 3)) (by8 (L.take (stepAt L 0)) (0 + 1)) (by8 (L.take (stepAt L 0)) (0 + 2)) (by8 (L.take (stepAt L 0)) (0 + 3))
 have h4 : siz4 (by8 L 0) (by8 L (0 + 1)) (by8 L (0 + 2)) (by8 L (0 + 3)) = 1 ∨ siz4 (by8 L 0) (by8 L (0 + 1)) (by8 L (0 + 2)) (by8 L (0 + 3)) = 2 ∨ siz4 (by8 L 0) (by8 L (0 + 1)) (by8 L (0 + 2)) (by8 L (0 + 3)) = 3 ∨ siz4 (by8 L 0) (by8 L (0 + 1)) (by8 L (0 + 2)) (by8 L (0 + 3)) = 4 := by omega
 have hdrop : chk (L.drop (stepAt L 0)) 0 = none := by
  have h2 := chk_right (L.take (stepAt L 0)) (L.drop (stepAt L 0)) _ 0 (Nat.le_refl _)
  rw [List.take_append_drop, List.length_take, Nat.min_eq_left (by omega), Nat.add_zero] at h2
  rw [Nat.zero_add] at hn
  rw [hn] at h2
  cases hx : chk (L.drop (stepAt L 0)) 0 with
  | none => rfl
  | some x => rw [hx] at h2; cases h2
 have htake : sizeAt (L.take (stepAt L 0)) 0 = sizeAt L 0 ∧ signAt (L.take (stepAt L 0)) 0 = signAt L 0 := by
  have hn4 : stepAt L 0 ≠ 0 := by omega
  unfold sizeAt signAt
  rw [by8_take (show 0 < stepAt L 0 by omega)]
  rcases h4 with h4 | h4 | h4 | h4
  ·have o := own.1 h4
   exact ⟨o.1.trans h4.symm, o.2⟩
  ·have o := own.2.1 h4
   rw [by8_take (show 0 + 1 < stepAt L 0 by omega)]
   exact ⟨o.1.trans h4.symm, o.2⟩
  ·have o := own.2.2 h4
   rw [by8_take (show 0 + 1 < stepAt L 0 by omega), by8_take (show 0 + 2 < stepAt L 0 by omega)]
   exact ⟨o.1.trans h4.symm, o.2⟩
  ·rw [by8_take (show 0 + 1 < stepAt L 0 by omega), by8_take (show 0 + 2 < stepAt L 0 by omega), by8_take (show 0 + 3 < stepAt L 0 by omega)]
   exact ⟨rfl, rfl⟩
 have hlen : (L.take (stepAt L 0)).length = stepAt L 0 := by rw [List.length_take]; omega
 have hstT : stepAt (L.take (stepAt L 0)) 0 = stepAt L 0 := by
  have e : stepAt (L.take (stepAt L 0)) 0 = if sizeAt (L.take (stepAt L 0)) 0 = 0 then 1 else (sizeAt (L.take (stepAt L 0)) 0).toNat := rfl
  rw [e, htake.1]; rfl
 have htk : chk (L.take (stepAt L 0)) 0 = none := by
  rw [chk_more (by omega) (by rw [htake.2]; exact hs), hstT, Nat.zero_add]
  exact chk_done (by omega)
 refine ⟨L.take (stepAt L 0), L.drop (stepAt L 0), (List.take_append_drop _ _).symm, fun e => by rw [e] at hlen; simp at hlen; omega, htk, hdrop, ?_⟩
 by_cases hlow : by8 L 0 < 128
 ·left
  have h1 := hi.1.2 hlow
  have h1s : stepAt L 0 = 1 := by omega
  refine ⟨?_, by rw [← hc0]; exact hlow⟩
  rw [h1s, ← hL]; rfl
 ·right
  intro d hd
  obtain ⟨i, hi2, rfl⟩ := List.mem_iff_getElem.1 hd
  have hi3 : i < stepAt L 0 := by rw [← hlen]; exact hi2
  have hin2 : stepAt L 0 ≤ L.length := (Nat.zero_add (stepAt L 0)) ▸ hin
  have hiL : i < L.length := Nat.lt_of_lt_of_le hi3 hin2
  refine Int.le_trans ?_ (Int.le_of_eq ((by8_ci hiL).trans (congrArg ci (List.getElem_take (h := hi2)).symm)))
  clear hd hi2
  have hc : i = 0 ∨ i = 0 + 1 ∨ i = 0 + 2 ∨ i = 0 + 3 := by omega
  rcases hc with rfl | rfl | rfl | rfl
  ·omega
  all_goals
   rcases h4 with h4 | h4 | h4 | h4
   ·omega
   ·have := hi.2.1.1 h4; omega
   ·have := hi.2.2.1.1 h4; omega
   ·have := hi.2.2.2.1 h4; omega
theorem chk_behind {A R : List UInt8} (h : chk (A ++ R) 0 = none) (hA : chk A 0 = none) : chk R 0 = none := by
 rw [chk_join hA] at h
 cases hx : chk R 0 with
 | none => rfl
 | some x => rw [hx] at h; cases h
theorem chk_both {A R : List UInt8} (hA : chk A 0 = none) (hR : chk R 0 = none) : chk (A ++ R) 0 = none := by
 rw [chk_join hA, hR]; rfl
theorem chk_low {c : UInt8} (h : ci c < 128) : chk [c] 0 = none := chk_ascii [c] (fun d hd => by simp at hd; rw [hd]; exact h) _ 0 (Nat.le_refl _)
theorem chk_tail {c : UInt8} {r : List UInt8} (h : chk (c :: r) 0 = none) (hc : ci c < 128) : chk r 0 = none := chk_behind (A := [c]) h (chk_low hc)
theorem chk_nil : chk [] 0 = none := chk_done (by simp)
theorem txt_high (q : UInt8) (hq : ci q < 128) : ∀ (A R : List UInt8), (∀ d ∈ A, 128 ≤ ci d) → txt q (A ++ R) = (txt q R).map fun x => (A ++ x.1, A.length + x.2)
 | [], R, _ => by
  rw [List.nil_append]
  cases txt q R with
  | none => rfl
  | some x => simp
 | c :: r, R, h => by
  have hc := h c (by simp)
  have hne : ¬ c = q := fun e => by rw [e] at hc; omega
  have ho : oneT (c :: (r ++ R)) = some ([c], 1) := by unfold oneT; simp only; rw [if_neg (by omega), if_neg (by omega)]
  rw [List.cons_append, txt, if_neg hne, ho]
  simp only [Nat.sub_self, List.drop_zero]
  rw [txt_high q hq r R (fun d hd => h d (by simp [hd]))]
  cases txt q R with
  | none => rfl
  | some x => simp; omega
theorem hexN_right : ∀ (i : Nat) (R : List UInt8) (n x : Int), hexN i R n = some x → chk R 0 = none → chk (R.drop i) 0 = none
 | 0, R, n, x, _, h => by simpa using h
 | i + 1, [], n, x, h, _ => by cases h
 | i + 1, c :: r, n, x, h, hk => by
  rw [hexN] at h
  split at h
  ·cases h
  ·rename_i hc
   have hlow : ci c < 128 := by unfold hexI at hc; split at hc; omega; split at hc; omega; split at hc; omega; exact absurd rfl hc
   rw [List.drop_succ_cons]
   exact hexN_right i r _ x h (chk_tail hk hlow)
theorem esc_right {R o : List UInt8} {n : Nat} (hk : chk R 0 = none) (h : escT R = some (o, n)) : chk o 0 = none ∧ chk (R.drop n) 0 = none := by
 match R with
 | [] => cases h
 | d :: r =>
  unfold escT at h
  simp only at h
  have one : ∀ (e : UInt8), ci d < 128 → ci e < 128 → some ([e], 1) = some (o, n) → chk o 0 = none ∧ chk ((d :: r).drop n) 0 = none := by
   intro e hd he h
   injection h with h; injection h with h1 h2
   subst h1; subst h2
   exact ⟨chk_low he, chk_tail hk hd⟩
  split at h
  ·rename_i c1; exact one d (by omega) (by omega) h
  split at h
  ·rename_i c1; exact one 10 (by omega) (by decide) h
  split at h
  ·rename_i c1; exact one 13 (by omega) (by decide) h
  split at h
  ·rename_i c1; exact one 9 (by omega) (by decide) h
  split at h
  ·rename_i c1; exact one 0 (by omega) (by decide) h
  split at h
  ·rename_i c1
   cases hx : hexN 4 r 0 with
   | none => rw [hx] at h; cases h
   | some x =>
    rw [hx] at h
    simp only at h
    split at h
    ·cases h
    ·rename_i hs
     injection h with h; injection h with h1 h2
     subst h1; subst h2
     exact ⟨(put_right hs).1, hexN_right 4 r 0 x hx (chk_tail hk (by omega))⟩
  ·cases h
theorem txt_right (q : UInt8) (hq : ci q < 128) : ∀ (j : Nat) (R o : List UInt8) (m : Nat), R.length ≤ j → chk R 0 = none → txt q R = some (o, m) → chk o 0 = none
 | j, [], o, m, _, _, h => by rw [txt] at h; cases h
 | 0, c :: r, o, m, hj, _, _ => by simp at hj
 | j + 1, c :: r, o, m, hj, hk, h => by
  obtain ⟨A, R, e, hne, hA, hR, hc⟩ := first_sign hk
  have hl : (c :: r).length = A.length + R.length := by rw [e, List.length_append]
  have hA1 : 1 ≤ A.length := by cases A with | nil => exact absurd rfl hne | cons a b => simp
  rcases hc with ⟨rfl, hc⟩ | hc
  ·rw [txt] at h
   split at h
   ·injection h with h; injection h with h1 h2; subst h1; exact chk_nil
   ·cases ho : oneT (c :: r) with
    | none => rw [ho] at h; cases h
    | some x =>
     obtain ⟨o1, n⟩ := x
     rw [ho] at h
     simp only at h
     cases ht : txt q (r.drop (n - 1)) with
     | none => rw [ht] at h; cases h
     | some y =>
      obtain ⟨p, k⟩ := y
      rw [ht] at h
      injection h with h; injection h with h1 h2
      subst h1
      have hr := chk_tail hk hc
      have key : chk o1 0 = none ∧ chk (r.drop (n - 1)) 0 = none := by
       unfold oneT at ho
       simp only at ho
       split at ho
       ·cases he : escT r with
        | none => rw [he] at ho; cases ho
        | some z =>
         obtain ⟨o2, n2⟩ := z
         rw [he] at ho
         injection ho with ho; injection ho with h3 h4
         subst h3; subst h4
         exact esc_right hr he
       ·split at ho
        ·cases ho
        ·injection ho with ho; injection ho with h3 h4
         subst h3; subst h4
         exact ⟨chk_low hc, hr⟩
      exact chk_both key.1 (txt_right q hq j (r.drop (n - 1)) p k (by rw [List.length_drop]; simp at hj; omega) key.2 ht)
  ·rw [e, txt_high q hq A R hc] at h
   cases ht : txt q R with
   | none => rw [ht] at h; cases h
   | some y =>
    obtain ⟨p, k⟩ := y
    rw [ht] at h
    simp only [Option.map_some, Option.some.injEq, Prod.mk.injEq] at h
    obtain ⟨rfl, _⟩ := h
    exact chk_both hA (txt_right q hq j R p k (by simp at hj hl; omega) hR ht)
end Go.Proofs.YtnkfodelgpidkaaGreatDoor
namespace Go.Proofs.YtnkfodelgpidkaaGreatDoor
/- Decimal digits. -/
/- Which tokens there are. -/
def Gd (t : Tk) : Prop := (t.kind = 1 ∧ nameB t.text = true ∧ t.bits = 0) ∨ (t.kind = 2 ∧ wordB t.text = true ∧ t.bits = 0) ∨
 (t.kind = 3 ∧ t.text = [] ∧ ∃ u : Nat, u ≤ 9007199254740992 ∧ t.bits = ofI u) ∨ (t.kind = 4 ∧ chk t.text 0 = none ∧ t.bits = 0) ∨ (t.kind = 5 ∧ sgnB t.text = true ∧ t.bits = 0)
theorem Gd.at {t : Tk} (h : Gd t) (a : Int) : Gd { t with pos := a } := h
theorem digs_range {base : Int} (hb : 0 ≤ base) : ∀ (l : List UInt8) (n x : Int), digs base l n = some x → 0 ≤ n → n ≤ 9007199254740992 → 0 ≤ x ∧ x ≤ 9007199254740992
 | [], n, x, h, h0, h1 => by rw [digs] at h; injection h with h; omega
 | c :: r, n, x, h, h0, h1 => by
  rw [digs] at h
  have := hexI_range (ci c)
  split at h
  ·cases h
  ·split at h
   ·cases h
   ·have h2 := Int.mul_nonneg h0 hb
    exact digs_range hb r _ x h (by omega) (by omega)
theorem num_range {P : List UInt8} {x : Int} (h : numO P = some x) : 0 ≤ x ∧ x ≤ 9007199254740992 := by
 unfold numO at h
 split at h
 ·injection h with h; omega
 ·split at h
  ·split at h
   ·cases h
   ·exact digs_range (by decide) _ _ _ h (by decide) (by decide)
  ·split at h
   ·cases h
   ·exact digs_range (by decide) _ _ _ h (by decide) (by decide)
theorem tok_good {c : UInt8} {r : List UInt8} {t : Tk} {n : Nat} (hk : chk (c :: r) 0 = none) (h : tokO (c :: r) = some (t, n)) : Gd t ∧ t.pos = 0 := by
 have hlow := tok_head h
 unfold tokO at h
 simp only at h
 split at h
 ·cases hn : numO ((c :: r).take (nmL (c :: r))) with
  | none => rw [hn] at h; cases h
  | some x =>
   rw [hn] at h
   injection h with h; injection h with h _
   subst h
   have := num_range hn
   exact ⟨.inr (.inr (.inl ⟨rfl, rfl, x.toNat, by omega, by show ofI x = _; rw [Int.toNat_of_nonneg this.1]⟩)), rfl⟩
 ·rename_i hdig
  split at h
  ·rename_i hnp
   injection h with h; injection h with h _
   subst h
   refine ⟨?_, rfl⟩
   have hpos := nm_pos (r := r) hnp
   have hlet : letB (ci c) = true := by
    unfold digB at hdig; unfold npB at hnp; unfold letB; simp only [decide_eq_true_eq] at hdig hnp ⊢; omega
   have hcut := nm_cut (c :: r) (nmL (c :: r)) (Nat.le_refl _)
   have hle := nmL_le (c :: r)
   obtain ⟨k, hkk⟩ : ∃ k, nmL (c :: r) = k + 1 := ⟨nmL (c :: r) - 1, by omega⟩
   cases hw : wordB ((c :: r).take (nmL (c :: r)))
   ·refine .inl ⟨rfl, ?_, rfl⟩
    show nameB ((c :: r).take (nmL (c :: r))) = true
    have hlen : ((c :: r).take (nmL (c :: r))).length = nmL (c :: r) := by rw [List.length_take]; omega
    have hnn : nameN ((c :: r).take (nmL (c :: r))) = ((c :: r).take (nmL (c :: r))).length := by
     rw [hlen]
     conv => rhs; rw [← hcut]
     rw [hkk, List.take_succ_cons]
     unfold nameN; simp only [hlet, if_true]
    unfold nameB
    rw [hw, hnn, hkk, List.take_succ_cons]; simp
   ·exact .inr (.inl ⟨rfl, hw, rfl⟩)
  ·rename_i hnp
   split at h
   ·rename_i hq
    cases hx : txt c r with
    | none => rw [hx] at h; cases h
    | some x =>
     obtain ⟨o, m⟩ := x
     rw [hx] at h
     injection h with h; injection h with h _
     subst h
     exact ⟨.inr (.inr (.inr (.inl ⟨rfl, txt_right c hlow _ r o m (Nat.le_refl _) (chk_tail hk hlow) hx, rfl⟩))), rfl⟩
   ·split at h
    ·cases h
    ·rename_i hs
     injection h with h; injection h with h _
     subst h
     exact ⟨.inr (.inr (.inr (.inr ⟨rfl, sgn_in _ 4 hs, rfl⟩))), rfl⟩
/- What is written of one. -/
def printL (t : Tk) : List UInt8 :=
 if t.kind = 1 ∨ t.kind = 2 ∨ t.kind = 5 then t.text else if t.kind = 3 then (Bt.textI t.bits).data.toList else if t.kind = 4 then quoteL t.text else []
/- A blank behind. -/
/- What may stand between. -/
def Gp (g : List UInt8) : Prop := (∃ b r, g = b :: r ∧ (b = 32 ∨ b = 10)) ∧ (∀ c ∈ g, ci c < 128) ∧ ∀ J, gap J = (0, true) → gap (g ++ J) = (g.length, true)
/- All of them, one behind the other. -/
def writL (l : List (Tk × List UInt8)) : List UInt8 := l.flatMap fun x => printL x.1 ++ x.2
def posed : List (Tk × List UInt8) → Int → List Tk
 | [], _ => []
 | x :: r, a => { x.1 with pos := a } :: posed r (a + (printL x.1).length + x.2.length)
def deepOK : List Tk → Int → Prop
 | [], _ => True
 | t :: r, op => tooDeep t op = false ∧ deepOK r (opA t op)
theorem lexB_good (L : List UInt8) (hk : chk L 0 = none) : ∀ (j p : Nat) (a op : Int) (l : List Tk), L.length - p ≤ j → lexB (L.drop p) a op = .ok l → (∀ t ∈ l, Gd t) ∧ deepOK l op
 | j, p, a, op, l, hj, h => by
  cases hd : L.drop p with
  | nil =>
   rw [hd, lexB] at h
   injection h with h; subst h
   exact ⟨by simp, trivial⟩
  | cons c r =>
   have hp : p < L.length := by
    rcases Nat.lt_or_ge p L.length with h1 | h1
    ·exact h1
    ·rw [List.drop_eq_nil_of_le h1] at hd; cases hd
   match j, hj with
   | 0, hj => omega
   | j + 1, hj =>
    rw [hd, lexB_cons] at h
    cases ht : tokO (c :: r) with
    | none => rw [ht] at h; cases h
    | some x =>
     obtain ⟨t, n⟩ := x
     rw [ht] at h
     simp only at h
     cases hdp : tooDeep t op with
     | true => rw [hdp] at h; cases h
     | false =>
      rw [hdp] at h
      simp only [Bool.false_eq_true, if_false] at h
      have hlow := tok_head ht
      have hLp : L[p] = c := by
       have := List.drop_eq_getElem_cons hp
       rw [hd] at this; injection this with h1 _; exact h1.symm
      have hck : chk (c :: r) 0 = none := by
       rw [← hd]; exact chk_drop (by omega) (by rw [by8_ci hp, hLp]; exact hlow) hk
      have hgd := tok_good hck ht
      have hn := tokO_size ht
      have er : r.drop (n - 1) = L.drop (p + n) := by
       have : (c :: r).drop n = r.drop (n - 1) := by
        obtain ⟨k, rfl⟩ : ∃ k, n = k + 1 := ⟨n - 1, by omega⟩
        simp
       rw [← this, ← hd, List.drop_drop]
      rw [er] at h
      unfold lexA at h
      cases hg : gap (L.drop (p + n)) with
      | mk k f =>
       rw [hg] at h
       cases f with
       | false => cases h
       | true =>
        simp only [List.drop_drop] at h
        cases hx : lexB (L.drop (p + n + k)) (a + n + k) (opA t op) with
        | error e => rw [hx] at h; cases h
        | ok l2 =>
         rw [hx] at h
         injection h with h
         subst h
         obtain ⟨i1, i2⟩ := lexB_good L hk j (p + n + k) _ _ l2 (by omega) hx
         refine ⟨fun u hu => ?_, hdp, i2⟩
         rcases List.mem_cons.1 hu with rfl | hu
         ·exact hgd.1.at a
         ·exact i1 u hu
theorem lexL_parts {L : List UInt8} {l : List Tk} (h : lexL L = .ok l) : chk L 0 = none ∧ (∀ t ∈ l, Gd t) ∧ deepOK l 0 := by
 unfold lexL at h
 split at h
 ·cases h
 ·cases hk : chk L 0 with
  | some k => rw [hk] at h; cases h
  | none =>
   rw [hk] at h
   simp only at h
   refine ⟨rfl, ?_⟩
   unfold lexA at h
   cases hg : gap L with
   | mk k f =>
    rw [hg] at h
    cases f with
    | false => cases h
    | true => exact lexB_good L hk _ k _ 0 l (Nat.le_refl _) h
/- The gaps. -/
/- A text alone. -/
end Go.Proofs.YtnkfodelgpidkaaGreatDoor
