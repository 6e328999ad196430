/- Two equal lists are alike. Name: may a text be somebody's name? The document's reading of names and numbers. The chapter's example. LexTokens, LexLong: the program against the document's answer. A name, or a word, alone. Two sources, a line feed between: plain lemmas. Two sources, a line feed between: their tokens. A piece of a source, from one token's place to the next one's: plain lemmas. The pieces of a source: right texts, one token each. A text between quotes, and what is written of a token: plain words, and that it is read as it was; no program in sight. What is written of tokens, and that it is read as they were: plain lemmas. -/
import Derived.Test.YtnkfodelgpidkaaGreatDoorML3
import Derived.Laws.OwnMore
import Derived.Deep.AppendLies
import Derived.Test.YtnkfodelgpidkaaGreatDoorML1
import Derived.Test.YtnkfodelgpidkaaGreatDoorMU
import Derived.Test.YtnkfodelgpidkaaGreatDoorMB2
namespace Go.Proofs.YtnkfodelgpidkaaGreatDoor
open Go.RowKit
set_option linter.unusedVariables false

theorem cellsOf_len (l : List Tk) : (cellsOf l).length = l.length * 4 := by
  induction l with
  | nil => rfl
  | cons t r ih => simp only [cellsOf, List.flatMap_cons, List.length_append, List.length_cons] at ih ⊢; rw [ih]; simp [tkC]; omega
theorem cellsOf_at (l : List Tk) : ∀ (k : Nat) (h : k < l.length),
    (cellsOf l)[k * 4]? = some (.int .i64 l[k].kind) ∧ (cellsOf l)[k * 4 + 1]? = some (.int .i64 l[k].pos) ∧ (cellsOf l)[k * 4 + 2]? = some (.string (bs l[k].text)) ∧ (cellsOf l)[k * 4 + 3]? = some (.int .u64 l[k].bits) := by
  induction l with
  | nil => intro k h; simp at h
  | cons t r ih =>
    intro k h
    rcases k with _ | k
    · simp [cellsOf, tkC]
    · have := ih k (by simpa using h)
      have e : cellsOf (t :: r) = .int .i64 t.kind :: .int .i64 t.pos :: .string (bs t.text) :: .int .u64 t.bits :: cellsOf r := rfl
      rw [e, show (k + 1) * 4 = k * 4 + 1 + 1 + 1 + 1 by omega]
      simpa using this
/-- The cells of a list's token. -/
theorem tok_at {w : World} {B e g cap : Nat} {l : List Tk} (h : w.ownsRow B e 4 (.slice (some ⟨g, 0, none⟩) l.length cap) l.length (cellsOf l)) (k : Nat) (hk : k < l.length) :
    w.cell? ⟨g, k * 4, none⟩ = some (.int .i64 l[k].kind) ∧ w.cell? ⟨g, k * 4 + 1, none⟩ = some (.int .i64 l[k].pos) ∧ w.cell? ⟨g, k * 4 + 2, none⟩ = some (.string (bs l[k].text)) ∧ w.cell? ⟨g, k * 4 + 3, none⟩ = some (.int .u64 l[k].bits) := by
  obtain ⟨a, b, c, d⟩ := cellsOf_at l k hk
  exact ⟨(h.cellAt _ (by omega)).trans a, (h.cellAt _ (by omega)).trans b, (h.cellAt _ (by omega)).trans c, (h.cellAt _ (by omega)).trans d⟩

theorem own_len {w : World} {B e size n : Nat} {v : Value} {xs : List Value} (h : w.ownsRow B e size v n xs) : n ≤ maxLen := by
  rcases h.2 with ⟨_, h0⟩ | ⟨g, cap, cur, hv, hb, hg, h1, h2, _⟩
  · omega
  · omega

end Go.Proofs.YtnkfodelgpidkaaGreatDoor
namespace Go.Proofs.YtnkfodelgpidkaaGreatDoor
open Go.RowKit
set_option linter.unusedVariables false

theorem name_dig {s : ByteArray} (h0 : 0 < s.size) (hd : digB (s[0].toNat : Int) = true) : nameB s.data.toList = false := by
  have hL := drop_cons s 0 h0
  rw [List.drop_zero] at hL
  have hl : letB (s[0].toNat : Int) = false := by
    unfold digB at hd; unfold letB; simp only [decide_eq_true_eq] at hd; rw [decide_eq_false_iff_not]; omega
  have : nameN s.data.toList = 0 := by rw [hL]; unfold nameN ci; simp [hl]
  unfold nameB; rw [this, hL]; simp
theorem name_less {s : ByteArray} (h : nmL s.data.toList < s.size) : nameB s.data.toList = false := by
  have : nameN s.data.toList ≤ nmL s.data.toList := by unfold nameN; split; exact Nat.zero_le _; split; exact Nat.le_refl _; exact Nat.zero_le _
  unfold nameB
  rw [show (nameN s.data.toList == s.data.toList.length) = false by rw [beq_eq_false_iff_ne, list_size']; omega]; simp
theorem name_full {s : ByteArray} (h0 : 0 < s.size) (hd : digB (s[0].toNat : Int) = false) (h : nmL s.data.toList = s.size) : nameB s.data.toList = !wordB s.data.toList := by
  have hL := drop_cons s 0 h0
  rw [List.drop_zero] at hL
  have hnp : npB (s[0].toNat : Int) = true := by
    cases hn : npB (s[0].toNat : Int)
    · have e : nmL s.data.toList = 0 := by rw [hL, nmL]; unfold ci; rw [hn]; rfl
      omega
    · rfl
  have hl : letB (s[0].toNat : Int) = true := by
    unfold digB at hd; unfold npB at hnp; unfold letB; simp only [decide_eq_true_eq, decide_eq_false_iff_not] at hd hnp ⊢; omega
  have e : nameN s.data.toList = s.data.toList.length := by
    have : nameN s.data.toList = nmL s.data.toList := by
      conv => lhs; rw [hL]
      unfold nameN ci; simp only [hl, if_true]; rw [← hL]
    rw [this, h, list_size']
  have e2 : s.data.toList.isEmpty = false := by rw [hL]; rfl
  unfold nameB
  rw [e, e2]; simp

set_option maxRecDepth 100000 in
set_option maxHeartbeats 4000000 in
theorem lname_any (s : ByteArray) (hs : s.size ≤ 1000000) (w : World) :
    Calls Tryz.prog 18 #[.string s] w fun e w' => e = .returned (.bool (nameB s.data.toList)) ∧ w = w' := by
  by_cases h0 : s.size = 0
  · have e : s = ⟨#[]⟩ := by
      have : s.data.toList = [] := List.eq_nil_of_length_eq_zero (by rw [list_size', h0])
      exact bs_eq this
    subst e
    go_enter Tryz.func18, Tryz.ntmps18
    go_wp2_with fail
    go_ret
    exact ⟨rfl, rfl⟩
  · have h1 : 0 < s.size := by omega
    have hne : (s.toList == []) = false := by rw [list_eq_iff, decide_eq_false_iff_not]; intro e; have := list_size' s; rw [e] at this; simp at this; omega
    have D := Lib.hid (fun w => isDigit_any (s[0].toNat : Int) w)
    have ND := Lib.hid (@name_dig s h1)
    have NF := Lib.hid (@name_full s h1)
    have NL := Lib.hid (@name_less s)
    cases hd : digB (s[0].toNat : Int)
    · rw [hd] at D
      have NF2 := Lib.hid (NF.out hd)
      have W := Lib.hid (fun w => word_any s w)
      generalize wordB s.data.toList = wo at *
      generalize nameB s.data.toList = G at *
      clear hd
      go_enter Tryz.func18, Tryz.ntmps18
      go_wp2_with fail
      refine (D.out _).mono ?_; rintro e w' ⟨rfl, rfl⟩
      go_wp2_with fail
      go_loop [13] (fun i => ∃ k : Nat, i = .int .i64 (k : Int) ∧ k ≤ s.size ∧ Hid (nmL s.data.toList = k + nmL (s.data.toList.drop k))) (fun i => s.size - (intOf i).toNat)
      case atStart => exact ⟨0, rfl, by omega, by show _ = _; simp⟩
      case round =>
        obtain ⟨k, rfl, hk, HC⟩ := hrel
        by_cases hlt : k < s.size
        · have C := Lib.hid (fun w => isNamePart_any (s[k].toNat : Int) w)
          have Y := Lib.hid (@nm_yes s k hlt)
          have N := Lib.hid (@nm_no s k hlt)
          have hki : (k : Int) < (s.size : Int) := by omega
          cases hn : npB (s[k].toNat : Int)
          · rw [hn] at C
            have e : G = false := NL.out (by have := HC.out; rw [N.out hn] at this; omega)
            subst e
            clear hn
            go_wp2_with fail
            refine (C.out _).mono ?_; rintro e w' ⟨rfl, rfl⟩
            go_wp2_with fail
            go_ret
            exact ⟨rfl, rfl⟩
          · rw [hn] at C
            have E := Lib.hid (show nmL s.data.toList = (k + 1) + nmL (s.data.toList.drop (k + 1)) by have := HC.out; rw [Y.out hn] at this; omega)
            clear hn
            go_wp2_with fail
            refine (C.out _).mono ?_; rintro e w' ⟨rfl, rfl⟩
            go_wp2_with fail
            go_round
            case rel => exact ⟨k + 1, by go_num, by omega, E.out⟩
            case measure => simp [intOf]; omega
        · have hki : ¬ (k : Int) < (s.size : Int) := by omega
          have e : G = !wo := NF2.out (by have := HC.out; rw [nm_end (by omega)] at this; omega)
          subst e
          go_wp2_with fail
          refine (W.out _).mono ?_; rintro e w' ⟨rfl, rfl⟩
          go_wp2_with fail
          go_ret
          exact ⟨rfl, rfl⟩
    · rw [hd] at D
      have E : Hid (nameB s.data.toList = false) := ND.out hd
      generalize nameB s.data.toList = G at *
      have e := E.out
      subst e
      clear hd
      go_enter Tryz.func18, Tryz.ntmps18
      go_wp2_with fail
      refine (D.out _).mono ?_; rintro e w' ⟨rfl, rfl⟩
      go_wp2_with fail
      go_ret
      exact ⟨rfl, rfl⟩
end Go.Proofs.YtnkfodelgpidkaaGreatDoor
namespace Go.Proofs.YtnkfodelgpidkaaGreatDoor
open Go.RowKit
set_option linter.unusedVariables false

theorem np_parts (c : Int) : npB c = (letB c || digB c) := by
  unfold npB letB digB; rw [Bool.eq_iff_iff]; simp; omega
theorem hex_np {c : Int} (h : ¬ hexI c = 16) : npB c = true := by
  unfold hexI at h; unfold npB
  simp only [decide_eq_true_eq]
  split at h
  · omega
  · split at h
    · omega
    · split at h
      · omega
      · exact absurd rfl h
theorem nm_drop : ∀ (R : List UInt8) (n : Nat), n ≤ nmL R → nmL R = n + nmL (R.drop n)
  | R, 0, _ => by simp
  | [], n + 1, h => by simp [nmL] at h
  | c :: r, n + 1, h => by
    rw [nmL] at h ⊢
    split at h
    · rename_i hc
      rw [if_pos hc, nm_drop r n (by omega)]
      simp; omega
    · omega
/-- Of the name's part P of s: what follows its place n. -/
theorem part_cons {s : ByteArray} {m n : Nat} (hl : n < s.size) (hm : m ≤ s.size) (h : n < m) : (s.data.toList.take m).drop n = s[n] :: (s.data.toList.take m).drop (n + 1) := by
  have hl2 : n < (s.data.toList.take m).length := by rw [List.length_take, list_size']; omega
  rw [List.drop_eq_getElem_cons hl2, List.getElem_take]; rfl
theorem part_done {s : ByteArray} {m n : Nat} (h : m ≤ n) : (s.data.toList.take m).drop n = [] := List.drop_eq_nil_of_le (by rw [List.length_take]; omega)
theorem pdigs_bad {base : Int} {s : ByteArray} {m n : Nat} (hl : n < s.size) (hm : m ≤ s.size) (h : n < m) {x : Int} (hb : base ≤ hexI (s[n].toNat : Int)) : digs base ((s.data.toList.take m).drop n) x = none := by
  rw [part_cons hl hm h, digs]; unfold ci; rw [if_pos hb]
theorem pdigs_big {base : Int} {s : ByteArray} {m n : Nat} (hl : n < s.size) (hm : m ≤ s.size) (h : n < m) {x : Int} (hb : ¬ base ≤ hexI (s[n].toNat : Int)) (hn : 9007199254740992 < x * base + hexI (s[n].toNat : Int)) : digs base ((s.data.toList.take m).drop n) x = none := by
  rw [part_cons hl hm h, digs]; unfold ci; rw [if_neg hb, if_pos hn]
theorem pdigs_more {base : Int} {s : ByteArray} {m n : Nat} (hl : n < s.size) (hm : m ≤ s.size) (h : n < m) {x : Int} (hb : ¬ base ≤ hexI (s[n].toNat : Int)) (hn : ¬ 9007199254740992 < x * base + hexI (s[n].toNat : Int)) : digs base ((s.data.toList.take m).drop n) x = digs base ((s.data.toList.take m).drop (n + 1)) (x * base + hexI (s[n].toNat : Int)) := by
  rw [part_cons hl hm h, digs]; unfold ci; rw [if_neg hb, if_neg hn]

set_option maxRecDepth 100000 in
set_option maxHeartbeats 2000000 in
theorem rname_any (s : ByteArray) (hs : s.size ≤ 1000000) (w : World) :
    Calls Tryz.prog 91 #[.string s] w fun e w' => e = .returned (.int .i64 (nameN s.data.toList : Nat)) ∧ w = w' := by
  obtain ⟨z, hz⟩ : ∃ z, z = nameN s.data.toList := ⟨_, rfl⟩
  rw [← hz]
  have HZ := Lib.hid hz
  have hzl : z ≤ s.size := by
    rw [hz]; unfold nameN; split
    · omega
    · split
      · have := nmL_le s.data.toList; rw [list_size'] at this; simp_all
      · omega
  clear hz
  go_enter Tryz.func91, Tryz.ntmps91
  go_wp2_with fail
  go_loop [3] (fun nn => ∃ n : Nat, nn = .int .i64 (n : Int) ∧ n ≤ s.size ∧ Hid (z = if n = 0 then nameN s.data.toList else n + nmL (s.data.toList.drop n))) (fun nn => s.size - (intOf nn).toNat)
  case atStart => exact ⟨0, rfl, by omega, by show _ = _; rw [if_pos rfl]; exact HZ.out⟩
  case round =>
    obtain ⟨n, rfl, hn, HC⟩ := hrel
    by_cases hlt : n < s.size
    · have L := Lib.hid (fun w => rLetter_any (s[n].toNat : Int) w)
      have D := Lib.hid (fun w => rDigit_any (s[n].toNat : Int) w)
      have NY := Lib.hid (@nm_yes s n hlt)
      have NN := Lib.hid (@nm_no s n hlt)
      have NP := Lib.hid (np_parts (s[n].toNat : Int))
      have N0 : Hid (n = 0 → nameN s.data.toList = if letB (s[n].toNat : Int) then nmL (s.data.toList.drop n) else 0) := by
        intro h; subst h
        have := drop_cons s 0 hlt
        rw [List.drop_zero] at this
        show (match s.data.toList with | [] => 0 | c :: _ => if letB (ci c) then nmL s.data.toList else 0) = _
        rw [List.drop_zero, this]; rfl
      cases hl : letB (s[n].toNat : Int)
      · rw [hl] at L NP N0
        by_cases h0 : n = 0
        · have E := Lib.hid (HC.out.trans (by rw [if_pos h0, N0.out h0, if_neg (by decide)]))
          have hn0 : (n : Int) = 0 := by omega
          have hd0 : decide (0 < n) = false := by rw [decide_eq_false_iff_not]; omega
          clear hl
          obtain rfl : z = 0 := E.out
          subst h0
          go_wp2_with (go_at_call 164; refine (L.out _).mono ?_; rintro e w' ⟨rfl, rfl⟩)
          go_ret
          exact ⟨rfl, rfl⟩
        · have hn1 : 0 < n := by omega
          cases hd : digB (s[n].toNat : Int)
          · rw [hd] at D NP
            have E := Lib.hid (HC.out.trans (by rw [if_neg h0, NN.out NP.out]))
            clear hl hd h0
            go_wp2_with (first | (go_at_call 164; refine (L.out _).mono ?_; rintro e w' ⟨rfl, rfl⟩) | (go_at_call 93; refine (D.out _).mono ?_; rintro e w' ⟨rfl, rfl⟩))
            go_ret
            exact ⟨ret_int (by rw [E.out]; rfl), rfl⟩
          · rw [hd] at D NP
            have E := Lib.hid (HC.out.trans (by rw [if_neg h0, NY.out NP.out]))
            clear hl hd h0
            go_wp2_with (first | (go_at_call 164; refine (L.out _).mono ?_; rintro e w' ⟨rfl, rfl⟩) | (go_at_call 93; refine (D.out _).mono ?_; rintro e w' ⟨rfl, rfl⟩))
            go_round
            case rel => exact ⟨n + 1, by go_num, by omega, by show _ = _; rw [if_neg (by omega), E.out]; omega⟩
            case measure => simp [intOf]; omega
      · rw [hl] at L NP N0
        have E : Hid (z = if n + 1 = 0 then nameN s.data.toList else n + 1 + nmL (s.data.toList.drop (n + 1))) := by
          show _ = _
          rw [if_neg (by omega), HC.out]
          have hy := NY.out (NP.out.trans rfl)
          by_cases h0 : n = 0
          · rw [if_pos h0, N0.out h0, if_pos rfl, hy]; omega
          · rw [if_neg h0, hy]; omega
        clear hl
        go_wp2_with (go_at_call 164; refine (L.out _).mono ?_; rintro e w' ⟨rfl, rfl⟩)
        go_round
        case rel => exact ⟨n + 1, by go_num, by omega, E.out⟩
        case measure => simp [intOf]; omega
    · have E : Hid (z = n) := by
        show _ = _
        rw [HC.out]
        split
        · rename_i h0
          have hz : s.data.toList = [] := List.eq_nil_of_length_eq_zero (by rw [list_size']; omega)
          rw [hz, h0]; rfl
        · rw [nm_end (by omega)]; rfl
      have hd : decide (n < s.size) = false := by rw [decide_eq_false_iff_not]; exact hlt
      go_wp2_with fail
      go_ret
      exact ⟨ret_int (by rw [E.out]), rfl⟩
end Go.Proofs.YtnkfodelgpidkaaGreatDoor
namespace Go.Proofs.YtnkfodelgpidkaaGreatDoor
open Go.RowKit
set_option linter.unusedVariables false
def exT : List Tk := [⟨1, 0, [97], 0⟩, ⟨5, 1, [43, 43], 0⟩, ⟨5, 3, [43], 0⟩, ⟨1, 4, [98], 0⟩]
theorem ex_lex : lexL [97, 43, 43, 43, 98] = .ok exT := by kernel_rfl
theorem ex_name : nameB [97] = true := by decide +kernel
theorem ex_word : wordB [105, 102] = true := by decide +kernel

end Go.Proofs.YtnkfodelgpidkaaGreatDoor
namespace Go.Proofs.YtnkfodelgpidkaaGreatDoor
open Go.RowKit
set_option linter.unusedVariables false

theorem fp_below {w w' : World} {x : Except (Int × Int) (List Tk)} {e : Ending} (h : FacePost w x e w') : Below w.heap.size w w' := by
  rcases x with ⟨a, c⟩ | l
  · exact h.2
  · obtain ⟨v, _, _, h⟩ := h; exact h
theorem fp_form {w w' : World} {x : Except (Int × Int) (List Tk)} {e : Ending} (h : FacePost w x e w') : ∃ v a c, e = .returned (.tuple #[v, .int .i64 a, .int .i64 c]) := by
  rcases x with ⟨a, c⟩ | l
  · exact ⟨_, _, _, h.1⟩
  · obtain ⟨v, h, _⟩ := h; exact ⟨_, _, _, h⟩
theorem cut_size (s : ByteArray) (n : Int) : (s.extract 0 (min (s.size : Int) n).toNat).size ≤ n.toNat := by rw [ByteArray.size_extract]; omega

theorem MLw.open {w : World} (h : w.ShapedOpen Tryz.prog) : MLw w := by
  obtain ⟨m, hm⟩ := Tryz.maxLen_shaped w h
  refine ⟨⟨m, hm⟩, ?_⟩
  rcases Nat.lt_or_ge 3 w.heap.size with hl | hl
  · exact hl
  · have : w.heap[3]? = none := Array.getElem?_eq_none hl
    simp [World.cell?, this] at hm

end Go.Proofs.YtnkfodelgpidkaaGreatDoor
namespace Go.Proofs.YtnkfodelgpidkaaGreatDoor
set_option linter.unusedVariables false

theorem np_small {c : UInt8} (h : npB (ci c) = true) : ci c < 128 := by unfold npB at h; simp only [decide_eq_true_eq] at h; omega
theorem nm_full : ∀ {L : List UInt8}, nmL L = L.length → ∀ c ∈ L, npB (ci c) = true
  | [], _, c, hc => by simp at hc
  | d :: r, h, c, hc => by
    rw [nmL] at h
    cases hd : npB (ci d)
    · rw [hd] at h; simp at h
    · rw [hd] at h
      rcases List.mem_cons.1 hc with rfl | hc
      · exact hd
      · exact nm_full (by simpa using h) c hc
theorem chk_ascii (L : List UInt8) (h : ∀ c ∈ L, ci c < 128) : ∀ (j a : Nat), L.length - a ≤ j → chk L a = none
  | 0, a, hj => chk_done (by omega)
  | j + 1, a, hj => by
    by_cases ha : a < L.length
    · have hb : by8 L a = ci L[a] := by unfold by8 ci; simp [List.getElem?_eq_getElem ha]
      have h1 := h L[a] (List.getElem_mem ha)
      have h0 := ci_lo L[a]
      have h4 : ∀ d e f, siz4 (ci L[a]) d e f = 1 := fun d e f => by unfold siz4; rw [if_pos h1]
      have hs : ¬ signAt L a < 0 := by unfold signAt sgn4; rw [hb, h4]; simp; omega
      have hp : stepAt L a = 1 := by unfold stepAt sizeAt siz4; rw [hb, if_pos h1]; rfl
      rw [chk_more ha hs, hp]
      exact chk_ascii L h j (a + 1) (by omega)
    · exact chk_done (by omega)
theorem lex_alone {L : List UInt8} (h0 : L ≠ []) (hn : nameN L = L.length) (hl : L.length ≤ 4096) : lexL L = .ok [⟨if wordB L then 2 else 1, 0, L, 0⟩] := by
  match L, h0 with
  | c :: r, _ =>
    have hlet : letB (ci c) = true := by
      unfold nameN at hn; simp only at hn
      cases hx : letB (ci c)
      · rw [hx] at hn; simp at hn
      · rfl
    have hnm : nmL (c :: r) = (c :: r).length := by unfold nameN at hn; simp only [hlet, if_true] at hn; exact hn
    have hall := nm_full hnm
    have hck : chk (c :: r) 0 = none := chk_ascii _ (fun d hd => np_small (hall d hd)) _ 0 (Nat.le_refl _)
    have hnp : npB (ci c) = true := hall c (by simp)
    have hdg : digB (ci c) = false := by
      unfold letB at hlet; unfold digB; simp only [decide_eq_true_eq] at hlet; rw [decide_eq_false_iff_not]; omega
    have hbl : blankB c = false := by
      unfold letB at hlet; simp only [decide_eq_true_eq] at hlet
      cases hb : blankB c
      · rfl
      · unfold blankB at hb
        simp only [Bool.or_eq_true, beq_iff_eq] at hb
        rcases hb with ((h | h) | h) | h <;> (rw [h] at hlet; exact absurd hlet (by decide))
    have hsl : ¬ c = 47 := by intro h; rw [h] at hlet; exact absurd hlet (by decide)
    have hg : gap (c :: r) = (0, true) := by rw [gap, hbl, rem_other hsl]; rfl
    have htk : tokO (c :: r) = some (⟨if wordB (c :: r) then 2 else 1, 0, c :: r, 0⟩, (c :: r).length) := by
      unfold tokO; simp only [hdg, hnp, hnm, List.take_length, if_true]; rfl
    have hgn : gap [] = (0, true) := by rw [gap]
    unfold lexL lexA
    rw [if_neg (by omega), hck, hg]
    simp only [List.drop_zero]
    rw [lexB_cons, htk]
    have hd : tooDeep ⟨if wordB (c :: r) then 2 else 1, 0, c :: r, 0⟩ 0 = false := by unfold tooDeep; cases wordB (c :: r) <;> rfl
    simp only [hd]
    have he : r.drop ((c :: r).length - 1) = [] := by simp
    rw [he]
    unfold lexA
    rw [hgn]
    simp [lexB, consT]
theorem words_names : ∀ P ∈ words, nameN P = P.length ∧ P ≠ [] := by decide +kernel
theorem lex_word {L : List UInt8} (h : wordB L = true) (hl : L.length ≤ 4096) : lexL L = .ok [⟨2, 0, L, 0⟩] := by
  obtain ⟨h1, h2⟩ := words_names L (by unfold wordB at h; simpa using h)
  rw [lex_alone h2 h1 hl, h]; rfl
theorem name_parts {L : List UInt8} (h : nameB L = true) : L ≠ [] ∧ nameN L = L.length ∧ wordB L = false := by
  unfold nameB at h
  simp only [Bool.and_eq_true, Bool.not_eq_true', beq_iff_eq] at h
  refine ⟨?_, h.1.2, h.2⟩
  intro e; rw [e] at h; simp at h
theorem lex_name {L : List UInt8} (h : nameB L = true) (hl : L.length ≤ 4096) : lexL L = .ok [⟨1, 0, L, 0⟩] := by
  obtain ⟨h1, h2, h3⟩ := name_parts h
  rw [lex_alone h1 h2 hl, h3]; rfl
theorem name_word (L : List UInt8) : ¬ (nameB L = true ∧ wordB L = true) := by
  intro ⟨h1, h2⟩; rw [(name_parts h1).2.2] at h2; cases h2
/-- What is alone one token of these is a name, or a word. -/
theorem alone_back {L : List UInt8} {k b : Int} (h : lexL L = .ok [⟨k, 0, L, b⟩]) (hk : k = 1 ∨ k = 2) : L ≠ [] ∧ nameN L = L.length ∧ wordB L = decide (k = 2) := by
  unfold lexL at h
  split at h
  · cases h
  · split at h
    · cases h
    · unfold lexA at h
      split at h
      · cases h
      · rename_i n hg
        cases hd : L.drop n with
        | nil => rw [hd, lexB] at h; cases h
        | cons c r =>
          rw [hd, lexB_cons] at h
          split at h
          · cases h
          · rename_i t m ht
            split at h
            · cases h
            · cases hx : lexA (r.drop (m - 1)) (0 + (n : Int) + m) (opA t 0) with
              | error e => rw [hx] at h; cases h
              | ok l =>
                rw [hx] at h
                simp only [consT, Except.ok.injEq, List.cons.injEq, Tk.mk.injEq] at h
                obtain ⟨⟨e1, e2, e3, e4⟩, _⟩ := h
                have hn0 : n = 0 := by omega
                subst hn0
                rw [List.drop_zero] at hd
                subst hd
                unfold tokO at ht
                simp only at ht
                split at ht
                · split at ht
                  · cases ht
                  · injection ht with ht; injection ht with ht _; subst ht; simp at e1; omega
                · rename_i hdg
                  split at ht
                  · rename_i hnp
                    injection ht with ht; injection ht with ht _; subst ht
                    simp only at e1 e3
                    have hlen : nmL (c :: r) = (c :: r).length := by
                      have := congrArg List.length e3
                      rw [List.length_take] at this
                      have := nmL_le (c :: r); omega
                    have hlet : letB (ci c) = true := by
                      unfold digB at hdg; unfold npB at hnp; unfold letB; simp only [decide_eq_true_eq] at hdg hnp ⊢; omega
                    refine ⟨by simp, ?_, ?_⟩
                    · unfold nameN; simp only [hlet, if_true]; exact hlen
                    · rw [e3] at e1
                      cases hw : wordB (c :: r)
                      · rw [hw] at e1; simp at e1; subst e1; rfl
                      · rw [hw] at e1; simp at e1; subst e1; rfl
                  · split at ht
                    · split at ht
                      · cases ht
                      · injection ht with ht; injection ht with ht _; subst ht; simp at e1; omega
                    · split at ht
                      · cases ht
                      · injection ht with ht; injection ht with ht _; subst ht; simp at e1; omega
theorem alone_name {L : List UInt8} {b : Int} (h : lexL L = .ok [⟨1, 0, L, b⟩]) : nameB L = true ∧ wordB L = false := by
  obtain ⟨h1, h2, h3⟩ := alone_back h (.inl rfl)
  refine ⟨?_, h3⟩
  unfold nameB; rw [h2, h3]; simp [h1]
theorem alone_word {L : List UInt8} {b : Int} (h : lexL L = .ok [⟨2, 0, L, b⟩]) : nameB L = false ∧ wordB L = true := by
  obtain ⟨h1, h2, h3⟩ := alone_back h (.inr rfl)
  refine ⟨?_, h3⟩
  unfold nameB; rw [h3]; simp
/-- Why a source has no tokens. -/
theorem lexB_err : ∀ (j : Nat) (R : List UInt8) (a op p c : Int), R.length ≤ j → lexB R a op = .error (p, c) → c = 5 ∨ c = 6
  | j, [], a, op, p, c, _, h => by rw [lexB] at h; cases h
  | 0, d :: r, a, op, p, c, hj, h => by simp at hj
  | j + 1, d :: r, a, op, p, c, hj, h => by
    rw [lexB_cons] at h
    split at h
    · injection h with h; injection h with _ h; exact .inl h.symm
    · split at h
      · injection h with h; injection h with _ h; exact .inr h.symm
      · rename_i t n ht _
        unfold lexA at h
        split at h
        · injection h with h; injection h with _ h; exact .inl h.symm
        · rename_i m hg
          cases hx : lexB ((r.drop (n - 1)).drop m) (a + n + m) (opA t op) with
          | ok l => rw [hx] at h; cases h
          | error e =>
            obtain ⟨p', c'⟩ := e
            rw [hx] at h
            simp only [consT, Except.error.injEq, Prod.mk.injEq] at h
            obtain ⟨rfl, rfl⟩ := h
            exact lexB_err j _ _ _ _ _ (by rw [List.length_drop, List.length_drop]; simp at hj; omega) hx
theorem lex_err {L : List UInt8} {p c : Int} (h : lexL L = .error (p, c)) : 3 ≤ c ∧ c ≤ 6 := by
  unfold lexL at h
  split at h
  · injection h with h; injection h with _ h; omega
  · split at h
    · injection h with h; injection h with _ h; omega
    · unfold lexA at h
      split at h
      · injection h with h; injection h with _ h; omega
      · have := lexB_err _ _ _ _ _ _ (Nat.le_refl _) h
        omega
end Go.Proofs.YtnkfodelgpidkaaGreatDoor
namespace Go.Proofs.YtnkfodelgpidkaaGreatDoor
set_option linter.unusedVariables false

theorem nm_join (R B : List UInt8) : nmL (R ++ 10 :: B) = nmL R := by
  induction R with
  | nil => rfl
  | cons c r ih => simp only [List.cons_append, nmL]; rw [ih]
theorem take_join {R : List UInt8} {n : Nat} (J : List UInt8) (h : n ≤ R.length) : (R ++ J).take n = R.take n := List.take_append_of_le_length h
theorem drop_join {R : List UInt8} {n : Nat} (J : List UInt8) (h : n ≤ R.length) : (R ++ J).drop n = R.drop n ++ J := List.drop_append_of_le_length h
theorem hex_join : ∀ (i : Nat) (R J : List UInt8) (n x : Int), hexN i R n = some x → hexN i (R ++ J) n = some x
  | 0, R, J, n, x, h => h
  | i + 1, [], J, n, x, h => by cases h
  | i + 1, c :: r, J, n, x, h => by
    rw [hexN] at h
    rw [List.cons_append, hexN]
    split at h
    · cases h
    · rename_i hc
      rw [if_neg hc]
      exact hex_join i r J _ x h
theorem esc_join {R J : List UInt8} {x : List UInt8 × Nat} (h : escT R = some x) : escT (R ++ J) = some x := by
  match R with
  | [] => cases h
  | d :: r =>
    rw [List.cons_append]
    unfold escT at h ⊢
    simp only at h ⊢
    split at h
    · rename_i c1; rw [if_pos c1]; exact h
    rename_i c1; rw [if_neg c1]; clear c1
    split at h
    · rename_i c1; rw [if_pos c1]; exact h
    rename_i c1; rw [if_neg c1]; clear c1
    split at h
    · rename_i c1; rw [if_pos c1]; exact h
    rename_i c1; rw [if_neg c1]; clear c1
    split at h
    · rename_i c1; rw [if_pos c1]; exact h
    rename_i c1; rw [if_neg c1]; clear c1
    split at h
    · rename_i c1; rw [if_pos c1]; exact h
    rename_i c1; rw [if_neg c1]; clear c1
    split at h
    · rename_i c1
      rw [if_pos c1]
      cases hx : hexN 4 r 0 with
      | none => rw [hx] at h; cases h
      | some n => rw [hex_join _ _ J _ _ hx]; rw [hx] at h; exact h
    · cases h
theorem one_join {R J : List UInt8} {x : List UInt8 × Nat} (h : oneT R = some x) : oneT (R ++ J) = some x := by
  match R with
  | [] => cases h
  | c :: r =>
    rw [List.cons_append]
    unfold oneT at h ⊢
    simp only at h ⊢
    split at h
    · rename_i hc
      rw [if_pos hc]
      cases he : escT r with
      | none => rw [he] at h; cases h
      | some y => rw [he] at h; rw [esc_join he]; exact h
    · rename_i hc
      rw [if_neg hc]; exact h
theorem line_join (R B : List UInt8) : lineN (R ++ 10 :: B) = lineN R := by
  induction R with
  | nil => simp [lineN]
  | cons c r ih => simp only [List.cons_append, lineN]; rw [ih]
theorem end_join : ∀ (R J : List UInt8) (x : Nat), endN R = some x → endN (R ++ J) = some x
  | [], J, x, h => by cases h
  | [_], J, x, h => by cases h
  | c :: d :: r, J, x, h => by
    rw [endN] at h
    rw [List.cons_append, List.cons_append, endN]
    split at h
    · rename_i hc; rw [if_pos hc]; exact h
    · rename_i hc
      rw [if_neg hc]
      cases he : endN (d :: r) with
      | none => rw [he] at h; cases h
      | some y => rw [he] at h; have := end_join (d :: r) J y he; rw [List.cons_append] at this; rw [this]; exact h
theorem rem_join {R : List UInt8} {n : Nat} (B : List UInt8) (h0 : R ≠ []) (h : remN R = some n) : remN (R ++ 10 :: B) = some n := by
  match R with
  | [c] =>
    have e : n = 0 := by cases h; rfl
    subst e
    show remN (c :: 10 :: B) = some 0
    unfold remN; simp
  | a :: b :: r =>
    have hl := line_join (a :: b :: r) B
    rw [List.cons_append, List.cons_append] at hl ⊢
    unfold remN at h ⊢
    simp only at h ⊢
    split at h
    · rename_i hc; rw [if_pos hc, hl]; exact h
    · rename_i hc
      rw [if_neg hc]
      split at h
      · rename_i hc2
        rw [if_pos hc2]
        cases he : endN r with
        | none => rw [he] at h; cases h
        | some y => rw [he] at h; rw [end_join r _ y he]; exact h
      · rename_i hc2; rw [if_neg hc2]; exact h
theorem signs_ten : ∀ P ∈ signs, ¬ (10 : UInt8) ∈ P := by decide +kernel
theorem sgn_join (R B : List UInt8) : ∀ n, sgnN (R ++ 10 :: B) n = sgnN R n
  | 0 => rfl
  | n + 1 => by
    have ih := sgn_join R B n
    rw [sgnN, sgnN, ih]
    by_cases hl : n + 1 ≤ R.length
    · rw [take_join _ hl]
      have : n + 1 ≤ (R ++ 10 :: B).length := by simp; omega
      simp only [hl, this]
    · have hno : ¬ (n + 1 ≤ (R ++ 10 :: B).length ∧ sgnB ((R ++ 10 :: B).take (n + 1)) = true) := by
        intro ⟨h1, h2⟩
        have hm : (10 : UInt8) ∈ (R ++ 10 :: B).take (n + 1) := by
          rw [List.take_append, List.mem_append]
          right
          obtain ⟨m, hm⟩ : ∃ m, n + 1 - R.length = m + 1 := ⟨n - R.length, by omega⟩
          rw [hm]; simp
        exact signs_ten _ (by unfold sgnB at h2; simpa using h2) hm
      rw [if_neg hno, if_neg (fun h => hl h.1)]
theorem txt_join (J : List UInt8) : ∀ (j : Nat) {q : UInt8} {R o : List UInt8} {m : Nat}, R.length ≤ j → txt q R = some (o, m) → txt q (R ++ J) = some (o, m)
  | j, q, [], o, m, _, h => by rw [txt] at h; cases h
  | 0, q, c :: r, o, m, hj, h => by simp at hj
  | j + 1, q, c :: r, o, m, hj, h => by
    rw [txt] at h
    rw [List.cons_append, txt]
    split at h
    · rename_i hc; rw [if_pos hc]; exact h
    · rename_i hc
      rw [if_neg hc]
      cases ho : oneT (c :: r) with
      | none => rw [ho] at h; cases h
      | some x =>
        obtain ⟨o1, n⟩ := x
        have h1 := one_join (J := J) ho
        rw [List.cons_append] at h1
        rw [ho] at h; rw [h1]
        simp only at h ⊢
        cases ht : txt q (r.drop (n - 1)) with
        | none => rw [ht] at h; cases h
        | some y =>
          obtain ⟨o2, m2⟩ := y
          have hn : n - 1 ≤ r.length := by
            have hs := txt_size _ (Nat.le_refl _) ht
            rw [List.length_drop] at hs; omega
          have h2 := txt_join J j (by rw [List.length_drop]; simp at hj; omega) ht
          rw [drop_join J hn, h2]
          rw [ht] at h; exact h
theorem tok_join {R : List UInt8} {t : Tk} {n : Nat} (B : List UInt8) (h : tokO R = some (t, n)) : tokO (R ++ 10 :: B) = some (t, n) := by
  match R with
  | [] => cases h
  | c :: r =>
    have hn := nm_join (c :: r) B
    have ht := take_join (10 :: B) (nmL_le (c :: r))
    have hs := sgn_join (c :: r) B 4
    have hst := take_join (10 :: B) (sgnN_le (c :: r) 4).2
    rw [List.cons_append] at hn ht hs hst ⊢
    unfold tokO at h ⊢
    simp only at h ⊢
    rw [hn, ht, hs, hst]
    split at h
    · rename_i hc; rw [if_pos hc]; exact h
    · rename_i hc
      rw [if_neg hc]
      split at h
      · rename_i hc2; rw [if_pos hc2]; exact h
      · rename_i hc2
        rw [if_neg hc2]
        split at h
        · rename_i hc3
          rw [if_pos hc3]
          cases hx : txt c r with
          | none => rw [hx] at h; cases h
          | some x =>
            obtain ⟨o, m⟩ := x
            rw [txt_join (10 :: B) _ (Nat.le_refl _) hx]
            rw [hx] at h; exact h
        · rename_i hc3; rw [if_neg hc3]; exact h
theorem gap_join (B : List UInt8) : ∀ (j : Nat) (R : List UInt8) (k : Nat), R.length ≤ j → gap R = (k, true) → gap (R ++ 10 :: B) = if k < R.length then (k, true) else (k + 1 + (gap B).1, (gap B).2)
  | j, [], k, _, h => by
    rw [gap] at h
    have e : k = 0 := by injection h with h _; exact h.symm
    subst e
    rw [List.nil_append, gap]
    simp [blankB]; omega
  | 0, c :: r, k, hj, h => by simp at hj
  | j + 1, c :: r, k, hj, h => by
    rw [gap] at h
    rw [List.cons_append, gap]
    split at h
    · rename_i hb
      rw [if_pos hb]
      cases hg : gap r with
      | mk k2 f =>
        rw [hg] at h
        simp only [Prod.mk.injEq] at h
        obtain ⟨rfl, rfl⟩ := h
        rw [gap_join B j r k2 (by simp at hj; omega) hg]
        by_cases hk : k2 < r.length
        · rw [if_pos hk, if_pos (by simp; omega)]
        · rw [if_neg hk, if_neg (by simp; omega)]; simp; omega
    · rename_i hb
      rw [if_neg hb]
      have hrj : ∀ n, remN (c :: r) = some n → remN (c :: (r ++ 10 :: B)) = some n := fun n hn => by
        have := rem_join B (by simp) hn; rwa [List.cons_append] at this
      split at h
      · cases h
      · rename_i hr
        rw [hrj 0 hr]
        injection h with h _
        subst h
        simp
      · rename_i n hr
        rw [hrj _ hr]
        simp only
        have hle := rem_le hr
        simp at hle
        cases hg : gap (r.drop n) with
        | mk k2 f =>
          rw [hg] at h
          simp only [Prod.mk.injEq] at h
          obtain ⟨rfl, rfl⟩ := h
          rw [drop_join _ (by omega), gap_join B j (r.drop n) k2 (by rw [List.length_drop]; simp at hj; omega) hg, List.length_drop]
          by_cases hk : k2 < r.length - n
          · rw [if_pos hk, if_pos (by simp; omega)]
          · rw [if_neg hk, if_neg (by simp; omega)]; simp; omega
end Go.Proofs.YtnkfodelgpidkaaGreatDoor
namespace Go.Proofs.YtnkfodelgpidkaaGreatDoor
set_option linter.unusedVariables false

theorem lexA_go {R : List UInt8} {k : Nat} {a op : Int} (h : gap R = (k, true)) : lexA R a op = lexB (R.drop k) (a + k) op := by unfold lexA; rw [h]
theorem lexA_stop {R : List UInt8} {k : Nat} {a op : Int} (h : gap R = (k, false)) : lexA R a op = .error (a + k, 5) := by unfold lexA; rw [h]
theorem pre_consT (t : Tk) (a : Int) (l : List Tk) (x : Except (Int × Int) (List Tk)) : consT t a (pre l x) = pre ({ t with pos := a } :: l) x := by cases x <;> rfl
/-- The one's tokens, then the other's. -/
theorem lexA_join (B : List UInt8) : ∀ (j : Nat) (R : List UInt8) (a op : Int) (l : List Tk), R.length ≤ j → lexA R a op = .ok l → ∃ op', lexA (R ++ 10 :: B) a op = pre l (lexA B (a + R.length + 1) op')
  | j, R, a, op, l, hj, h => by
    cases hg : gap R with
    | mk k f =>
      cases f
      · rw [lexA_stop hg] at h; cases h
      · rw [lexA_go hg] at h
        have hk := gap_le _ R (Nat.le_refl _)
        rw [hg] at hk
        have hgj := gap_join B _ R k (Nat.le_refl _) hg
        by_cases hlt : k < R.length
        · rw [if_pos hlt] at hgj
          rw [lexA_go hgj, drop_join _ hk]
          obtain ⟨c, r, hr⟩ : ∃ c r, R.drop k = c :: r := by
            cases hd : R.drop k with
            | nil => have := congrArg List.length hd; rw [List.length_drop] at this; simp at this; omega
            | cons c r => exact ⟨c, r, rfl⟩
          have hlen : r.length + 1 + k = R.length := by
            have := congrArg List.length hr; rw [List.length_drop] at this; simp at this; omega
          rw [hr] at h ⊢
          rw [lexB_cons] at h
          rw [List.cons_append, lexB_cons]
          cases ht : tokO (c :: r) with
          | none => rw [ht] at h; cases h
          | some x =>
            obtain ⟨t, n⟩ := x
            have htj := tok_join B ht
            rw [List.cons_append] at htj
            rw [htj]
            rw [ht] at h
            simp only at h ⊢
            have hts := tokO_size ht
            simp only [List.length_cons] at hts
            cases hd : tooDeep t op
            · rw [hd] at h
              simp only [Bool.false_eq_true, if_false] at h ⊢
              cases hx : lexA (r.drop (n - 1)) (a + k + n) (opA t op) with
              | error e => rw [hx] at h; cases h
              | ok l2 =>
                rw [hx] at h
                simp only [consT, Except.ok.injEq] at h
                subst h
                match j, hj with
                | 0, hj => omega
                | j + 1, hj =>
                  obtain ⟨op', ho⟩ := lexA_join B j (r.drop (n - 1)) _ _ _ (by rw [List.length_drop]; omega) hx
                  refine ⟨op', ?_⟩
                  rw [drop_join _ (by omega), ho, pre_consT, List.length_drop]
                  rw [show a + k + n + ((r.length - (n - 1) : Nat) : Int) + 1 = a + R.length + 1 by omega]
            · rw [hd] at h; cases h
        · rw [if_neg hlt] at hgj
          have hke : k = R.length := by simp at hk; omega
          have hl : l = [] := by
            rw [hke, List.drop_length, lexB] at h; injection h with h; exact h.symm
          subst hl
          refine ⟨op, ?_⟩
          rw [pre_nil]
          cases hb : gap B with
          | mk m f =>
            rw [hb] at hgj
            have hdr : (R ++ 10 :: B).drop (k + 1 + m) = B.drop m := by
              rw [hke, show R.length + 1 + m = R.length + (m + 1) by omega, ← List.drop_drop]
              simp
            cases f
            · rw [lexA_stop hgj, lexA_stop hb]; congr 2; simp; omega
            · rw [lexA_go hgj, lexA_go hb, hdr]; congr 1; simp; omega
def shift (d : Int) (t : Tk) : Tk := { t with pos := t.pos + d }
/-- From another place, and in other brackets. -/
theorem lexB_else : ∀ (j : Nat) (R : List UInt8) (a0 op0 a op : Int) (m : List Tk), R.length ≤ j → lexB R a0 op0 = .ok m → lexB R a op = .ok (m.map (shift (a - a0))) ∨ ∃ p, lexB R a op = .error (p, 6)
  | j, [], a0, op0, a, op, m, _, h => by
    rw [lexB] at h ⊢; injection h with h; subst h; exact .inl rfl
  | 0, c :: r, a0, op0, a, op, m, hj, h => by simp at hj
  | j + 1, c :: r, a0, op0, a, op, m, hj, h => by
    rw [lexB_cons] at h ⊢
    cases ht : tokO (c :: r) with
    | none => rw [ht] at h; cases h
    | some x =>
      obtain ⟨t, n⟩ := x
      rw [ht] at h
      simp only at h ⊢
      cases hd : tooDeep t op
      · simp only [Bool.false_eq_true, if_false]
        cases hd0 : tooDeep t op0
        · rw [hd0] at h
          simp only [Bool.false_eq_true, if_false] at h
          cases hg : gap (r.drop (n - 1)) with
          | mk k f =>
            cases f
            · rw [lexA_stop hg] at h; cases h
            · rw [lexA_go hg] at h ⊢
              cases hx : lexB ((r.drop (n - 1)).drop k) (a0 + n + k) (opA t op0) with
              | error e => rw [hx] at h; cases h
              | ok l =>
                rw [hx] at h
                simp only [consT, Except.ok.injEq] at h
                subst h
                rcases lexB_else j _ _ _ (a + n + k) (opA t op) l (by rw [List.length_drop, List.length_drop]; simp at hj; omega) hx with e | ⟨p, e⟩
                · rw [e]
                  refine .inl ?_
                  simp only [consT, List.map_cons, Except.ok.injEq, List.cons.injEq]
                  refine ⟨?_, ?_⟩
                  · unfold shift; simp; omega
                  · rw [show a + n + k - (a0 + n + k) = a - a0 by omega]
                · rw [e]; exact .inr ⟨p, rfl⟩
        · rw [hd0] at h; cases h
      · simp only [if_true]; exact .inr ⟨_, rfl⟩
theorem lexA_else {R : List UInt8} {a0 op0 a op : Int} {m : List Tk} (h : lexA R a0 op0 = .ok m) : lexA R a op = .ok (m.map (shift (a - a0))) ∨ ∃ p, lexA R a op = .error (p, 6) := by
  cases hg : gap R with
  | mk k f =>
    cases f
    · rw [lexA_stop hg] at h; cases h
    · rw [lexA_go hg] at h ⊢
      rcases lexB_else _ _ _ _ (a + k) op m (Nat.le_refl _) h with e | e
      · rw [show a + k - (a0 + k) = a - a0 by omega] at e; exact .inl e
      · exact .inr e
theorem lex_parts {L : List UInt8} {l : List Tk} (h : lexL L = .ok l) : L.length ≤ 4096 ∧ chk L 0 = none ∧ lexA L 0 0 = .ok l := by
  unfold lexL at h
  split at h
  · cases h
  · split at h
    · cases h
    · rename_i hc; exact ⟨by omega, hc, h⟩
theorem lex_join {A B : List UInt8} {l m : List Tk} (ha : lexL A = .ok l) (hb : lexL B = .ok m) (hs : A.length + 1 + B.length ≤ 4096) :
    lexL (A ++ 10 :: B) = .ok (l ++ m.map (shift (A.length + 1))) ∨ ∃ p, lexL (A ++ 10 :: B) = .error (p, 6) := by
  obtain ⟨_, ca, la⟩ := lex_parts ha
  obtain ⟨_, cb, lb⟩ := lex_parts hb
  have hc : chk (A ++ 10 :: B) 0 = none := by
    rw [chk_join ca]
    have e : (10 :: B : List UInt8) = [10] ++ B := rfl
    have c10 : chk [10] 0 = none := chk_ascii _ (by intro c hc; simp at hc; subst hc; decide) _ 0 (Nat.le_refl _)
    rw [e, chk_join c10, cb]; rfl
  have e : lexL (A ++ 10 :: B) = lexA (A ++ 10 :: B) 0 0 := by
    unfold lexL; rw [if_neg (by simp; omega), hc]
  obtain ⟨op', ho⟩ := lexA_join B _ A 0 0 l (Nat.le_refl _) la
  rw [e, ho]
  rcases lexA_else (a := 0 + (A.length : Int) + 1) (op := op') lb with h | ⟨p, h⟩
  · rw [h]; refine .inl ?_
    rw [show (0 : Int) + A.length + 1 - 0 = A.length + 1 by omega]; rfl
  · rw [h]; exact .inr ⟨p, rfl⟩
end Go.Proofs.YtnkfodelgpidkaaGreatDoor
namespace Go.Proofs.YtnkfodelgpidkaaGreatDoor
set_option linter.unusedVariables false

theorem nm_cut : ∀ (R : List UInt8) (m : Nat), nmL R ≤ m → nmL (R.take m) = nmL R
  | [], m, _ => by simp
  | c :: r, m, h => by
    rw [nmL] at h ⊢
    cases hc : npB (ci c)
    · cases m with
      | zero => rfl
      | succ m => rw [List.take_succ_cons, nmL, hc]; rfl
    · rw [hc] at h
      simp only [if_true] at h ⊢
      obtain ⟨m, rfl⟩ : ∃ j, m = j + 1 := ⟨m - 1, by omega⟩
      rw [List.take_succ_cons, nmL, hc]
      simp only [if_true]
      rw [nm_cut r m (by omega)]
theorem take_cut {R : List UInt8} {n m : Nat} (h : n ≤ m) : (R.take m).take n = R.take n := by rw [List.take_take, Nat.min_eq_left h]
theorem hex_cut : ∀ (i : Nat) (R : List UInt8) (n x : Int) (m : Nat), i ≤ m → hexN i R n = some x → hexN i (R.take m) n = some x
  | 0, R, n, x, m, _, h => h
  | i + 1, [], n, x, m, _, h => by cases h
  | i + 1, c :: r, n, x, m, hm, h => by
    obtain ⟨m, rfl⟩ : ∃ j, m = j + 1 := ⟨m - 1, by omega⟩
    rw [hexN] at h
    rw [List.take_succ_cons, hexN]
    split at h
    · cases h
    · rename_i hc
      rw [if_neg hc]
      exact hex_cut i r _ x m (by omega) h
theorem esc_cut {R : List UInt8} {o : List UInt8} {n m : Nat} (hm : n ≤ m) (h : escT R = some (o, n)) : escT (R.take m) = some (o, n) := by
  match R with
  | [] => cases h
  | d :: r =>
    have hn := escT_size h
    obtain ⟨m, rfl⟩ : ∃ j, m = j + 1 := ⟨m - 1, by omega⟩
    rw [List.take_succ_cons]
    unfold escT at h ⊢
    simp only at h ⊢
    split at h
    · rename_i c1; rw [if_pos c1]; exact h
    rename_i c1; rw [if_neg c1]; clear c1
    split at h
    · rename_i c1; rw [if_pos c1]; exact h
    rename_i c1; rw [if_neg c1]; clear c1
    split at h
    · rename_i c1; rw [if_pos c1]; exact h
    rename_i c1; rw [if_neg c1]; clear c1
    split at h
    · rename_i c1; rw [if_pos c1]; exact h
    rename_i c1; rw [if_neg c1]; clear c1
    split at h
    · rename_i c1; rw [if_pos c1]; exact h
    rename_i c1; rw [if_neg c1]; clear c1
    split at h
    · rename_i c1
      rw [if_pos c1]
      cases hx : hexN 4 r 0 with
      | none => rw [hx] at h; cases h
      | some x =>
        have h5 : n = 5 := by
          rw [hx] at h; simp only at h
          split at h
          · cases h
          · injection h with h; injection h with _ h; exact h.symm
        rw [hex_cut 4 r 0 x m (by omega) hx]; rw [hx] at h; exact h
    · cases h
theorem one_cut {R : List UInt8} {o : List UInt8} {n m : Nat} (hm : n ≤ m) (hn : 1 ≤ n) (h : oneT R = some (o, n)) : oneT (R.take m) = some (o, n) := by
  match R with
  | [] => cases h
  | c :: r =>
    obtain ⟨m, rfl⟩ : ∃ j, m = j + 1 := ⟨m - 1, by omega⟩
    rw [List.take_succ_cons]
    unfold oneT at h ⊢
    simp only at h ⊢
    split at h
    · rename_i hc
      rw [if_pos hc]
      cases he : escT r with
      | none => rw [he] at h; cases h
      | some y =>
        obtain ⟨o1, n1⟩ := y
        rw [he] at h
        have e : n1 + 1 = n := by injection h with h; injection h
        rw [esc_cut (by omega) he]; exact h
    · rename_i hc
      rw [if_neg hc]; exact h
theorem one_pos {R o : List UInt8} {n : Nat} (h : oneT R = some (o, n)) : 1 ≤ n := by
  match R with
  | [] => cases h
  | c :: r =>
    unfold oneT at h
    simp only at h
    split at h
    · cases he : escT r with
      | none => rw [he] at h; cases h
      | some y => obtain ⟨o1, n1⟩ := y; rw [he] at h; injection h with h; injection h with _ h; omega
    · split at h
      · cases h
      · injection h with h; injection h with _ h; omega
theorem txt_cut : ∀ (j : Nat) {q : UInt8} {R o : List UInt8} {n m : Nat}, R.length ≤ j → n ≤ m → txt q R = some (o, n) → txt q (R.take m) = some (o, n)
  | j, q, [], o, n, m, _, _, h => by rw [txt] at h; cases h
  | 0, q, c :: r, o, n, m, hj, _, h => by simp at hj
  | j + 1, q, c :: r, o, n, m, hj, hm, h => by
    have hts := txt_size _ (Nat.le_refl _) h
    obtain ⟨m, rfl⟩ : ∃ i, m = i + 1 := ⟨m - 1, by omega⟩
    rw [txt] at h
    rw [List.take_succ_cons, txt]
    split at h
    · rename_i hc; rw [if_pos hc]; exact h
    · rename_i hc
      rw [if_neg hc]
      cases ho : oneT (c :: r) with
      | none => rw [ho] at h; cases h
      | some x =>
        obtain ⟨o1, n1⟩ := x
        have hp := one_pos ho
        rw [ho] at h
        simp only at h
        cases ht : txt q (r.drop (n1 - 1)) with
        | none => rw [ht] at h; cases h
        | some y =>
          obtain ⟨o2, n2⟩ := y
          rw [ht] at h
          have e : n1 + n2 = n := by injection h with h; injection h
          have h1 := one_cut (m := m + 1) (by omega) hp ho
          rw [List.take_succ_cons] at h1
          rw [h1]
          simp only
          have h2 := txt_cut j (m := m - (n1 - 1)) (by rw [List.length_drop]; simp at hj; omega) (by omega) ht
          rw [List.drop_take, h2]; exact h
theorem sgn_cut (R : List UInt8) (m : Nat) : ∀ n, sgnN R n ≤ m → sgnN (R.take m) n = sgnN R n
  | 0, _ => rfl
  | n + 1, h => by
    rw [sgnN] at h ⊢
    rw [sgnN]
    by_cases hc : n + 1 ≤ R.length ∧ sgnB (R.take (n + 1)) = true
    · rw [if_pos hc] at h ⊢
      rw [if_pos]
      rw [take_cut h]
      exact ⟨by rw [List.length_take]; omega, hc.2⟩
    · rw [if_neg hc] at h ⊢
      rw [if_neg]
      · exact sgn_cut R m n h
      · intro ⟨h1, h2⟩
        rw [List.length_take] at h1
        rw [take_cut (by omega)] at h2
        exact hc ⟨by omega, h2⟩
/-- The token at the front does not hang on what stands behind it. -/
theorem tok_cut {R : List UInt8} {t : Tk} {n m : Nat} (hm : n ≤ m) (h : tokO R = some (t, n)) : tokO (R.take m) = some (t, n) := by
  match R with
  | [] => cases h
  | c :: r =>
    have hts := tokO_size h
    have hN := nm_cut (c :: r) m
    have hS := sgn_cut (c :: r) m 4
    obtain ⟨i, rfl⟩ : ∃ i, m = i + 1 := ⟨m - 1, by omega⟩
    have hT := fun j (hj : j ≤ i + 1) => take_cut (R := c :: r) hj
    rw [List.take_succ_cons] at hN hS hT ⊢
    unfold tokO at h ⊢
    simp only at h ⊢
    split at h
    · rename_i hc
      rw [if_pos hc]
      cases hx : numO ((c :: r).take (nmL (c :: r))) with
      | none => rw [hx] at h; cases h
      | some v =>
        rw [hx] at h
        have e : nmL (c :: r) = n := by injection h with h; injection h
        rw [hN (by omega), hT _ (by omega), hx]; exact h
    · rename_i hc
      rw [if_neg hc]
      split at h
      · rename_i hc2
        rw [if_pos hc2]
        have e : nmL (c :: r) = n := by injection h with h; injection h
        rw [hN (by omega), hT _ (by omega)]; exact h
      · rename_i hc2
        rw [if_neg hc2]
        split at h
        · rename_i hc3
          rw [if_pos hc3]
          cases hx : txt c r with
          | none => rw [hx] at h; cases h
          | some y =>
            obtain ⟨o, k⟩ := y
            rw [hx] at h
            have e : k + 1 = n := by injection h with h; injection h
            rw [txt_cut _ (Nat.le_refl _) (by omega) hx]; exact h
        · rename_i hc3
          rw [if_neg hc3]
          split at h
          · cases h
          · rename_i hc4
            have e : sgnN (c :: r) 4 = n := by injection h with h; injection h
            rw [hS (by omega), if_neg hc4, hT _ (by omega)]; exact h
theorem line_cut : ∀ (R : List UInt8) (m : Nat), lineN R ≤ m → lineN (R.take m) = lineN R
  | [], m, _ => by simp
  | c :: r, m, h => by
    rw [lineN] at h ⊢
    by_cases hc : c = 10
    · rw [if_pos hc]
      cases m with
      | zero => rfl
      | succ m => rw [List.take_succ_cons, lineN, if_pos hc]
    · rw [if_neg hc] at h ⊢
      obtain ⟨m, rfl⟩ : ∃ j, m = j + 1 := ⟨m - 1, by omega⟩
      rw [List.take_succ_cons, lineN, if_neg hc, line_cut r m (by omega)]
theorem end_cut : ∀ (R : List UInt8) (x m : Nat), x + 2 ≤ m → endN R = some x → endN (R.take m) = some x
  | [], x, m, _, h => by cases h
  | [_], x, m, _, h => by cases h
  | c :: d :: r, x, m, hm, h => by
    obtain ⟨m, rfl⟩ : ∃ j, m = j + 2 := ⟨m - 2, by omega⟩
    rw [endN] at h
    rw [List.take_succ_cons, List.take_succ_cons, endN]
    split at h
    · rename_i hc; rw [if_pos hc]; exact h
    · rename_i hc
      rw [if_neg hc]
      cases he : endN (d :: r) with
      | none => rw [he] at h; cases h
      | some y =>
        rw [he] at h
        simp only [Option.map_some, Option.some.injEq] at h
        have := end_cut (d :: r) y (m + 1) (by omega) he
        rw [List.take_succ_cons] at this
        rw [this]; simp [h]
theorem rem_cut {R : List UInt8} {n m : Nat} (hm : n ≤ m) (h : remN R = some n) : remN (R.take m) = some n ∨ n = 0 := by
  match R with
  | [] => exact .inr (by cases h; rfl)
  | [c] => exact .inr (by cases h; rfl)
  | a :: b :: r =>
    by_cases h0 : n = 0
    · exact .inr h0
    left
    have hl := line_cut (a :: b :: r) m
    unfold remN at h
    simp only at h
    split at h
    · rename_i hc
      injection h with h
      have h2 : 2 ≤ n := by rw [← h, hc.1, hc.2]; simp [lineN]
      obtain ⟨m, rfl⟩ : ∃ j, m = j + 2 := ⟨m - 2, by omega⟩
      rw [List.take_succ_cons, List.take_succ_cons] at hl ⊢
      unfold remN
      simp only
      rw [if_pos hc, hl (by omega), h]
    · rename_i hc
      split at h
      · rename_i hc2
        cases he : endN r with
        | none => rw [he] at h; cases h
        | some y =>
          rw [he] at h
          simp only [Option.map_some, Option.some.injEq] at h
          obtain ⟨m, rfl⟩ : ∃ j, m = j + 2 := ⟨m - 2, by omega⟩
          rw [List.take_succ_cons, List.take_succ_cons]
          unfold remN
          simp only
          rw [if_neg hc, if_pos hc2, end_cut r y m (by omega) he]
          simp [h]
      · injection h with h; exact absurd h.symm h0
/-- What stands between tokens, cut at its end. -/
theorem gap_cut : ∀ (j : Nat) (R : List UInt8) (k : Nat), R.length ≤ j → gap R = (k, true) → gap (R.take k) = (k, true)
  | j, [], k, _, h => by
    rw [gap] at h; injection h with h _; subst h; rw [List.take_nil, gap]
  | 0, c :: r, k, hj, h => by simp at hj
  | j + 1, c :: r, k, hj, h => by
    rw [gap] at h
    split at h
    · rename_i hb
      cases hg : gap r with
      | mk k2 f =>
        rw [hg] at h
        simp only [Prod.mk.injEq] at h
        obtain ⟨rfl, rfl⟩ := h
        rw [List.take_succ_cons, gap, if_pos hb, gap_cut j r k2 (by simp at hj; omega) hg]
    · rename_i hb
      split at h
      · cases h
      · injection h with h _; subst h; rw [List.take_zero, gap]
      · rename_i n hr
        have hle := rem_le hr
        simp at hle
        cases hg : gap (r.drop n) with
        | mk k2 f =>
          rw [hg] at h
          simp only [Prod.mk.injEq] at h
          obtain ⟨rfl, rfl⟩ := h
          have hrc := rem_cut (m := k2 + (n + 1)) (by omega) hr
          rcases hrc with hrc | hrc
          · rw [show k2 + (n + 1) = (k2 + n) + 1 by omega, List.take_succ_cons] at hrc ⊢
            rw [gap, if_neg hb, hrc]
            simp only
            rw [List.drop_take, show k2 + n - n = k2 by omega, gap_cut j (r.drop n) k2 (by rw [List.length_drop]; simp at hj; omega) hg]
            simp; omega
          · omega
/-- Behind what stands between tokens nothing of the kind goes on. -/
theorem gap_still : ∀ (j : Nat) (R : List UInt8) (k : Nat), R.length ≤ j → gap R = (k, true) → gap (R.drop k) = (0, true)
  | j, [], k, _, h => by rw [List.drop_nil, gap]
  | 0, c :: r, k, hj, h => by simp at hj
  | j + 1, c :: r, k, hj, h => by
    have h0 := h
    rw [gap] at h
    split at h
    · cases hg : gap r with
      | mk k2 f =>
        rw [hg] at h
        simp only [Prod.mk.injEq] at h
        obtain ⟨rfl, rfl⟩ := h
        rw [List.drop_succ_cons]; exact gap_still j r k2 (by simp at hj; omega) hg
    · split at h
      · cases h
      · injection h with h _; subst h; rw [List.drop_zero]; exact h0
      · rename_i n hr
        cases hg : gap (r.drop n) with
        | mk k2 f =>
          rw [hg] at h
          simp only [Prod.mk.injEq] at h
          obtain ⟨rfl, rfl⟩ := h
          have := gap_still j (r.drop n) k2 (by rw [List.length_drop]; simp at hj; omega) hg
          rw [List.drop_drop] at this
          rw [show k2 + (n + 1) = (n + k2) + 1 by omega, List.drop_succ_cons]; exact this
end Go.Proofs.YtnkfodelgpidkaaGreatDoor
namespace Go.Proofs.YtnkfodelgpidkaaGreatDoor
set_option linter.unusedVariables false

theorem by8_ci {L : List UInt8} {a : Nat} (ha : a < L.length) : by8 L a = ci L[a] := by unfold by8 ci; simp [List.getElem?_eq_getElem ha]
/-- A place whose byte is below 128 is where a sign begins. -/
theorem chk_at (L : List UInt8) (a : Nat) (hb : by8 L a < 128) : ∀ (j k : Nat), a - k ≤ j → k ≤ a → a ≤ L.length → chk L k = none → chk L a = none
  | 0, k, hj, hk, hl, h => by rw [show a = k by omega]; exact h
  | j + 1, k, hj, hk, hl, h => by
    by_cases he : k = a
    · rw [← he]; exact h
    · have hs : ¬ signAt L k < 0 := fun hs => by rw [chk_bad (by omega) hs] at h; cases h
      rw [chk_more (by omega) hs] at h
      refine chk_at L a hb j _ (by have := stepAt_range L k; omega) ?_ hl h
      have hr := siz4_range (by8 L k) (by8 L (k + 1)) (by8 L (k + 2)) (by8 L (k + 3))
      have hf := siz4_fits (by8 L k) (by8 L (k + 1)) (by8 L (k + 2)) (by8 L (k + 3))
      rcases Nat.lt_or_ge a (k + stepAt L k) with hlt | hge
      · exfalso
        unfold stepAt sizeAt at hlt
        have hne : ∀ i, a = k + i → by8 L (k + i) < 128 := fun i hi => by rw [← hi]; exact hb
        split at hlt
        · omega
        · have h4 : siz4 (by8 L k) (by8 L (k + 1)) (by8 L (k + 2)) (by8 L (k + 3)) = 1 ∨ siz4 (by8 L k) (by8 L (k + 1)) (by8 L (k + 2)) (by8 L (k + 3)) = 2 ∨ siz4 (by8 L k) (by8 L (k + 1)) (by8 L (k + 2)) (by8 L (k + 3)) = 3 ∨ siz4 (by8 L k) (by8 L (k + 1)) (by8 L (k + 2)) (by8 L (k + 3)) = 4 := by omega
          rcases h4 with h4 | h4 | h4 | h4
          · rw [h4] at hlt; simp at hlt; omega
          · rw [h4] at hlt; simp at hlt
            have := hf.1 h4; have := hne 1 (by omega); omega
          · rw [h4] at hlt; simp at hlt
            have := hf.2.1 h4
            rcases (show a = k + 1 ∨ a = k + 2 by omega) with e | e
            · have := hne 1 e; omega
            · have := hne 2 e; omega
          · rw [h4] at hlt; simp at hlt
            have := hf.2.2 h4
            rcases (show a = k + 1 ∨ a = k + 2 ∨ a = k + 3 by omega) with e | e | e
            · have := hne 1 e; omega
            · have := hne 2 e; omega
            · have := hne 3 e; omega
      · exact hge
theorem chk_drop {L : List UInt8} {a : Nat} (hl : a ≤ L.length) (hb : by8 L a < 128) (h : chk L 0 = none) : chk (L.drop a) 0 = none := by
  have h1 := chk_at L a hb _ 0 (Nat.le_refl _) (Nat.zero_le _) hl h
  have h2 := chk_right (L.take a) (L.drop a) _ 0 (Nat.le_refl _)
  rw [List.take_append_drop, List.length_take, Nat.min_eq_left hl, Nat.add_zero, h1] at h2
  cases hx : chk (L.drop a) 0 with
  | none => rfl
  | some x => rw [hx] at h2; cases h2
theorem by8_take {L : List UInt8} {m i : Nat} (h : i < m) : by8 (L.take m) i = by8 L i := by
  unfold by8; rw [List.getD_eq_getElem?_getD, List.getD_eq_getElem?_getD, List.getElem?_take, if_pos h]
theorem siz4_own {c d e f : Int} (d' e' f' : Int) : (siz4 c d e f = 1 → siz4 c d' e' f' = 1 ∧ sgn4 c d' e' f' = sgn4 c d e f) ∧ (siz4 c d e f = 2 → siz4 c d e' f' = 2 ∧ sgn4 c d e' f' = sgn4 c d e f) ∧
    (siz4 c d e f = 3 → siz4 c d e f' = 3 ∧ sgn4 c d e f' = sgn4 c d e f) := by
  have a1 := siz4_is c d e f
  have a2 := siz4_is c d' e' f'
  have a3 := siz4_is c d e' f'
  have a4 := siz4_is c d e f'
  have b1 := sgn4_is c d e f
  have b2 := sgn4_is c d' e' f'
  have b3 := sgn4_is c d e' f'
  have b4 := sgn4_is c d e f'
  refine ⟨fun h => ?_, fun h => ?_, fun h => ?_⟩
  · have h2 := a2.1.2 (a1.1.1 h)
    exact ⟨h2, by rw [b1.1 h, b2.1 h2]⟩
  · have h2 := a3.2.1.2 (a1.2.1.1 h)
    exact ⟨h2, by rw [b1.2.1 h, b3.2.1 h2]⟩
  · have h2 := a4.2.2.1.2 (a1.2.2.1.1 h)
    exact ⟨h2, by rw [b1.2.2.1 h, b4.2.2.1 h2]⟩
theorem chk_take (L : List UInt8) (m : Nat) (hm : m ≤ L.length) (hb : by8 L m < 128) : ∀ (j k : Nat), m - k ≤ j → k ≤ m → chk L k = none → chk (L.take m) k = none
  | 0, k, hj, hk, h => chk_done (by rw [List.length_take]; omega)
  | j + 1, k, hj, hk, h => by
    by_cases he : k = m
    · exact chk_done (by rw [List.length_take]; omega)
    · have hs : ¬ signAt L k < 0 := fun hs => by rw [chk_bad (by omega) hs] at h; cases h
      have hn : chk L (k + stepAt L k) = none := by rw [chk_more (by omega) hs] at h; exact h
      have hr := siz4_range (by8 L k) (by8 L (k + 1)) (by8 L (k + 2)) (by8 L (k + 3))
      have hf := siz4_fits (by8 L k) (by8 L (k + 1)) (by8 L (k + 2)) (by8 L (k + 3))
      have hz : siz4 (by8 L k) (by8 L (k + 1)) (by8 L (k + 2)) (by8 L (k + 3)) ≠ 0 := fun hz => hs (by unfold signAt sgn4; rw [if_pos hz]; decide)
      have hne : ∀ i, m = k + i → by8 L (k + i) < 128 := fun i hi => by rw [← hi]; exact hb
      have own := siz4_own (c := by8 L k) (d := by8 L (k + 1)) (e := by8 L (k + 2)) (f := by8 L (k + 3)) (by8 (L.take m) (k + 1)) (by8 (L.take m) (k + 2)) (by8 (L.take m) (k + 3))
      have h4 : siz4 (by8 L k) (by8 L (k + 1)) (by8 L (k + 2)) (by8 L (k + 3)) = 1 ∨ siz4 (by8 L k) (by8 L (k + 1)) (by8 L (k + 2)) (by8 L (k + 3)) = 2 ∨ siz4 (by8 L k) (by8 L (k + 1)) (by8 L (k + 2)) (by8 L (k + 3)) = 3 ∨ siz4 (by8 L k) (by8 L (k + 1)) (by8 L (k + 2)) (by8 L (k + 3)) = 4 := by omega
      have key : sizeAt (L.take m) k = sizeAt L k ∧ signAt (L.take m) k = signAt L k ∧ k + stepAt L k ≤ m := by
        unfold stepAt sizeAt signAt
        rw [by8_take (show k < m by omega), if_neg hz]
        rcases h4 with h4 | h4 | h4 | h4
        · have o := own.1 h4
          exact ⟨o.1.trans h4.symm, o.2, by rw [h4]; show k + 1 ≤ m; omega⟩
        · have hd := hf.1 h4
          have k1 : ¬ m = k + 1 := fun e => by have := hne 1 e; omega
          have o := own.2.1 h4
          rw [by8_take (show k + 1 < m by omega)]
          exact ⟨o.1.trans h4.symm, o.2, by rw [h4]; show k + 2 ≤ m; omega⟩
        · have hd := hf.2.1 h4
          have k1 : ¬ m = k + 1 := fun e => by have := hne 1 e; omega
          have k2 : ¬ m = k + 2 := fun e => by have := hne 2 e; omega
          have o := own.2.2 h4
          rw [by8_take (show k + 1 < m by omega), by8_take (show k + 2 < m by omega)]
          exact ⟨o.1.trans h4.symm, o.2, by rw [h4]; show k + 3 ≤ m; omega⟩
        · have hd := hf.2.2 h4
          have k1 : ¬ m = k + 1 := fun e => by have := hne 1 e; omega
          have k2 : ¬ m = k + 2 := fun e => by have := hne 2 e; omega
          have k3 : ¬ m = k + 3 := fun e => by have := hne 3 e; omega
          rw [by8_take (show k + 1 < m by omega), by8_take (show k + 2 < m by omega), by8_take (show k + 3 < m by omega)]
          exact ⟨rfl, rfl, by rw [h4]; show k + 4 ≤ m; omega⟩
      have hst : stepAt (L.take m) k = stepAt L k := by unfold stepAt; rw [key.1]
      rw [chk_more (by rw [List.length_take]; omega) (by rw [key.2.1]; exact hs), hst]
      exact chk_take L m hm hb j _ (by have := stepAt_range L k; omega) key.2.2 hn
theorem sign_heads : ∀ P ∈ signs, ∀ c ∈ P, ci c < 128 := by decide +kernel
theorem sgn_in (R : List UInt8) : ∀ n, sgnN R n ≠ 0 → sgnB (R.take (sgnN R n)) = true
  | 0, h => absurd rfl h
  | n + 1, h => by
    rw [sgnN] at h ⊢
    by_cases hc : n + 1 ≤ R.length ∧ sgnB (R.take (n + 1)) = true
    · rw [if_pos hc]; exact hc.2
    · rw [if_neg hc] at h ⊢; exact sgn_in R n h
theorem tok_head {c : UInt8} {r : List UInt8} {t : Tk} {n : Nat} (h : tokO (c :: r) = some (t, n)) : ci c < 128 := by
  unfold tokO at h
  simp only at h
  split at h
  · rename_i hc; unfold digB at hc; simp only [decide_eq_true_eq] at hc; omega
  · split at h
    · rename_i hc; exact np_small hc
    · split at h
      · omega
      · split at h
        · cases h
        · rename_i hs
          have h1 := sgn_in (c :: r) 4 hs
          obtain ⟨k, hk⟩ : ∃ k, sgnN (c :: r) 4 = k + 1 := ⟨sgnN (c :: r) 4 - 1, by omega⟩
          rw [hk, List.take_succ_cons] at h1
          exact sign_heads _ (by unfold sgnB at h1; simpa using h1) c (by simp)
/-- A piece is one token. -/
theorem piece_one {R : List UInt8} {t : Tk} {n k : Nat} (h0 : gap R = (0, true)) (ht : tokO R = some (t, n)) (hg : gap (R.drop n) = (k, true)) : lexA (R.take (n + k)) 0 0 = .ok [{ t with pos := 0 }] := by
  match R with
  | [] => cases ht
  | c :: r =>
    have hts := tokO_size ht
    have htc := tok_cut (m := n + k) (by omega) ht
    have hgc := gap_cut _ _ _ (Nat.le_refl _) hg
    obtain ⟨i, hi⟩ : ∃ i, n + k = i + 1 := ⟨n + k - 1, by omega⟩
    have hdr : (r.take i).drop (n - 1) = ((c :: r).drop n).take k := by
      obtain ⟨n', rfl⟩ : ∃ j, n = j + 1 := ⟨n - 1, by omega⟩
      rw [List.drop_succ_cons, List.drop_take]
      rw [show i - (n' + 1 - 1) = k by omega]; rfl
    have hgp : gap (c :: r.take i) = (0, true) := by
      rw [gap] at h0 ⊢
      split at h0
      · injection h0 with h0 _; omega
      · rename_i hb
        rw [if_neg hb]
        split at h0
        · cases h0
        · rename_i hr
          have hrr : remN (c :: r.take i) = some 0 := by
            match r, i with
            | [], i => simp [remN]
            | d :: r', 0 => simp [remN]
            | d :: r', i + 1 =>
              rw [List.take_succ_cons]
              unfold remN at hr ⊢
              simp only at hr ⊢
              split at hr
              · rename_i hc
                injection hr with hr
                rw [hc.1, hc.2] at hr; simp [lineN] at hr
              · rename_i hc
                rw [if_neg hc]
                split at hr
                · cases he : endN r' with
                  | none => rw [he] at hr; cases hr
                  | some y => rw [he] at hr; simp at hr
                · rename_i hc2; rw [if_neg hc2]
          rw [hrr]
        · injection h0 with h0 _; omega
    rw [hi, List.take_succ_cons] at htc ⊢
    rw [lexA_go hgp, List.drop_zero, lexB_cons, htc]
    have hd : tooDeep t 0 = false := by unfold tooDeep; simp
    simp only [hd, Bool.false_eq_true, if_false]
    rw [hdr, lexA_go hgc]
    have hl : ((c :: r).drop n).take k = [] ∨ True := .inr trivial
    rw [List.drop_eq_nil_of_le (by rw [List.length_take]; omega), lexB]
    simp [consT]
/-- The tokens' places, and the pieces between them. -/
theorem places (L : List UInt8) : ∀ (j p : Nat) (op : Int) (l : List Tk), L.length - p ≤ j → p ≤ L.length → gap (L.drop p) = (0, true) → lexB (L.drop p) (p : Int) op = .ok l →
    (l = [] ∧ p = L.length) ∨ ∃ t l' q, l = t :: l' ∧ t.pos = (p : Int) ∧ p < q ∧ q ≤ L.length ∧ by8 L p < 128 ∧ lexA ((L.take q).drop p) 0 0 = .ok [{ t with pos := 0 }] ∧
      gap (L.drop q) = (0, true) ∧ (∃ op', lexB (L.drop q) (q : Int) op' = .ok l')
  | j, p, op, l, hj, hp, hg, h => by
    by_cases he : p = L.length
    · rw [List.drop_eq_nil_of_le (by omega), lexB] at h; injection h with h; exact .inl ⟨h.symm, he⟩
    · right
      have hlt : p < L.length := by omega
      have hd : L.drop p = L[p] :: L.drop (p + 1) := List.drop_eq_getElem_cons hlt
      rw [hd, lexB_cons] at h
      cases ht : tokO (L[p] :: L.drop (p + 1)) with
      | none => rw [ht] at h; cases h
      | some x =>
        obtain ⟨t, n⟩ := x
        rw [ht] at h
        simp only at h
        have hts := tokO_size ht
        simp only [List.length_cons, List.length_drop] at hts
        have hdn : (L.drop (p + 1)).drop (n - 1) = L.drop (p + n) := by rw [List.drop_drop]; congr 1; omega
        rw [hdn] at h
        split at h
        · cases h
        · cases hg2 : gap (L.drop (p + n)) with
          | mk k f =>
            cases f
            · rw [lexA_stop hg2] at h; cases h
            · rw [lexA_go hg2, List.drop_drop] at h
              have hk := gap_le _ (L.drop (p + n)) (Nat.le_refl _)
              rw [hg2, List.length_drop] at hk
              simp only at hk
              cases hx : lexB (L.drop (p + n + k)) ((p : Int) + n + k) (opA t op) with
              | error e => rw [hx] at h; cases h
              | ok l' =>
                rw [hx] at h
                simp only [consT, Except.ok.injEq] at h
                subst h
                refine ⟨_, l', p + n + k, rfl, rfl, by omega, by omega, ?_, ?_, ?_, ⟨opA t op, ?_⟩⟩
                · rw [by8_ci hlt]; exact tok_head ht
                · have := piece_one (R := L.drop p) hg (by rw [hd]; exact ht) (by rw [List.drop_drop]; exact hg2)
                  rw [List.drop_take, show p + n + k - p = n + k by omega]; exact this
                · have := gap_still _ _ _ (Nat.le_refl _) hg2
                  rw [List.drop_drop] at this; exact this
                · rw [show (((p + n + k : Nat)) : Int) = (p : Int) + n + k by omega]; exact hx
end Go.Proofs.YtnkfodelgpidkaaGreatDoor
namespace Go.Proofs.YtnkfodelgpidkaaGreatDoor
set_option linter.unusedVariables false

def hxU (d : Nat) : UInt8 := UInt8.ofNat (if d < 10 then 48 + d else 87 + d)
/-- What is written for one byte. -/
def escL (c : UInt8) : List UInt8 :=
  if c = 92 ∨ c = 34 then [92, c] else if c = 10 then [92, 110] else if c = 13 then [92, 114] else if c = 9 then [92, 116]
  else if c.toNat < 32 then [92, 117, 48, 48, hxU (c.toNat / 16), hxU (c.toNat % 16)] else [c]
def escsL (L : List UInt8) : List UInt8 := L.flatMap escL
def quoteL (L : List UInt8) : List UInt8 := 34 :: (escsL L ++ [34])

theorem escsL_cons (c : UInt8) (r : List UInt8) : escsL (c :: r) = escL c ++ escsL r := by simp [escsL]
theorem escsL_append (a b : List UInt8) : escsL (a ++ b) = escsL a ++ escsL b := by simp [escsL]
theorem esc_all : ∀ n, n < 256 → oneT (escL (UInt8.ofNat n)) = some ([UInt8.ofNat n], (escL (UInt8.ofNat n)).length) ∧ (escL (UInt8.ofNat n)).head? ≠ some 34 ∧ 1 ≤ (escL (UInt8.ofNat n)).length ∧ (escL (UInt8.ofNat n)).length ≤ 6 := by decide +kernel
theorem esc_one (c : UInt8) : oneT (escL c) = some ([c], (escL c).length) ∧ (escL c).head? ≠ some 34 ∧ 1 ≤ (escL c).length ∧ (escL c).length ≤ 6 := by
  have := esc_all c.toNat c.toNat_lt; rwa [UInt8.ofNat_toNat] at this
theorem esc_low : ∀ n, n < 128 → ∀ d ∈ escL (UInt8.ofNat n), ci d < 128 := by decide +kernel
theorem esc_ascii {c : UInt8} (h : ci c < 128) : ∀ d ∈ escL c, ci d < 128 := by
  have := esc_low c.toNat (by unfold ci at h; omega); rwa [UInt8.ofNat_toNat] at this
theorem esc_high {c : UInt8} (h : 128 ≤ ci c) : escL c = [c] := by
  unfold ci at h
  have n1 : ¬ (c = 92 ∨ c = 34) := by rintro (rfl | rfl) <;> exact absurd h (by decide)
  have n2 : ¬ c = 10 := by rintro rfl; exact absurd h (by decide)
  have n3 : ¬ c = 13 := by rintro rfl; exact absurd h (by decide)
  have n4 : ¬ c = 9 := by rintro rfl; exact absurd h (by decide)
  unfold escL; rw [if_neg n1, if_neg n2, if_neg n3, if_neg n4, if_neg (by omega)]
theorem escs_size (L : List UInt8) : (escsL L).length ≤ 6 * L.length := by
  induction L with
  | nil => simp [escsL]
  | cons c r ih => rw [escsL_cons, List.length_append, List.length_cons]; have := (esc_one c).2.2.2; omega
theorem quote_size (L : List UInt8) : (quoteL L).length ≤ 6 * L.length + 2 := by unfold quoteL; have := escs_size L; simp; omega

theorem txt_escs : ∀ (L J : List UInt8), txt 34 (escsL L ++ 34 :: J) = some (L, (escsL L).length + 1)
  | [], J => by show txt 34 (34 :: J) = _; rw [txt, if_pos rfl]; rfl
  | c :: r, J => by
    have ih := txt_escs r J
    obtain ⟨h1, h2, h3, _⟩ := esc_one c
    rw [escsL_cons, List.append_assoc]
    generalize escsL r ++ 34 :: J = X at *
    generalize escL c = e at *
    match e, h3 with
    | d :: q, _ =>
      have hd : ¬ d = 34 := fun h => h2 (by rw [h]; rfl)
      have hj := one_join (J := X) h1
      rw [List.cons_append] at hj ⊢
      rw [txt, if_neg hd, hj]
      have e1 : (q ++ X).drop ((d :: q).length - 1) = X := by simp
      simp only [e1, ih]
      simp; omega
theorem tok_quote (L J : List UInt8) : tokO (quoteL L ++ J) = some (⟨4, 0, L, 0⟩, (quoteL L).length) := by
  have h := txt_escs L J
  unfold quoteL
  rw [List.cons_append, List.append_assoc]
  show tokO (34 :: (escsL L ++ 34 :: J)) = _
  unfold tokO
  simp only
  rw [if_neg (by decide), if_neg (by decide), if_pos (by decide)]
  rw [h]
  simp

/- Right texts, sign by sign. -/
theorem first_sign {c : UInt8} {r : List UInt8} (h : chk (c :: r) 0 = none) :
    ∃ A R, c :: r = A ++ R ∧ A ≠ [] ∧ chk A 0 = none ∧ chk R 0 = none ∧ ((A = [c] ∧ ci c < 128) ∨ ∀ d ∈ A, 128 ≤ ci d) := by
  have h0 : 0 < (c :: r).length := by simp
  have hc0 : by8 (c :: r) 0 = ci c := by rw [by8_ci h0]; rfl
  generalize hL : c :: r = L at *
  have hs : ¬ signAt L 0 < 0 := fun hs => by rw [chk_bad h0 hs] at h; cases h
  have hn : chk L (0 + stepAt L 0) = none := by rw [chk_more h0 hs] at h; exact h
  have hin := step_in h0
  have hr := siz4_range (by8 L 0) (by8 L (0 + 1)) (by8 L (0 + 2)) (by8 L (0 + 3))
  have hi := siz4_is (by8 L 0) (by8 L (0 + 1)) (by8 L (0 + 2)) (by8 L (0 + 3))
  have hz : siz4 (by8 L 0) (by8 L (0 + 1)) (by8 L (0 + 2)) (by8 L (0 + 3)) ≠ 0 := fun hz => hs (by unfold signAt sgn4; rw [if_pos hz]; decide)
  have hst : ((stepAt L 0 : Nat) : Int) = siz4 (by8 L 0) (by8 L (0 + 1)) (by8 L (0 + 2)) (by8 L (0 + 3)) := by
    unfold stepAt sizeAt; rw [if_neg hz]; omega
  have own := siz4_own (c := by8 L 0) (d := by8 L (0 + 1)) (e := by8 L (0 + 2)) (f := by8 L (0 + 3)) (by8 (L.take (stepAt L 0)) (0 + 1)) (by8 (L.take (stepAt L 0)) (0 + 2)) (by8 (L.take (stepAt L 0)) (0 + 3))
  have h4 : siz4 (by8 L 0) (by8 L (0 + 1)) (by8 L (0 + 2)) (by8 L (0 + 3)) = 1 ∨ siz4 (by8 L 0) (by8 L (0 + 1)) (by8 L (0 + 2)) (by8 L (0 + 3)) = 2 ∨ siz4 (by8 L 0) (by8 L (0 + 1)) (by8 L (0 + 2)) (by8 L (0 + 3)) = 3 ∨ siz4 (by8 L 0) (by8 L (0 + 1)) (by8 L (0 + 2)) (by8 L (0 + 3)) = 4 := by omega
  have hdrop : chk (L.drop (stepAt L 0)) 0 = none := by
    have h2 := chk_right (L.take (stepAt L 0)) (L.drop (stepAt L 0)) _ 0 (Nat.le_refl _)
    rw [List.take_append_drop, List.length_take, Nat.min_eq_left (by omega), Nat.add_zero] at h2
    rw [Nat.zero_add] at hn
    rw [hn] at h2
    cases hx : chk (L.drop (stepAt L 0)) 0 with
    | none => rfl
    | some x => rw [hx] at h2; cases h2
  have htake : sizeAt (L.take (stepAt L 0)) 0 = sizeAt L 0 ∧ signAt (L.take (stepAt L 0)) 0 = signAt L 0 := by
    have hn4 : stepAt L 0 ≠ 0 := by omega
    unfold sizeAt signAt
    rw [by8_take (show 0 < stepAt L 0 by omega)]
    rcases h4 with h4 | h4 | h4 | h4
    · have o := own.1 h4
      exact ⟨o.1.trans h4.symm, o.2⟩
    · have o := own.2.1 h4
      rw [by8_take (show 0 + 1 < stepAt L 0 by omega)]
      exact ⟨o.1.trans h4.symm, o.2⟩
    · have o := own.2.2 h4
      rw [by8_take (show 0 + 1 < stepAt L 0 by omega), by8_take (show 0 + 2 < stepAt L 0 by omega)]
      exact ⟨o.1.trans h4.symm, o.2⟩
    · rw [by8_take (show 0 + 1 < stepAt L 0 by omega), by8_take (show 0 + 2 < stepAt L 0 by omega), by8_take (show 0 + 3 < stepAt L 0 by omega)]
      exact ⟨rfl, rfl⟩
  have hlen : (L.take (stepAt L 0)).length = stepAt L 0 := by rw [List.length_take]; omega
  have hstT : stepAt (L.take (stepAt L 0)) 0 = stepAt L 0 := by
    have e : stepAt (L.take (stepAt L 0)) 0 = if sizeAt (L.take (stepAt L 0)) 0 = 0 then 1 else (sizeAt (L.take (stepAt L 0)) 0).toNat := rfl
    rw [e, htake.1]; rfl
  have htk : chk (L.take (stepAt L 0)) 0 = none := by
    rw [chk_more (by omega) (by rw [htake.2]; exact hs), hstT, Nat.zero_add]
    exact chk_done (by omega)
  refine ⟨L.take (stepAt L 0), L.drop (stepAt L 0), (List.take_append_drop _ _).symm, fun e => by rw [e] at hlen; simp at hlen; omega, htk, hdrop, ?_⟩
  by_cases hlow : by8 L 0 < 128
  · left
    have h1 := hi.1.2 hlow
    have h1s : stepAt L 0 = 1 := by omega
    refine ⟨?_, by rw [← hc0]; exact hlow⟩
    rw [h1s, ← hL]; rfl
  · right
    intro d hd
    obtain ⟨i, hi2, rfl⟩ := List.mem_iff_getElem.1 hd
    have hi3 : i < stepAt L 0 := by rw [← hlen]; exact hi2
    have hin2 : stepAt L 0 ≤ L.length := (Nat.zero_add (stepAt L 0)) ▸ hin
    have hiL : i < L.length := Nat.lt_of_lt_of_le hi3 hin2
    refine Int.le_trans ?_ (Int.le_of_eq ((by8_ci hiL).trans (congrArg ci (List.getElem_take (h := hi2)).symm)))
    clear hd hi2
    have hc : i = 0 ∨ i = 0 + 1 ∨ i = 0 + 2 ∨ i = 0 + 3 := by omega
    rcases hc with rfl | rfl | rfl | rfl
    · omega
    all_goals
      rcases h4 with h4 | h4 | h4 | h4
      · omega
      · have := hi.2.1.1 h4; omega
      · have := hi.2.2.1.1 h4; omega
      · have := hi.2.2.2.1 h4; omega
theorem chk_behind {A R : List UInt8} (h : chk (A ++ R) 0 = none) (hA : chk A 0 = none) : chk R 0 = none := by
  rw [chk_join hA] at h
  cases hx : chk R 0 with
  | none => rfl
  | some x => rw [hx] at h; cases h
theorem chk_both {A R : List UInt8} (hA : chk A 0 = none) (hR : chk R 0 = none) : chk (A ++ R) 0 = none := by
  rw [chk_join hA, hR]; rfl
theorem chk_low {c : UInt8} (h : ci c < 128) : chk [c] 0 = none := chk_ascii [c] (fun d hd => by simp at hd; rw [hd]; exact h) _ 0 (Nat.le_refl _)
theorem chk_tail {c : UInt8} {r : List UInt8} (h : chk (c :: r) 0 = none) (hc : ci c < 128) : chk r 0 = none := chk_behind (A := [c]) h (chk_low hc)
theorem chk_nil : chk [] 0 = none := chk_done (by simp)
theorem right_ind {P : List UInt8 → Prop} (h0 : P []) (h1 : ∀ c R, ci c < 128 → chk R 0 = none → P R → P (c :: R))
    (h2 : ∀ A R, (∀ d ∈ A, 128 ≤ ci d) → chk A 0 = none → chk R 0 = none → P R → P (A ++ R)) : ∀ (j : Nat) (L : List UInt8), L.length ≤ j → chk L 0 = none → P L
  | _, [], _, _ => h0
  | 0, c :: r, hj, _ => by simp at hj
  | j + 1, c :: r, hj, h => by
    obtain ⟨A, R, e, hne, hA, hR, hc⟩ := first_sign h
    have hl : (c :: r).length = A.length + R.length := by rw [e, List.length_append]
    have hA1 : 1 ≤ A.length := by cases A with | nil => exact absurd rfl hne | cons a b => simp
    have ih := right_ind h0 h1 h2 j R (by simp at hj hl; omega) hR
    rw [e]
    rcases hc with ⟨rfl, hc⟩ | hc
    · exact h1 c R hc hR ih
    · exact h2 A R hc hA hR ih
theorem escs_high : ∀ (A : List UInt8), (∀ d ∈ A, 128 ≤ ci d) → escsL A = A
  | [], _ => rfl
  | c :: r, h => by rw [escsL_cons, esc_high (h c (by simp)), escs_high r (fun d hd => h d (by simp [hd]))]; rfl
theorem chk_escs {L : List UInt8} (h : chk L 0 = none) : chk (escsL L) 0 = none := by
  refine right_ind (P := fun L => chk (escsL L) 0 = none) chk_nil ?_ ?_ _ L (Nat.le_refl _) h
  · intro c R hc hR ih
    show chk (escsL (c :: R)) 0 = none
    rw [escsL_cons]; exact chk_both (chk_ascii _ (esc_ascii hc) _ 0 (Nat.le_refl _)) ih
  · intro A R hc hA hR ih
    show chk (escsL (A ++ R)) 0 = none
    rw [escsL_append, escs_high A hc]; exact chk_both hA ih
theorem chk_quote {L : List UInt8} (h : chk L 0 = none) : chk (quoteL L) 0 = none :=
  chk_both (A := [34]) (chk_low (by decide)) (chk_both (chk_escs h) (chk_low (by decide)))

theorem txt_high (q : UInt8) (hq : ci q < 128) : ∀ (A R : List UInt8), (∀ d ∈ A, 128 ≤ ci d) → txt q (A ++ R) = (txt q R).map fun x => (A ++ x.1, A.length + x.2)
  | [], R, _ => by
    rw [List.nil_append]
    cases txt q R with
    | none => rfl
    | some x => simp
  | c :: r, R, h => by
    have hc := h c (by simp)
    have hne : ¬ c = q := fun e => by rw [e] at hc; omega
    have ho : oneT (c :: (r ++ R)) = some ([c], 1) := by unfold oneT; simp only; rw [if_neg (by omega), if_neg (by omega)]
    rw [List.cons_append, txt, if_neg hne, ho]
    simp only [Nat.sub_self, List.drop_zero]
    rw [txt_high q hq r R (fun d hd => h d (by simp [hd]))]
    cases txt q R with
    | none => rfl
    | some x => simp; omega
theorem hexN_right : ∀ (i : Nat) (R : List UInt8) (n x : Int), hexN i R n = some x → chk R 0 = none → chk (R.drop i) 0 = none
  | 0, R, n, x, _, h => by simpa using h
  | i + 1, [], n, x, h, _ => by cases h
  | i + 1, c :: r, n, x, h, hk => by
    rw [hexN] at h
    split at h
    · cases h
    · rename_i hc
      have hlow : ci c < 128 := by unfold hexI at hc; split at hc; omega; split at hc; omega; split at hc; omega; exact absurd rfl hc
      rw [List.drop_succ_cons]
      exact hexN_right i r _ x h (chk_tail hk hlow)
theorem esc_right {R o : List UInt8} {n : Nat} (hk : chk R 0 = none) (h : escT R = some (o, n)) : chk o 0 = none ∧ chk (R.drop n) 0 = none := by
  match R with
  | [] => cases h
  | d :: r =>
    unfold escT at h
    simp only at h
    have one : ∀ (e : UInt8), ci d < 128 → ci e < 128 → some ([e], 1) = some (o, n) → chk o 0 = none ∧ chk ((d :: r).drop n) 0 = none := by
      intro e hd he h
      injection h with h; injection h with h1 h2
      subst h1; subst h2
      exact ⟨chk_low he, chk_tail hk hd⟩
    split at h
    · rename_i c1; exact one d (by omega) (by omega) h
    split at h
    · rename_i c1; exact one 10 (by omega) (by decide) h
    split at h
    · rename_i c1; exact one 13 (by omega) (by decide) h
    split at h
    · rename_i c1; exact one 9 (by omega) (by decide) h
    split at h
    · rename_i c1; exact one 0 (by omega) (by decide) h
    split at h
    · rename_i c1
      cases hx : hexN 4 r 0 with
      | none => rw [hx] at h; cases h
      | some x =>
        rw [hx] at h
        simp only at h
        split at h
        · cases h
        · rename_i hs
          injection h with h; injection h with h1 h2
          subst h1; subst h2
          exact ⟨(put_right hs).1, hexN_right 4 r 0 x hx (chk_tail hk (by omega))⟩
    · cases h
theorem txt_right (q : UInt8) (hq : ci q < 128) : ∀ (j : Nat) (R o : List UInt8) (m : Nat), R.length ≤ j → chk R 0 = none → txt q R = some (o, m) → chk o 0 = none
  | j, [], o, m, _, _, h => by rw [txt] at h; cases h
  | 0, c :: r, o, m, hj, _, _ => by simp at hj
  | j + 1, c :: r, o, m, hj, hk, h => by
    obtain ⟨A, R, e, hne, hA, hR, hc⟩ := first_sign hk
    have hl : (c :: r).length = A.length + R.length := by rw [e, List.length_append]
    have hA1 : 1 ≤ A.length := by cases A with | nil => exact absurd rfl hne | cons a b => simp
    rcases hc with ⟨rfl, hc⟩ | hc
    · rw [txt] at h
      split at h
      · injection h with h; injection h with h1 h2; subst h1; exact chk_nil
      · cases ho : oneT (c :: r) with
        | none => rw [ho] at h; cases h
        | some x =>
          obtain ⟨o1, n⟩ := x
          rw [ho] at h
          simp only at h
          cases ht : txt q (r.drop (n - 1)) with
          | none => rw [ht] at h; cases h
          | some y =>
            obtain ⟨p, k⟩ := y
            rw [ht] at h
            injection h with h; injection h with h1 h2
            subst h1
            have hr := chk_tail hk hc
            have key : chk o1 0 = none ∧ chk (r.drop (n - 1)) 0 = none := by
              unfold oneT at ho
              simp only at ho
              split at ho
              · cases he : escT r with
                | none => rw [he] at ho; cases ho
                | some z =>
                  obtain ⟨o2, n2⟩ := z
                  rw [he] at ho
                  injection ho with ho; injection ho with h3 h4
                  subst h3; subst h4
                  exact esc_right hr he
              · split at ho
                · cases ho
                · injection ho with ho; injection ho with h3 h4
                  subst h3; subst h4
                  exact ⟨chk_low hc, hr⟩
            exact chk_both key.1 (txt_right q hq j (r.drop (n - 1)) p k (by rw [List.length_drop]; simp at hj; omega) key.2 ht)
    · rw [e, txt_high q hq A R hc] at h
      cases ht : txt q R with
      | none => rw [ht] at h; cases h
      | some y =>
        obtain ⟨p, k⟩ := y
        rw [ht] at h
        simp only [Option.map_some, Option.some.injEq, Prod.mk.injEq] at h
        obtain ⟨rfl, _⟩ := h
        exact chk_both hA (txt_right q hq j R p k (by simp at hj hl; omega) hR ht)
end Go.Proofs.YtnkfodelgpidkaaGreatDoor
namespace Go.Proofs.YtnkfodelgpidkaaGreatDoor
set_option linter.unusedVariables false

/- Decimal digits. -/
theorem digs_append (base : Int) (m : List UInt8) : ∀ (l : List UInt8) (n : Int), digs base (l ++ m) n = (digs base l n).bind (digs base m)
  | [], n => rfl
  | c :: r, n => by
    rw [List.cons_append, digs, digs]
    split
    · rfl
    · split
      · rfl
      · exact digs_append base m r _
theorem dec_byte {d : Nat} (h : d < 10) : ci (UInt8.ofNat (48 + d)) = 48 + d := by unfold ci; rw [UInt8.toNat_ofNat']; omega
theorem dec_hex {d : Nat} (h : d < 10) : hexI (ci (UInt8.ofNat (48 + d))) = d := by
  rw [dec_byte h]; unfold hexI; rw [if_pos (by omega)]; omega
theorem dec_digs (u : Nat) : u ≤ 9007199254740992 → digs 10 (Lib.decDigits u) 0 = some (u : Int) := by
  induction u using Nat.strongRecOn with
  | ind u ih =>
    intro hu
    rw [Lib.decDigits]
    by_cases h : u < 10
    · rw [dif_pos h, digs, dec_hex h, if_neg (by omega), if_neg (by omega), digs]; simp
    · rw [dif_neg h, digs_append, ih (u / 10) (by omega) (by omega)]
      show digs 10 _ _ = _
      rw [digs, dec_hex (Nat.mod_lt _ (by decide)), if_neg (by omega), if_neg (by omega), digs]
      congr 1; omega
theorem dec_head (u : Nat) : 0 < u → ∃ c r, Lib.decDigits u = c :: r ∧ c ≠ 48 := by
  induction u using Nat.strongRecOn with
  | ind u ih =>
    intro hu
    rw [Lib.decDigits]
    by_cases h : u < 10
    · rw [dif_pos h]
      refine ⟨_, [], rfl, ?_⟩
      intro e
      have := dec_byte h
      rw [e] at this
      have h48 : ci 48 = 48 := rfl
      omega
    · rw [dif_neg h]
      obtain ⟨c, r, e, hc⟩ := ih (u / 10) (by omega) (by omega)
      rw [e]; exact ⟨c, _, rfl, hc⟩
theorem dec_zero : Lib.decDigits 0 = [48] := by rw [Lib.decDigits]; rfl
theorem dec_num (u : Nat) (hu : u ≤ 9007199254740992) : numO (Lib.decDigits u) = some (u : Int) := by
  by_cases h : u = 0
  · subst h; rw [dec_zero]; rfl
  · obtain ⟨c, r, e, hc⟩ := dec_head u (by omega)
    have hd := dec_digs u hu
    rw [e] at hd ⊢
    unfold numO
    rw [if_neg (by simp [hc]), if_neg (by cases r <;> simp [hc]), if_neg (by simp [hc])]
    exact hd
theorem dec_parts (u : Nat) : ∀ c ∈ Lib.decDigits u, digB (ci c) = true := by
  intro c hc
  obtain ⟨h1, h2⟩ := Bt.dec_all u c hc
  unfold digB ci; simp only [decide_eq_true_eq]; omega
theorem dig_np {c : UInt8} (h : digB (ci c) = true) : npB (ci c) = true := by
  unfold digB at h; unfold npB; simp only [decide_eq_true_eq] at h ⊢; omega
theorem nm_all : ∀ (L : List UInt8), (∀ c ∈ L, npB (ci c) = true) → nmL L = L.length
  | [], _ => rfl
  | c :: r, h => by rw [nmL, if_pos (h c (by simp)), nm_all r (fun d hd => h d (by simp [hd]))]; rfl

/- Which tokens there are. -/
def Gd (t : Tk) : Prop := (t.kind = 1 ∧ nameB t.text = true ∧ t.bits = 0) ∨ (t.kind = 2 ∧ wordB t.text = true ∧ t.bits = 0) ∨
  (t.kind = 3 ∧ t.text = [] ∧ ∃ u : Nat, u ≤ 9007199254740992 ∧ t.bits = ofI u) ∨ (t.kind = 4 ∧ chk t.text 0 = none ∧ t.bits = 0) ∨ (t.kind = 5 ∧ sgnB t.text = true ∧ t.bits = 0)
theorem Gd.at {t : Tk} (h : Gd t) (a : Int) : Gd { t with pos := a } := h

theorem digs_range {base : Int} (hb : 0 ≤ base) : ∀ (l : List UInt8) (n x : Int), digs base l n = some x → 0 ≤ n → n ≤ 9007199254740992 → 0 ≤ x ∧ x ≤ 9007199254740992
  | [], n, x, h, h0, h1 => by rw [digs] at h; injection h with h; omega
  | c :: r, n, x, h, h0, h1 => by
    rw [digs] at h
    have := hexI_range (ci c)
    split at h
    · cases h
    · split at h
      · cases h
      · have h2 := Int.mul_nonneg h0 hb
        exact digs_range hb r _ x h (by omega) (by omega)
theorem num_range {P : List UInt8} {x : Int} (h : numO P = some x) : 0 ≤ x ∧ x ≤ 9007199254740992 := by
  unfold numO at h
  split at h
  · injection h with h; omega
  · split at h
    · split at h
      · cases h
      · exact digs_range (by decide) _ _ _ h (by decide) (by decide)
    · split at h
      · cases h
      · exact digs_range (by decide) _ _ _ h (by decide) (by decide)
theorem tok_good {c : UInt8} {r : List UInt8} {t : Tk} {n : Nat} (hk : chk (c :: r) 0 = none) (h : tokO (c :: r) = some (t, n)) : Gd t ∧ t.pos = 0 := by
  have hlow := tok_head h
  unfold tokO at h
  simp only at h
  split at h
  · cases hn : numO ((c :: r).take (nmL (c :: r))) with
    | none => rw [hn] at h; cases h
    | some x =>
      rw [hn] at h
      injection h with h; injection h with h _
      subst h
      have := num_range hn
      exact ⟨.inr (.inr (.inl ⟨rfl, rfl, x.toNat, by omega, by show ofI x = _; rw [Int.toNat_of_nonneg this.1]⟩)), rfl⟩
  · rename_i hdig
    split at h
    · rename_i hnp
      injection h with h; injection h with h _
      subst h
      refine ⟨?_, rfl⟩
      have hpos := nm_pos (r := r) hnp
      have hlet : letB (ci c) = true := by
        unfold digB at hdig; unfold npB at hnp; unfold letB; simp only [decide_eq_true_eq] at hdig hnp ⊢; omega
      have hcut := nm_cut (c :: r) (nmL (c :: r)) (Nat.le_refl _)
      have hle := nmL_le (c :: r)
      obtain ⟨k, hkk⟩ : ∃ k, nmL (c :: r) = k + 1 := ⟨nmL (c :: r) - 1, by omega⟩
      cases hw : wordB ((c :: r).take (nmL (c :: r)))
      · refine .inl ⟨rfl, ?_, rfl⟩
        show nameB ((c :: r).take (nmL (c :: r))) = true
        have hlen : ((c :: r).take (nmL (c :: r))).length = nmL (c :: r) := by rw [List.length_take]; omega
        have hnn : nameN ((c :: r).take (nmL (c :: r))) = ((c :: r).take (nmL (c :: r))).length := by
          rw [hlen]
          conv => rhs; rw [← hcut]
          rw [hkk, List.take_succ_cons]
          unfold nameN; simp only [hlet, if_true]
        unfold nameB
        rw [hw, hnn, hkk, List.take_succ_cons]; simp
      · exact .inr (.inl ⟨rfl, hw, rfl⟩)
    · rename_i hnp
      split at h
      · rename_i hq
        cases hx : txt c r with
        | none => rw [hx] at h; cases h
        | some x =>
          obtain ⟨o, m⟩ := x
          rw [hx] at h
          injection h with h; injection h with h _
          subst h
          exact ⟨.inr (.inr (.inr (.inl ⟨rfl, txt_right c hlow _ r o m (Nat.le_refl _) (chk_tail hk hlow) hx, rfl⟩))), rfl⟩
      · split at h
        · cases h
        · rename_i hs
          injection h with h; injection h with h _
          subst h
          exact ⟨.inr (.inr (.inr (.inr ⟨rfl, sgn_in _ 4 hs, rfl⟩))), rfl⟩

/- What is written of one. -/
def printL (t : Tk) : List UInt8 :=
  if t.kind = 1 ∨ t.kind = 2 ∨ t.kind = 5 then t.text else if t.kind = 3 then (Bt.textI t.bits).data.toList else if t.kind = 4 then quoteL t.text else []
theorem print_num {u : Nat} (h : u ≤ 9007199254740992) : (Bt.textI (ofI u)).data.toList = Lib.decDigits u := by
  rw [show (ofI u) = Bt.ofI u from rfl, Bt.text_of (by omega) (by omega)]
  show Lib.itoa (u : Int) = _
  unfold Lib.itoa; rw [if_neg (by omega)]; rfl

/- A blank behind. -/
theorem nm_stop (R B : List UInt8) {b : UInt8} (hb : npB (ci b) = false) : nmL (R ++ b :: B) = nmL R := by
  induction R with
  | nil => show nmL (b :: B) = 0; rw [nmL, hb]; rfl
  | cons c r ih => simp only [List.cons_append, nmL]; rw [ih]
theorem signs_blank : ∀ P ∈ signs, ¬ (32 : UInt8) ∈ P ∧ ¬ (10 : UInt8) ∈ P := by decide +kernel
theorem sgn_stop (R B : List UInt8) {b : UInt8} (hb : b = 32 ∨ b = 10) : ∀ n, sgnN (R ++ b :: B) n = sgnN R n
  | 0 => rfl
  | n + 1 => by
    have ih := sgn_stop R B hb n
    rw [sgnN, sgnN, ih]
    by_cases hl : n + 1 ≤ R.length
    · rw [take_join _ hl]
      have : n + 1 ≤ (R ++ b :: B).length := by simp; omega
      simp only [hl, this]
    · have hno : ¬ (n + 1 ≤ (R ++ b :: B).length ∧ sgnB ((R ++ b :: B).take (n + 1)) = true) := by
        intro ⟨h1, h2⟩
        have hm : b ∈ (R ++ b :: B).take (n + 1) := by
          rw [List.take_append, List.mem_append]
          right
          obtain ⟨m, hm⟩ : ∃ m, n + 1 - R.length = m + 1 := ⟨n - R.length, by omega⟩
          rw [hm]; simp
        have hs := signs_blank _ (by unfold sgnB at h2; simpa using h2)
        rcases hb with rfl | rfl
        · exact hs.1 hm
        · exact hs.2 hm
      rw [if_neg hno, if_neg (fun h => hl h.1)]
theorem tok_stop {R : List UInt8} {t : Tk} {n : Nat} (B : List UInt8) {b : UInt8} (hb : b = 32 ∨ b = 10) (h : tokO R = some (t, n)) : tokO (R ++ b :: B) = some (t, n) := by
  match R with
  | [] => cases h
  | c :: r =>
    have hn := nm_stop (c :: r) B (b := b) (by rcases hb with rfl | rfl <;> decide)
    have ht := take_join (b :: B) (nmL_le (c :: r))
    have hs := sgn_stop (c :: r) B hb 4
    have hst := take_join (b :: B) (sgnN_le (c :: r) 4).2
    rw [List.cons_append] at hn ht hs hst ⊢
    unfold tokO at h ⊢
    simp only at h ⊢
    rw [hn, ht, hs, hst]
    split at h
    · rename_i hc; rw [if_pos hc]; exact h
    · rename_i hc
      rw [if_neg hc]
      split at h
      · rename_i hc2; rw [if_pos hc2]; exact h
      · rename_i hc2
        rw [if_neg hc2]
        split at h
        · rename_i hc3
          rw [if_pos hc3]
          cases hx : txt c r with
          | none => rw [hx] at h; cases h
          | some x =>
            obtain ⟨o, m⟩ := x
            rw [txt_join (b :: B) _ (Nat.le_refl _) hx]
            rw [hx] at h; exact h
        · rename_i hc3; rw [if_neg hc3]; exact h

theorem sign_toks' : signs.all (fun P => match tokO P with | some (⟨k, p, x, b⟩, n) => k == 5 && p == 0 && x == P && b == 0 && n == P.length | none => false) = true := by decide +kernel
theorem sign_toks (P : List UInt8) (h : P ∈ signs) : tokO P = some (⟨5, 0, P, 0⟩, P.length) := by
  have := List.all_eq_true.1 sign_toks' P h
  cases ht : tokO P with
  | none => rw [ht] at this; cases this
  | some x =>
    obtain ⟨⟨k, p, x, b⟩, n⟩ := x
    rw [ht] at this
    simp only [Bool.and_eq_true, beq_iff_eq] at this
    obtain ⟨⟨⟨⟨rfl, rfl⟩, rfl⟩, rfl⟩, rfl⟩ := this
    rfl
theorem sign_gaps : ∀ P ∈ signs, P ≠ [] ∧ P.head? ≠ some 32 ∧ P.head? ≠ some 9 ∧ P.head? ≠ some 13 ∧ P.head? ≠ some 10 ∧ P.take 2 ≠ [47, 47] ∧ P.take 2 ≠ [47, 42] := by decide +kernel
/-- A token that is written is that token. -/
theorem tok_name {L : List UInt8} (h0 : L ≠ []) (hn : nameN L = L.length) : tokO L = some (⟨if wordB L then 2 else 1, 0, L, 0⟩, L.length) := by
  match L, h0 with
  | c :: r, _ =>
    have hlet : letB (ci c) = true := by
      unfold nameN at hn; simp only at hn
      cases hx : letB (ci c)
      · rw [hx] at hn; simp at hn
      · rfl
    have hnm : nmL (c :: r) = (c :: r).length := by unfold nameN at hn; simp only [hlet, if_true] at hn; exact hn
    have hnp : npB (ci c) = true := nm_full hnm c (by simp)
    have hdg : digB (ci c) = false := by
      unfold letB at hlet; unfold digB; simp only [decide_eq_true_eq] at hlet; rw [decide_eq_false_iff_not]; omega
    unfold tokO; simp only [hdg, hnp, hnm, List.take_length, if_true]; rfl
theorem tok_dec (u : Nat) (hu : u ≤ 9007199254740992) : tokO (Lib.decDigits u) = some (⟨3, 0, [], ofI u⟩, (Lib.decDigits u).length) := by
  have hne := Bt.dec_ne u
  have hp := dec_parts u
  have hn := dec_num u hu
  generalize Lib.decDigits u = L at *
  match L, hne with
  | c :: r, _ =>
    have h1 := hp c (by simp)
    have h2 := nm_all (c :: r) (fun d hd => dig_np (hp d hd))
    unfold tokO
    simp only [h1, h2, List.take_length, hn, if_true]
theorem tok_print {t : Tk} (h : Gd t) : tokO (printL t) = some ({ t with pos := 0 }, (printL t).length) := by
  obtain ⟨k, p, x, b⟩ := t
  rcases h with ⟨h1, h2, h3⟩ | ⟨h1, h2, h3⟩ | ⟨h1, h2, u, hu, h3⟩ | ⟨h1, h2, h3⟩ | ⟨h1, h2, h3⟩ <;> (simp only at h1 h2 h3; subst h1)
  · subst h3
    obtain ⟨a1, a2, a3⟩ := name_parts h2
    show tokO x = some (⟨1, 0, x, 0⟩, x.length)
    rw [tok_name a1 a2, a3]; rfl
  · subst h3
    obtain ⟨a2, a1⟩ := words_names x (by unfold wordB at h2; simpa using h2)
    show tokO x = some (⟨2, 0, x, 0⟩, x.length)
    rw [tok_name a1 a2, h2]; rfl
  · subst h2; subst h3
    have e : printL ⟨3, p, [], ofI u⟩ = Lib.decDigits u := print_num hu
    rw [e]; exact tok_dec u hu
  · subst h3
    have e : printL ⟨4, p, x, 0⟩ = quoteL x := rfl
    rw [e]
    have := tok_quote x []
    rwa [List.append_nil] at this
  · subst h3
    have e : printL ⟨5, p, x, 0⟩ = x := rfl
    rw [e]; exact sign_toks x (by unfold sgnB at h2; simpa using h2)
theorem print_right {t : Tk} (h : Gd t) : chk (printL t) 0 = none := by
  obtain ⟨k, p, x, b⟩ := t
  rcases h with ⟨h1, h2, h3⟩ | ⟨h1, h2, h3⟩ | ⟨h1, h2, u, hu, h3⟩ | ⟨h1, h2, h3⟩ | ⟨h1, h2, h3⟩ <;> (simp only at h1 h2 h3; subst h1)
  · obtain ⟨a1, a2, a3⟩ := name_parts h2
    exact chk_ascii _ (fun d hd => np_small (nm_full (L := x) (by unfold nameN at a2; split at a2; rfl; split at a2; exact a2; simp at a2) d hd)) _ 0 (Nat.le_refl _)
  · obtain ⟨a2, a1⟩ := words_names x (by unfold wordB at h2; simpa using h2)
    exact chk_ascii _ (fun d hd => np_small (nm_full (L := x) (by unfold nameN at a2; split at a2; rfl; split at a2; exact a2; simp at a2) d hd)) _ 0 (Nat.le_refl _)
  · subst h2; subst h3
    have e : printL ⟨3, p, [], ofI u⟩ = Lib.decDigits u := print_num hu
    rw [e]
    exact chk_ascii _ (fun d hd => np_small (dig_np (dec_parts u d hd))) _ 0 (Nat.le_refl _)
  · have e : printL ⟨4, p, x, b⟩ = quoteL x := rfl
    rw [e]; exact chk_quote h2
  · have e : printL ⟨5, p, x, b⟩ = x := rfl
    rw [e]
    exact chk_ascii _ (sign_heads x (by unfold sgnB at h2; simpa using h2)) _ 0 (Nat.le_refl _)

/- What may stand between. -/
def Gp (g : List UInt8) : Prop := (∃ b r, g = b :: r ∧ (b = 32 ∨ b = 10)) ∧ (∀ c ∈ g, ci c < 128) ∧ ∀ J, gap J = (0, true) → gap (g ++ J) = (g.length, true)
theorem gap_head {R : List UInt8} (h0 : R ≠ []) (hb : ∀ c, R.head? = some c → blankB c = false) (h1 : R.take 2 ≠ [47, 47]) (h2 : R.take 2 ≠ [47, 42]) : gap R = (0, true) := by
  match R, h0 with
  | c :: r, _ =>
    have hb' := hb c rfl
    have hr : remN (c :: r) = some 0 := by
      unfold remN
      match r with
      | [] => rfl
      | d :: q =>
        simp only
        rw [if_neg (by rintro ⟨rfl, rfl⟩; exact h1 rfl), if_neg (by rintro ⟨rfl, rfl⟩; exact h2 rfl)]
    rw [gap, hb', hr]; rfl
theorem head_blank {c : UInt8} (h : npB (ci c) = true ∨ c = 34) : blankB c = false ∧ c ≠ 47 := by
  rcases h with h | rfl
  · constructor
    · cases hb : blankB c
      · rfl
      · unfold blankB at hb
        simp only [Bool.or_eq_true, beq_iff_eq] at hb
        rcases hb with ((e | e) | e) | e <;> (rw [e] at h; exact absurd h (by decide))
    · rintro rfl; exact absurd h (by decide)
  · exact ⟨by decide, by decide⟩
theorem print_gap {t : Tk} (h : Gd t) {g J : List UInt8} (hg : ∃ b r, g = b :: r ∧ (b = 32 ∨ b = 10)) : printL t ≠ [] ∧ gap (printL t ++ (g ++ J)) = (0, true) := by
  obtain ⟨k, p, x, b⟩ := t
  have soft : ∀ L : List UInt8, L ≠ [] → (∀ c, L.head? = some c → npB (ci c) = true ∨ c = 34) → L ≠ [] ∧ gap (L ++ (g ++ J)) = (0, true) := by
    intro L h0 hh
    match L, h0 with
    | c :: r, _ =>
      obtain ⟨e1, e2⟩ := head_blank (hh c rfl)
      refine ⟨by simp, gap_head (by simp) (fun d hd => by simp at hd; rw [← hd]; exact e1) ?_ ?_⟩
      · intro e
        have e3 : ((c :: r) ++ (g ++ J)).head? = some 47 := by
          have : (((c :: r) ++ (g ++ J)).take 2).head? = some 47 := by rw [e]; rfl
          simpa using this
        simp at e3; exact e2 e3
      · intro e
        have e3 : ((c :: r) ++ (g ++ J)).head? = some 47 := by
          have : (((c :: r) ++ (g ++ J)).take 2).head? = some 47 := by rw [e]; rfl
          simpa using this
        simp at e3; exact e2 e3
  rcases h with ⟨h1, h2, h3⟩ | ⟨h1, h2, h3⟩ | ⟨h1, h2, u, hu, h3⟩ | ⟨h1, h2, h3⟩ | ⟨h1, h2, h3⟩ <;> (simp only at h1 h2 h3; subst h1)
  · obtain ⟨a1, a2, a3⟩ := name_parts h2
    exact soft x a1 fun c hc => .inl (nm_full (L := x) (by unfold nameN at a2; split at a2; rfl; split at a2; exact a2; simp at a2) c (List.mem_of_mem_head? hc))
  · obtain ⟨a2, a1⟩ := words_names x (by unfold wordB at h2; simpa using h2)
    exact soft x a1 fun c hc => .inl (nm_full (L := x) (by unfold nameN at a2; split at a2; rfl; split at a2; exact a2; simp at a2) c (List.mem_of_mem_head? hc))
  · subst h2; subst h3
    have e : printL ⟨3, p, [], ofI u⟩ = Lib.decDigits u := print_num hu
    rw [e]
    exact soft _ (Bt.dec_ne u) fun c hc => .inl (dig_np (dec_parts u c (List.mem_of_mem_head? hc)))
  · have e : printL ⟨4, p, x, b⟩ = quoteL x := rfl
    rw [e]
    exact soft _ (by unfold quoteL; simp) fun c hc => .inr (by unfold quoteL at hc; simp at hc; exact hc.symm)
  · have e : printL ⟨5, p, x, b⟩ = x := rfl
    rw [e]
    obtain ⟨g0, g1, g2, g3, g4, g5, g6⟩ := sign_gaps x (by unfold sgnB at h2; simpa using h2)
    obtain ⟨d, q, rfl, hd⟩ := hg
    refine ⟨g0, ?_⟩
    match x, g0 with
    | [c], _ =>
      refine gap_head (by simp) (fun e he => ?_) ?_ ?_
      · simp at he; subst he
        unfold blankB; simp only [Bool.or_eq_false_iff, beq_eq_false_iff_ne]
        simp at g1 g2 g3 g4
        exact ⟨⟨⟨g1, g2⟩, g3⟩, g4⟩
      · intro e; simp at e; rcases hd with rfl | rfl <;> simp at e
      · intro e; simp at e; rcases hd with rfl | rfl <;> simp at e
    | c :: c2 :: r, _ =>
      refine gap_head (by simp) (fun e he => ?_) (by simpa using g5) (by simpa using g6)
      simp at he; subst he
      unfold blankB; simp only [Bool.or_eq_false_iff, beq_eq_false_iff_ne]
      simp at g1 g2 g3 g4
      exact ⟨⟨⟨g1, g2⟩, g3⟩, g4⟩

/- All of them, one behind the other. -/
def writL (l : List (Tk × List UInt8)) : List UInt8 := l.flatMap fun x => printL x.1 ++ x.2
def posed : List (Tk × List UInt8) → Int → List Tk
  | [], _ => []
  | x :: r, a => { x.1 with pos := a } :: posed r (a + (printL x.1).length + x.2.length)
def deepOK : List Tk → Int → Prop
  | [], _ => True
  | t :: r, op => tooDeep t op = false ∧ deepOK r (opA t op)
theorem writL_cons (x : Tk × List UInt8) (r : List (Tk × List UInt8)) : writL (x :: r) = printL x.1 ++ (x.2 ++ writL r) := by simp [writL]
theorem writ_gap : ∀ (l : List (Tk × List UInt8)), (∀ x ∈ l, Gd x.1 ∧ Gp x.2) → gap (writL l) = (0, true)
  | [], _ => by show gap [] = _; rw [gap]
  | x :: r, h => by
    obtain ⟨h1, h2⟩ := h x (by simp)
    rw [writL_cons]; exact (print_gap h1 h2.1).2
theorem writ_right : ∀ (l : List (Tk × List UInt8)), (∀ x ∈ l, Gd x.1 ∧ Gp x.2) → chk (writL l) 0 = none
  | [], _ => chk_nil
  | x :: r, h => by
    obtain ⟨h1, h2⟩ := h x (by simp)
    rw [writL_cons]
    exact chk_both (print_right h1) (chk_both (chk_ascii _ h2.2.1 _ 0 (Nat.le_refl _)) (writ_right r fun y hy => h y (by simp [hy])))
theorem deep_at {t : Tk} (a op : Int) : tooDeep { t with pos := a } op = tooDeep t op ∧ opA { t with pos := a } op = opA t op := ⟨rfl, rfl⟩
theorem lexB_writ : ∀ (l : List (Tk × List UInt8)) (a op : Int), (∀ x ∈ l, Gd x.1 ∧ Gp x.2) → deepOK (l.map (·.1)) op → lexB (writL l) a op = .ok (posed l a)
  | [], a, op, _, _ => by show lexB [] a op = _; rw [lexB]; rfl
  | x :: r, a, op, h, hd => by
    obtain ⟨h1, h2⟩ := h x (by simp)
    obtain ⟨d1, d2⟩ := hd
    have ih := lexB_writ r (a + (printL x.1).length + x.2.length) (opA x.1 op) (fun y hy => h y (by simp [hy])) d2
    have hg := writ_gap r (fun y hy => h y (by simp [hy]))
    obtain ⟨b, q, hbq, hb⟩ := h2.1
    have htk := tok_stop (q ++ writL r) hb (tok_print h1)
    have hgp := h2.2.2 (writL r) hg
    have hne := (print_gap h1 (J := []) h2.1).1
    have hlen := h2
    rw [writL_cons]
    have e0 : printL x.1 ++ (x.2 ++ writL r) = printL x.1 ++ b :: (q ++ writL r) := by rw [hbq]; rfl
    rw [e0]
    generalize hP : printL x.1 = P at *
    match P, hne with
    | c :: p, _ =>
      rw [List.cons_append] at htk ⊢
      rw [lexB_cons, htk]
      simp only
      rw [(deep_at 0 op).1, d1, (deep_at 0 op).2]
      have e1 : (p ++ b :: (q ++ writL r)).drop ((c :: p).length - 1) = x.2 ++ writL r := by simp [hbq]
      simp only [e1]
      unfold lexA
      rw [hgp]
      simp only
      have e2 : (x.2 ++ writL r).drop x.2.length = writL r := by simp
      rw [e2, ih, posed]
      unfold consT
      simp [hP]

theorem lexB_good (L : List UInt8) (hk : chk L 0 = none) : ∀ (j p : Nat) (a op : Int) (l : List Tk), L.length - p ≤ j → lexB (L.drop p) a op = .ok l → (∀ t ∈ l, Gd t) ∧ deepOK l op
  | j, p, a, op, l, hj, h => by
    cases hd : L.drop p with
    | nil =>
      rw [hd, lexB] at h
      injection h with h; subst h
      exact ⟨by simp, trivial⟩
    | cons c r =>
      have hp : p < L.length := by
        rcases Nat.lt_or_ge p L.length with h1 | h1
        · exact h1
        · rw [List.drop_eq_nil_of_le h1] at hd; cases hd
      match j, hj with
      | 0, hj => omega
      | j + 1, hj =>
        rw [hd, lexB_cons] at h
        cases ht : tokO (c :: r) with
        | none => rw [ht] at h; cases h
        | some x =>
          obtain ⟨t, n⟩ := x
          rw [ht] at h
          simp only at h
          cases hdp : tooDeep t op with
          | true => rw [hdp] at h; cases h
          | false =>
            rw [hdp] at h
            simp only [Bool.false_eq_true, if_false] at h
            have hlow := tok_head ht
            have hLp : L[p] = c := by
              have := List.drop_eq_getElem_cons hp
              rw [hd] at this; injection this with h1 _; exact h1.symm
            have hck : chk (c :: r) 0 = none := by
              rw [← hd]; exact chk_drop (by omega) (by rw [by8_ci hp, hLp]; exact hlow) hk
            have hgd := tok_good hck ht
            have hn := tokO_size ht
            have er : r.drop (n - 1) = L.drop (p + n) := by
              have : (c :: r).drop n = r.drop (n - 1) := by
                obtain ⟨k, rfl⟩ : ∃ k, n = k + 1 := ⟨n - 1, by omega⟩
                simp
              rw [← this, ← hd, List.drop_drop]
            rw [er] at h
            unfold lexA at h
            cases hg : gap (L.drop (p + n)) with
            | mk k f =>
              rw [hg] at h
              cases f with
              | false => cases h
              | true =>
                simp only [List.drop_drop] at h
                cases hx : lexB (L.drop (p + n + k)) (a + n + k) (opA t op) with
                | error e => rw [hx] at h; cases h
                | ok l2 =>
                  rw [hx] at h
                  injection h with h
                  subst h
                  obtain ⟨i1, i2⟩ := lexB_good L hk j (p + n + k) _ _ l2 (by omega) hx
                  refine ⟨fun u hu => ?_, hdp, i2⟩
                  rcases List.mem_cons.1 hu with rfl | hu
                  · exact hgd.1.at a
                  · exact i1 u hu
theorem lexL_parts {L : List UInt8} {l : List Tk} (h : lexL L = .ok l) : chk L 0 = none ∧ (∀ t ∈ l, Gd t) ∧ deepOK l 0 := by
  unfold lexL at h
  split at h
  · cases h
  · cases hk : chk L 0 with
    | some k => rw [hk] at h; cases h
    | none =>
      rw [hk] at h
      simp only at h
      refine ⟨rfl, ?_⟩
      unfold lexA at h
      cases hg : gap L with
      | mk k f =>
        rw [hg] at h
        cases f with
        | false => cases h
        | true => exact lexB_good L hk _ k _ 0 l (Nat.le_refl _) h
/-- What is written of a source's tokens has these tokens, at other places. -/
theorem lex_writ {L : List UInt8} {l : List Tk} (h : lexL L = .ok l) (z : List (Tk × List UInt8)) (hz : z.map (·.1) = l) (hg : ∀ x ∈ z, Gp x.2) (hlen : (writL z).length ≤ 4096) : lexL (writL z) = .ok (posed z 0) := by
  obtain ⟨_, h1, h2⟩ := lexL_parts h
  have hall : ∀ x ∈ z, Gd x.1 ∧ Gp x.2 := fun x hx => ⟨h1 x.1 (by rw [← hz]; exact List.mem_map_of_mem hx), hg x hx⟩
  unfold lexL
  rw [if_neg (by omega), writ_right z hall]
  simp only
  unfold lexA
  rw [writ_gap z hall]
  simp only [List.drop_zero]
  exact lexB_writ z _ 0 hall (by rw [hz]; exact h2)
theorem lex_long {L : List UInt8} (h : 4096 < L.length) : lexL L = .error (0, 3) := by unfold lexL; rw [if_pos h]
theorem posed_length : ∀ (z : List (Tk × List UInt8)) (a : Int), (posed z a).length = z.length
  | [], _ => rfl
  | x :: r, a => by unfold posed; rw [List.length_cons, posed_length r]; rfl
theorem posed_at : ∀ (z : List (Tk × List UInt8)) (a : Int) (k : Nat) (hk : k < z.length), ∃ b, (posed z a)[k]'(by rw [posed_length]; exact hk) = { z[k].1 with pos := b }
  | x :: r, a, 0, _ => ⟨a, rfl⟩
  | x :: r, a, k + 1, hk => by
    obtain ⟨b, hb⟩ := posed_at r (a + (printL x.1).length + x.2.length) k (by simpa using hk)
    exact ⟨b, by simpa [posed] using hb⟩

/- The gaps. -/
theorem gp_one : Gp [32] := ⟨⟨32, [], rfl, .inl rfl⟩, by decide, fun J h => by show gap (32 :: J) = _; rw [gap, h]; rfl⟩
theorem gp_feed : Gp [10] := ⟨⟨10, [], rfl, .inr rfl⟩, by decide, fun J h => by show gap (10 :: J) = _; rw [gap, h]; rfl⟩
theorem gp_feeds : Gp [10, 10] := ⟨⟨10, [10], rfl, .inr rfl⟩, by decide, fun J h => by show gap (10 :: 10 :: J) = _; rw [gap, gap, h]; rfl⟩
theorem gp_rem : Gp [32, 47, 42, 42, 47, 32] := ⟨⟨32, [47, 42, 42, 47, 32], rfl, .inl rfl⟩, by decide, fun J h => by
  show gap (32 :: 47 :: 42 :: 42 :: 47 :: 32 :: J) = _
  have h1 : gap (32 :: J) = (1, true) := by rw [gap, h]; rfl
  have hr : remN (47 :: 42 :: 42 :: 47 :: 32 :: J) = some 4 := rfl
  have h2 : gap (47 :: 42 :: 42 :: 47 :: 32 :: J) = (5, true) := by
    rw [gap, hr]
    show (if blankB 47 = true then _ else ((gap (32 :: J)).1 + 4, (gap (32 :: J)).2)) = _
    rw [h1]; rfl
  rw [gap, h2]; rfl⟩
theorem gp_line : Gp [32, 47, 47, 120, 10] := ⟨⟨32, [47, 47, 120, 10], rfl, .inl rfl⟩, by decide, fun J h => by
  show gap (32 :: 47 :: 47 :: 120 :: 10 :: J) = _
  have h1 : gap (10 :: J) = (1, true) := by rw [gap, h]; rfl
  have hr : remN (47 :: 47 :: 120 :: 10 :: J) = some 3 := rfl
  have h2 : gap (47 :: 47 :: 120 :: 10 :: J) = (4, true) := by
    rw [gap, hr]
    show (if blankB 47 = true then _ else ((gap (10 :: J)).1 + 3, (gap (10 :: J)).2)) = _
    rw [h1]; rfl
  rw [gap, h2]; rfl⟩
theorem gp_remA : Gp [32, 47, 42, 97, 59, 42, 47, 32] := ⟨⟨32, [47, 42, 97, 59, 42, 47, 32], rfl, .inl rfl⟩, by decide, fun J h => by
  show gap (32 :: 47 :: 42 :: 97 :: 59 :: 42 :: 47 :: 32 :: J) = _
  have h1 : gap (32 :: J) = (1, true) := by rw [gap, h]; rfl
  have hr : remN (47 :: 42 :: 97 :: 59 :: 42 :: 47 :: 32 :: J) = some 6 := rfl
  have h2 : gap (47 :: 42 :: 97 :: 59 :: 42 :: 47 :: 32 :: J) = (7, true) := by
    rw [gap, hr]
    show (if blankB 47 = true then _ else ((gap (32 :: J)).1 + 6, (gap (32 :: J)).2)) = _
    rw [h1]; rfl
  rw [gap, h2]; rfl⟩
theorem gp_brace : Gp [32, 47, 47, 125, 10] := ⟨⟨32, [47, 47, 125, 10], rfl, .inl rfl⟩, by decide, fun J h => by
  show gap (32 :: 47 :: 47 :: 125 :: 10 :: J) = _
  have h1 : gap (10 :: J) = (1, true) := by rw [gap, h]; rfl
  have hr : remN (47 :: 47 :: 125 :: 10 :: J) = some 3 := rfl
  have h2 : gap (47 :: 47 :: 125 :: 10 :: J) = (4, true) := by
    rw [gap, hr]
    show (if blankB 47 = true then _ else ((gap (10 :: J)).1 + 3, (gap (10 :: J)).2)) = _
    rw [h1]; rfl
  rw [gap, h2]; rfl⟩

/- A text alone. -/
theorem lex_quote {L : List UInt8} (h : L.length ≤ 600) : (∃ k : Nat, lexL (quoteL L) = .error ((k : Int), 4)) ∨ lexL (quoteL L) = .ok [⟨4, 0, L, 0⟩] := by
  have hs := quote_size L
  unfold lexL
  rw [if_neg (by omega)]
  cases hk : chk (quoteL L) 0 with
  | some k => exact .inl ⟨k, rfl⟩
  | none =>
    right
    simp only
    have ht := tok_quote L []
    rw [List.append_nil] at ht
    have hg : gap (quoteL L) = (0, true) := by
      unfold quoteL
      refine gap_head (by simp) (fun c hc => ?_) (by simp) (by simp)
      simp at hc; rw [← hc]; decide
    unfold lexA
    rw [hg]
    simp only [List.drop_zero]
    generalize hQ : quoteL L = Q at *
    match Q with
    | [] => cases ht
    | c :: r =>
      rw [lexB_cons, ht]
      have e : r.drop ((c :: r).length - 1) = [] := by simp
      simp only [e]
      have hgn : gap [] = (0, true) := by rw [gap]
      unfold lexA
      rw [hgn]
      simp [lexB, consT, tooDeep]
end Go.Proofs.YtnkfodelgpidkaaGreatDoor
