/- The reader takes a name, or what looks like a part of one. -/
import Derived.Test.YtcpjggcpimghjaaTake
import Derived.Test.YtcpjggcpimghjaaWord
import Derived.Test.YtcpjggcpimghjaaBuild
import Derived.LoopTactic
import Derived.Deep.LoopGhost
import Derived.StillTailTactics
namespace Go.Proofs.Ytcpjggcpimghjaa
open Go.RowKit
set_option linter.unusedVariables false

theorem quiet_one {P : Program} {f : FuncId} {args : Array Value} {w : World} {n : Nat} {v : Value}
    (h : Calls P f args (w.drewN n) fun e w' => e = .returned v ∧ w.drewN n = w') : Calls P f args (w.drewN n) fun e w'' => e = .returned v ∧ ∃ m, w'' = w.drewN m :=
  h.mono fun _ _ ⟨he, hm⟩ => ⟨he, n, hm.symm⟩
theorem quiet_two {P : Program} {f : FuncId} {args : Array Value} {w : World} {a n : Nat} {v : Value}
    (h : Calls P f args (w.drewN (a + n)) fun e w' => e = .returned v ∧ w.drewN (a + n) = w') :
    Calls P f args (w.drewN (a + n)) fun e w'' => e = .returned v ∧ ∃ m, w'' = w.drewN (a + m) :=
  h.mono fun _ _ ⟨he, hm⟩ => ⟨he, n, hm.symm⟩

/-- A region that draws its order, of reads with a forced end: the reads in the text's order, then the end. -/
theorem wp_tail {P : Program} {id : Nat} {Q : Exit → Act → World → Prop} {a : Act} {w : World} {l : List Oper} (n : Nat) (hm : P.follows .mixedOrders = true) (hB : Region.lexTailB .any l.toArray n = true)
    (h : wpStill P l.toArray w.drew (fun a' => wpList P l.toArray Q (l.drop n) a' w.drew) (l.take n) a) : (Code.region id l.toArray true).wp P Q a w := wp_region_still_tail n hm hB h

theorem list_size' (s : ByteArray) : s.data.toList.length = s.size := (Lib.size_eq s).symm
theorem drop_cons (s : ByteArray) (k : Nat) (h : k < s.size) : s.data.toList.drop k = s[k] :: s.data.toList.drop (k + 1) := by
  rw [List.drop_eq_getElem_cons (by rw [list_size']; exact h)]; rfl
theorem drop_done (s : ByteArray) (k : Nat) (h : s.size ≤ k) : s.data.toList.drop k = [] := List.drop_eq_nil_of_le (by rw [list_size']; exact h)
theorem nm_yes {s : ByteArray} {k : Nat} (h : k < s.size) (hc : npB (s[k].toNat : Int) = true) : nmL (s.data.toList.drop k) = nmL (s.data.toList.drop (k + 1)) + 1 := by
  rw [drop_cons s k h, nmL]; unfold ci; rw [hc]; rfl
theorem nm_no {s : ByteArray} {k : Nat} (h : k < s.size) (hc : npB (s[k].toNat : Int) = false) : nmL (s.data.toList.drop k) = 0 := by
  rw [drop_cons s k h, nmL]; unfold ci; rw [hc]; rfl
theorem nm_end {s : ByteArray} {k : Nat} (h : s.size ≤ k) : nmL (s.data.toList.drop k) = 0 := by rw [drop_done s k h]; rfl
theorem nm_le {s : ByteArray} {k : Nat} (h : k ≤ s.size) : k + nmL (s.data.toList.drop k) ≤ s.size := by
  have := nmL_le (s.data.toList.drop k); rw [List.length_drop, list_size'] at this; omega

set_option maxRecDepth 100000 in
set_option maxHeartbeats 1000000 in
theorem nameParts_any (b : Nat) (s : ByteArray) (hs : s.size ≤ 1000000) (beg op : Int) (k : Nat) (hk : k ≤ s.size) (w : World) (h : Rd w b s beg k op) :
    Calls Try.prog 49 #[.pointer (some ⟨b, 0, none⟩)] w fun en w' => en = .returned (.string (s.extract k (k + nmL (s.data.toList.drop k)))) ∧ Rd w' b s beg (k + nmL (s.data.toList.drop k) : Nat) op ∧ Off b w w' := by
  have H := Lib.hid h
  have h2 := h.c2
  have hle := nm_le hk
  obtain ⟨n, hn⟩ : ∃ n, n = nmL (s.data.toList.drop k) := ⟨_, rfl⟩
  rw [← hn] at hle ⊢
  have HN := Lib.hid hn
  clear hn h
  go_enter Try.func49, Try.ntmps49
  go_wp2_with fail
  clear h2
  go_loopg [] (s.size - k) (fun g wr => ∃ p : Nat, k ≤ p ∧ p ≤ s.size ∧ g = s.size - p ∧ Hid (Rd wr b s beg p op) ∧ Hid (Off b w wr) ∧ Hid (n + k = nmL (s.data.toList.drop p) + p))
  case atStart => exact ⟨k, by omega, by omega, rfl, H.out, Off.refl _ _, by show _ = _; rw [HN.out]⟩
  case round =>
    obtain ⟨p, hkp, hps, rfl, HR, HO, HE⟩ := hrel
    have h0 := HR.out.c0
    have h2 := HR.out.c2
    have hf := HR.out.fz 2
    by_cases hlt : p < s.size
    · have C := Lib.hid (fun w => isNamePart_any (s[p].toNat : Int) w)
      have Y := Lib.hid (@nm_yes s p hlt)
      have N := Lib.hid (@nm_no s p hlt)
      cases hq : npB (s[p].toNat : Int)
      · rw [hq] at C
        have E := Lib.hid (HE.out.trans (by rw [N.out hq, Nat.zero_add]))
        clear hq
        go_wp2_with fail
        go_quiet ((go_at_call 21; first | exact quiet_one (C.out _) | exact quiet_two (C.out _)))
        go_wp2_with fail
        refine wp_tail 10 (by kernel_rfl) (by kernel_rfl) ?_
        simp only [List.take_succ_cons, List.take_zero, List.drop_succ_cons, List.drop_zero]
        generalize hwq : (wr.drewN nq).drew = wq
        have HRq := Lib.hid (hwq ▸ (HR.out.drewN nq).drew)
        have HOq := Lib.hid (hwq ▸ (HO.out.drewN nq).drew)
        clear hwq h0 h2 hf HR HO
        have g0 := HRq.out.c0
        have g2 := HRq.out.c2
        repeat still_step
        refine wpStill_nil ?_
        have K := Lib.hid (fun w => clone_any (s.extract k p) (by rw [ByteArray.size_extract]; omega) w)
        go_wp2_with fail
        refine (K.out _).mono ?_; rintro e w1 ⟨rfl, hB⟩
        go_wp2_with fail
        go_ret
        obtain rfl : p = n + k := E.out.symm
        rw [Nat.add_comm k n]
        exact ⟨rfl, HRq.out.below hB HRq.out.lt, HOq.out.below hB⟩
      · rw [hq] at C
        have E := Lib.hid (HE.out.trans (by rw [Y.out hq]))
        clear hq
        go_wp2_with fail
        go_quiet ((go_at_call 21; first | exact quiet_one (C.out _) | exact quiet_two (C.out _)))
        go_wp2_with fail
        go_roundg (s.size - (p + 1))
        case measure => omega
        case rel => exact ⟨p + 1, by omega, by omega, rfl, (HR.out.drewN _).s2 _, (HO.out.drewN _).set _ _, by show _ = _; rw [E.out]; omega⟩
    · have hd : decide ((p : Int) < (s.size : Int)) = false := by rw [decide_eq_false_iff_not]; omega
      have E := Lib.hid (HE.out.trans (by rw [nm_end (by omega), Nat.zero_add]))
      go_wp2_with fail
      go_quiet (fail)
      go_wp2_with fail
      refine wp_tail 10 (by kernel_rfl) (by kernel_rfl) ?_
      simp only [List.take_succ_cons, List.take_zero, List.drop_succ_cons, List.drop_zero]
      generalize hwq : (wr.drewN nq).drew = wq
      have HRq := Lib.hid (hwq ▸ (HR.out.drewN nq).drew)
      have HOq := Lib.hid (hwq ▸ (HO.out.drewN nq).drew)
      clear hwq h0 h2 hf HR HO
      have g0 := HRq.out.c0
      have g2 := HRq.out.c2
      repeat still_step
      refine wpStill_nil ?_
      have K := Lib.hid (fun w => clone_any (s.extract k p) (by rw [ByteArray.size_extract]; omega) w)
      go_wp2_with fail
      refine (K.out _).mono ?_; rintro e w1 ⟨rfl, hB⟩
      go_wp2_with fail
      go_ret
      obtain rfl : p = n + k := E.out.symm
      rw [Nat.add_comm k n]
      exact ⟨rfl, HRq.out.below hB HRq.out.lt, HOq.out.below hB⟩
end Go.Proofs.Ytcpjggcpimghjaa
