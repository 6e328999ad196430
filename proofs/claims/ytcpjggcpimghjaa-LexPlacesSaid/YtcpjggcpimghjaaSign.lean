/- A sign, by the program. -/
import Derived.Test.YtcpjggcpimghjaaBrack
namespace Go.Proofs.Ytcpjggcpimghjaa
open Go.RowKit
set_option linter.unusedVariables false

def signR (s : ByteArray) (k : Nat) (op : Int) : Except Int (Value × Nat × Int) :=
  if sgnN (s.data.toList.drop k) 4 = 0 then .error 5
  else if opens ((s.data.toList.drop k).take (sgnN (s.data.toList.drop k) 4)) = true ∧ op = 240 then .error 6
  else .ok (.string (bs ((s.data.toList.drop k).take (sgnN (s.data.toList.drop k) 4))), k + sgnN (s.data.toList.drop k) 4, opB ((s.data.toList.drop k).take (sgnN (s.data.toList.drop k) 4)) op)
theorem sgnN_yes {R : List UInt8} {n : Nat} (h : n + 1 ≤ R.length) (hs : sgnB (R.take (n + 1)) = true) : sgnN R (n + 1) = n + 1 := by rw [sgnN, if_pos ⟨h, hs⟩]
theorem sgnN_no {R : List UInt8} {n : Nat} (hs : sgnB (R.take (n + 1)) = false) : sgnN R (n + 1) = sgnN R n := by rw [sgnN, if_neg (fun h => by rw [hs] at h; cases h.2)]
theorem sgnN_long {R : List UInt8} {n : Nat} (h : R.length < n + 1) : sgnN R (n + 1) = sgnN R n := by rw [sgnN, if_neg (fun h2 => by omega)]
theorem sgnN_cut (R : List UInt8) : ∀ n, sgnN R n = sgnN R (min n R.length)
  | 0 => by rw [Nat.zero_min]
  | n + 1 => by
    by_cases h : R.length < n + 1
    · rw [sgnN_long h, sgnN_cut R n, Nat.min_eq_right (show R.length ≤ n + 1 by omega), Nat.min_eq_right (show R.length ≤ n by omega)]
    · rw [Nat.min_eq_left (by omega)]
theorem signR_none {s : ByteArray} {k : Nat} {op : Int} (h : sgnN (s.data.toList.drop k) 4 = 0) : signR s k op = .error 5 := by unfold signR; rw [if_pos h]
theorem signR_some {s : ByteArray} {k n : Nat} {op : Int} {g : ByteArray} (h : sgnN (s.data.toList.drop k) 4 = n + 1) (hg : g = s.extract k (k + (n + 1))) : signR s k op = if opens g.data.toList = true ∧ op = 240 then .error 6 else .ok (.string g, k + (n + 1), opB g.data.toList op) := by
  have e : g.data.toList = (s.data.toList.drop k).take (n + 1) := by rw [hg, piece_list]
  unfold signR; rw [if_neg (by omega), h, e, ← bs_eq e]

set_option maxRecDepth 100000 in
set_option maxHeartbeats 4000000 in
theorem sign_any (b : Nat) (s : ByteArray) (hs : s.size ≤ 100000) (beg op : Int) (h0 : 0 ≤ op) (h1 : op ≤ 240) (k : Nat) (hk : k ≤ s.size) (w : World) (h : Rd w b s beg k op) :
    Calls Try.prog 38 #[.pointer (some ⟨b, 0, none⟩)] w (Ends b s beg w (signR s k op)) := by
  have H := Lib.hid h
  have c0 := h.c0
  have c2 := h.c2
  clear h
  have RN := Lib.hid (@signR_none s k op)
  have RS := Lib.hid (fun n g => @signR_some s k n op g)
  have HCUT := Lib.hid (sgnN_cut (s.data.toList.drop k) 4)
  rw [List.length_drop, list_size'] at HCUT
  generalize signR s k op = R at *
  go_enter Try.func38, Try.ntmps38
  go_wp2_with fail
  refine wp_tail 10 (by kernel_rfl) (by kernel_rfl) ?_
  simp only [List.take_succ_cons, List.take_zero, List.drop_succ_cons, List.drop_zero]
  generalize hwq : w.drew = wq
  have HQ := Lib.hid (hwq ▸ H.out.drew)
  have HOQ := Lib.hid (hwq ▸ (Off.refl b w).drew)
  clear hwq c0 c2
  have c0 := HQ.out.c0
  have c2 := HQ.out.c2
  repeat still_step
  refine wpStill_nil ?_
  go_wp2_with fail
  clear c0 c2
  go_loopw [3] (fun zz wr => ∃ n : Nat, zz = .int .i64 (n : Int) ∧ n ≤ 4 ∧ k + n ≤ s.size ∧ Hid (sgnN (s.data.toList.drop k) 4 = sgnN (s.data.toList.drop k) n) ∧ Hid (Rd wr b s beg k op) ∧ Hid (Off b w wr)) (fun zz _ => (intOf zz).toNat)
  case atStart => exact ⟨min 4 (s.size - k), by congr 1; omega, by omega, by omega, HCUT.out, HQ.out, HOQ.out⟩
  case round =>
    rename_i wr hrel
    obtain ⟨n, rfl, hn4, hkn, HC, HR, HO⟩ := hrel
    by_cases hz : n = 0
    · subst hz
      have E := Lib.hid (RN.out (HC.out.trans rfl))
      have G := Lib.hid (fun w h => giveUp_any b s beg k op 5 w h)
      go_wp2_with fail
      refine (G.out _ HR.out).mono ?_; rintro e w' ⟨rfl, rfl⟩
      unfold flt
      go_wp2_with fail
      exact bodyPost_panic rfl (ends_err E.out rfl HO.out)
    · have hn1 : 1 ≤ n := by omega
      obtain ⟨m, hm⟩ : ∃ m, n = m + 1 := ⟨n - 1, by omega⟩
      have HPL := Lib.hid (piece_list s k n)
      have HY : Hid (sgnB ((s.data.toList.drop k).take n) = true → sgnN (s.data.toList.drop k) n = m + 1) := fun h => by
        subst hm; exact sgnN_yes (by rw [List.length_drop, list_size']; omega) h
      have HN : Hid (sgnB ((s.data.toList.drop k).take n) = false → sgnN (s.data.toList.drop k) n = sgnN (s.data.toList.drop k) m) := fun h => by
        subst hm; exact sgnN_no h
      rw [← HPL.out] at HY HN
      have RS2 := Lib.hid (fun h => RS.out m (s.extract k (k + n)) h (by rw [hm]))
      have hgs : (s.extract k (k + n)).size ≤ 1000000 := by rw [ByteArray.size_extract]; omega
      have HM := Lib.hid hm
      clear hm hz
      have I := Lib.hid (fun w => isSign_any (s.extract k (k + n)) w)
      have BR := Lib.hid (fun w h => bracket_any b s (s.extract k (k + n)) beg op h0 h1 k w h)
      have CL := Lib.hid (fun w => clone_any (s.extract k (k + n)) hgs w)
      have c0 := HR.out.c0
      have c2 := HR.out.c2
      have hw1 : IntKind.i64.wrap ((k : Int) + (n : Int)) = (k : Int) + (n : Int) := IntWalk.i64_in _ (by omega)
      have hw2 : ((k : Int) + (n : Int)).toNat = k + n := by omega
      go_wp2_with fail
      go_quiet (fail)
      clear hw1 hw2
      generalize hgg : s.extract k (k + n) = g at *
      clear hgg
      have HR1 := Lib.hid (HR.out.drewN nq)
      have HO1 := Lib.hid (HO.out.drewN nq)
      generalize wr.drewN nq = w1 at *
      clear c0 c2
      cases hsg : sgnB g.data.toList
      · rw [hsg] at I
        have E := Lib.hid (HC.out.trans (HN.out hsg))
        clear hsg
        go_wp2_with fail
        refine (I.out _).mono ?_; rintro e w' ⟨rfl, rfl⟩
        go_wp2_with fail
        go_roundw
        case rel =>
          have hm := HM.out
          exact ⟨m, by subst hm; go_num, by omega, by omega, E.out, HR1.out, HO1.out⟩
        case measure => simp [intOf]; omega
      · rw [hsg] at I
        have E0 := Lib.hid (RS2.out (HC.out.trans (HY.out hsg)))
        have hpn : k + (m + 1) = k + n := by rw [HM.out]
        rw [hpn] at E0
        have BRR : Hid (brackR g.data.toList k op = if opens g.data.toList = true ∧ op = 240 then .error 6 else .ok (.tuple #[], k, opB g.data.toList op)) := rfl
        generalize brackR g.data.toList k op = Z at *
        generalize opB g.data.toList op = op2 at *
        clear hsg hpn
        by_cases hd : opens g.data.toList = true ∧ op = 240
        · have E := Lib.hid (E0.out.trans (if_pos hd))
          have hZ := BRR.out.trans (if_pos hd)
          subst hZ
          clear hd
          go_wp2_with fail
          refine (I.out _).mono ?_; rintro e w' ⟨rfl, rfl⟩
          go_wp2_with fail
          refine (BR.out _ HR1.out).mono ?_; rintro e w2 ⟨rfl, hO2⟩
          unfold flt
          have HO2 := Lib.hid (HO1.out.trans hO2)
          clear hO2
          go_wp2_with fail
          exact bodyPost_panic rfl (ends_err E.out rfl HO2.out)
        · have E := Lib.hid (E0.out.trans (if_neg hd))
          have hZ := BRR.out.trans (if_neg hd)
          subst hZ
          clear hd
          go_wp2_with fail
          refine (I.out _).mono ?_; rintro e w' ⟨rfl, rfl⟩
          go_wp2_with fail
          refine (BR.out _ HR1.out).mono ?_; rintro e w2 ⟨rfl, hR2, hO2⟩
          have HR2 := Lib.hid hR2
          have HO2 := Lib.hid (HO1.out.trans hO2)
          have c2 := HR2.out.c2
          have f2 := HR2.out.fz 2
          clear hR2 hO2
          go_wp2_with fail
          refine (CL.out _).mono ?_; rintro e w3 ⟨rfl, hB3⟩
          have HR3 := Lib.hid ((HR2.out.s2 _).below hB3 (HR2.out.s2 _).lt)
          have HO3 := Lib.hid ((HO2.out.set 2 _).below hB3)
          clear hB3
          go_wp2_with fail
          go_ret
          exact ends_ok E.out rfl HR3.out HO3.out
end Go.Proofs.Ytcpjggcpimghjaa
