/- A token, by the program. -/
import Derived.Test.YtcpjggcpimghjaaSkip
namespace Go.Proofs.Ytcpjggcpimghjaa
open Go.RowKit
set_option linter.unusedVariables false

def tkV (t : Tk) (a : Int) : Value := .agg #[.int .i64 t.kind, .int .i64 a, .string (bs t.text), .int .u64 t.bits]
def tokR (s : ByteArray) (k : Nat) (op : Int) : Except Int (Value × Nat × Int) := match tokO (s.data.toList.drop k) with
  | none => .error 5
  | some (t, n) => if tooDeep t op then .error 6 else .ok (tkV t k, k + n, opA t op)

/-- Block g holds a token. -/
def B4 (w : World) (g : Nat) (x0 x1 x2 x3 : Value) : Prop := w.heap[g]? = some (.cells #[x0, x1, x2, x3] 35 (0, 0))
section
variable {w w' : World} {g b : Nat} {x0 x1 x2 x3 : Value}
theorem B4.lt (h : B4 w g x0 x1 x2 x3) : g < w.heap.size := by
  rcases Nat.lt_or_ge g w.heap.size with hlt | hge
  · exact hlt
  · unfold B4 at h; rw [Array.getElem?_eq_none hge] at h; cases h
theorem B4.c0 (h : B4 w g x0 x1 x2 x3) : w.cell? ⟨g, 0, none⟩ = some x0 := by unfold B4 at h; simp [World.cell?, h]
theorem B4.c1 (h : B4 w g x0 x1 x2 x3) : w.cell? ⟨g, 1, none⟩ = some x1 := by unfold B4 at h; simp [World.cell?, h]
theorem B4.c2 (h : B4 w g x0 x1 x2 x3) : w.cell? ⟨g, 2, none⟩ = some x2 := by unfold B4 at h; simp [World.cell?, h]
theorem B4.c3 (h : B4 w g x0 x1 x2 x3) : w.cell? ⟨g, 3, none⟩ = some x3 := by unfold B4 at h; simp [World.cell?, h]
theorem B4.fz (h : B4 w g x0 x1 x2 x3) (i : Nat) : w.frozen? ⟨g, i, none⟩ = false := by unfold B4 at h; simp [World.frozen?, h]
theorem B4.off (h : B4 w g x0 x1 x2 x3) (o : Off b w w') (hg : g ≠ b) : B4 w' g x0 x1 x2 x3 := (o.block g h.lt hg).trans h
theorem B4.alloc (h : B4 w g x0 x1 x2 x3) (o : Obj) : B4 (w.alloc o) g x0 x1 x2 x3 := (Below.heap_alloc w o g h.lt).trans h
theorem B4.drewN (h : B4 w g x0 x1 x2 x3) (n : Nat) : B4 (w.drewN n) g x0 x1 x2 x3 := h
theorem B4.new (w : World) (x0 x1 x2 x3 : Value) : B4 (w.alloc (.cells #[x0, x1, x2, x3] 35)) w.heap.size x0 x1 x2 x3 := heap_alloc_new w _
theorem B4.s0 (h : B4 w g x0 x1 x2 x3) (u : Value) : B4 (w.setCell ⟨g, 0, none⟩ u) g u x1 x2 x3 := by unfold B4 at h ⊢; simp [World.setCell, Array.getElem?_modify, h]
theorem B4.s1 (h : B4 w g x0 x1 x2 x3) (u : Value) : B4 (w.setCell ⟨g, 1, none⟩ u) g x0 u x2 x3 := by unfold B4 at h ⊢; simp [World.setCell, Array.getElem?_modify, h]
theorem B4.s2 (h : B4 w g x0 x1 x2 x3) (u : Value) : B4 (w.setCell ⟨g, 2, none⟩ u) g x0 x1 u x3 := by unfold B4 at h ⊢; simp [World.setCell, Array.getElem?_modify, h]
theorem B4.s3 (h : B4 w g x0 x1 x2 x3) (u : Value) : B4 (w.setCell ⟨g, 3, none⟩ u) g x0 x1 x2 u := by unfold B4 at h ⊢; simp [World.setCell, Array.getElem?_modify, h]
theorem B4.far (h : B4 w g x0 x1 x2 x3) {p : Addr} (hp : g ≠ p.block) (u : Value) : B4 (w.setCell p u) g x0 x1 x2 x3 := (Below.heap_setCell w p u g hp).trans h
end

theorem tok_res {wf : World} {g : Nat} {x0 x1 x2 x3 : Value} (h : B4 wf g x0 x1 x2 x3) (tmps : Array Value) (ht : tmps[2]?.getD undef = .pointer (some ⟨g, 0, none⟩)) :
    (results Try.f24 tmps).run Try.prog wf = .ok (.agg #[x0, x1, x2, x3]) wf := by
  have e0 := h.c0
  have e1 := h.c1
  have e2 := h.c2
  have e3 := h.c3
  simp [results, Try.results24, go_sem, ht, e0, e1, e2, e3]

set_option maxRecDepth 100000 in
set_option maxHeartbeats 4000000 in
theorem token_any (b : Nat) (s : ByteArray) (hs : s.size ≤ 100000) (beg op : Int) (h0 : 0 ≤ op) (h1 : op ≤ 240) (k : Nat) (hk : k < s.size) (w : World) (h : Rd w b s beg k op) :
    Calls Try.prog 24 #[.pointer (some ⟨b, 0, none⟩)] w (Ends b s k w (tokR s k op)) := by
  have H := Lib.hid h
  have c0 := h.c0
  have c1 := h.c1
  have c2 := h.c2
  have f1 := h.fz 1
  have hbl := h.lt
  clear h
  obtain ⟨wa, hwa⟩ : ∃ wa, wa = (((w.setCell ⟨b, 1, none⟩ (.int .i64 (k : Int))).alloc (.cells #[.int .i64 0, .int .i64 0, .string ⟨#[]⟩, .int .u64 0] 35)).alloc (.cells #[.int .i64 0, .int .i64 (k : Int), .string ⟨#[]⟩, .int .u64 0] 35)) := ⟨_, rfl⟩
  have HRa : Hid (Rd wa b s k k op) := hwa ▸ (((H.out.s1 (k : Int)).alloc _).alloc _)
  have HOa : Hid (Off b w wa) := hwa ▸ ((((Off.refl b w).set 1 _).alloc _).alloc _)
  have HBa : Hid (B4 wa w.heap.size (.int .i64 0) (.int .i64 0) (.string ⟨#[]⟩) (.int .u64 0)) := hwa ▸ ((by simpa using B4.new (w.setCell ⟨b, 1, none⟩ (.int .i64 (k : Int))) _ _ _ _ : B4 _ _ _ _ _ _).alloc _)
  have HCa : Hid (B4 wa (w.heap.size + 1) (.int .i64 0) (.int .i64 (k : Int)) (.string ⟨#[]⟩) (.int .u64 0)) := by
    show B4 _ _ _ _ _ _
    rw [hwa]
    have := B4.new ((w.setCell ⟨b, 1, none⟩ (.int .i64 (k : Int))).alloc (.cells #[.int .i64 0, .int .i64 0, .string ⟨#[]⟩, .int .u64 0] 35)) (.int .i64 0) (.int .i64 (k : Int)) (.string ⟨#[]⟩) (.int .u64 0)
    simpa using this
  have HWA := Lib.hid hwa
  clear hwa
  have D := Lib.hid (fun w => isDigit_any (s[k].toNat : Int) w)
  have TR : Hid (tokR s k op = match tokO (s.data.toList.drop k) with | none => .error 5 | some (t, n) => if tooDeep t op then .error 6 else .ok (tkV t k, k + n, opA t op)) := rfl
  generalize tokR s k op = R at *
  cases hd : digB (s[k].toNat : Int)
  · rw [hd] at D
    have NP := Lib.hid (fun w => isNamePart_any (s[k].toNat : Int) w)
    by_cases hnp : npB (s[k].toNat : Int) = true
    · rw [hnp] at NP
      have N := Lib.hid (fun w h => name_any b s (by omega) k op k hk w h)
      have E0 : Hid (tokO (s.data.toList.drop k) = some (⟨if wordB ((s.data.toList.drop k).take (nmL (s.data.toList.drop k))) = true then 2 else 1, 0, (s.data.toList.drop k).take (nmL (s.data.toList.drop k)), 0⟩, nmL (s.data.toList.drop k))) := by
        show _ = _
        rw [drop_cons s k hk, tokO]; unfold ci; rw [if_neg (by rw [hd]; decide), if_pos hnp]
      have NR : Hid (nameR s k = .tuple #[.int .i64 (if wordB ((s.data.toList.drop k).take (nmL (s.data.toList.drop k))) = true then 2 else 1), .string (bs ((s.data.toList.drop k).take (nmL (s.data.toList.drop k))))]) := rfl
      generalize nameR s k = nr at *
      generalize nmL (s.data.toList.drop k) = n at *
      generalize (s.data.toList.drop k).take n = P at *
      generalize tokO (s.data.toList.drop k) = tk at *
      clear hd hnp
      cases hw : wordB P
      · rw [hw] at E0 NR
        clear hw
        go_enter Try.func24, Try.ntmps24
        go_wp2_with fail
        go_quiet (fail)
        rw [← HWA.out]
        go_wp2_with fail
        refine (D.out _).mono ?_; rintro e w' ⟨rfl, rfl⟩
        have HRb := Lib.hid (HRa.out.drewN nq)
        have HOb := Lib.hid (HOa.out.drewN nq)
        have HBb := Lib.hid (HBa.out.drewN nq)
        have HCb := Lib.hid (HCa.out.drewN nq)
        generalize wa.drewN nq = wb at *
        go_wp2_with fail
        refine (NP.out _).mono ?_; rintro e w' ⟨rfl, rfl⟩
        go_wp2_with fail
        refine (N.out _ HRb.out).mono ?_; rintro e w2 ⟨rfl, hR2, hO2⟩
        rw [NR.out]
        have ht : tk = some (⟨1, 0, P, 0⟩, n) := E0.out
        subst ht
        have HE : Hid (R = .ok (tkV ⟨1, 0, P, 0⟩ k, k + n, op)) := TR.out
        have HR2 := Lib.hid hR2
        have HB2 := Lib.hid (HBb.out.off hO2 (by omega))
        have HC2 := Lib.hid (HCb.out.off hO2 (by omega))
        have HO2 := Lib.hid (HOb.out.trans hO2)
        clear hR2 hO2
        have b0 := HB2.out.c0
        have b1 := HB2.out.c1
        have b2 := HB2.out.c2
        have b3 := HB2.out.c3
        have d0 := HC2.out.c0
        have d1 := HC2.out.c1
        have d2 := HC2.out.c2
        have d3 := HC2.out.c3
        have fb := HB2.out.fz
        have fd := HC2.out.fz
        go_wp2_with fail
        have hne : w.heap.size ≠ w.heap.size + 1 := by omega
        have hb1 : b ≠ w.heap.size + 1 := by omega
        have hb2 : b ≠ w.heap.size := by omega
        refine bodyPost_ret (tok_res ((((((HB2.out.far (p := ⟨w.heap.size + 1, 0, none⟩) hne _).far (p := ⟨w.heap.size + 1, 2, none⟩) hne _).s0 _).s1 _).s2 _).s3 _) _ rfl) rfl (ends_ok HE.out rfl ?_ ?_)
        · exact (((((HR2.out.far (p := ⟨w.heap.size + 1, 0, none⟩) hb1 _).far (p := ⟨w.heap.size + 1, 2, none⟩) hb1 _).far (p := ⟨w.heap.size, 0, none⟩) hb2 _).far (p := ⟨w.heap.size, 1, none⟩) hb2 _).far (p := ⟨w.heap.size, 2, none⟩) hb2 _).far (p := ⟨w.heap.size, 3, none⟩) hb2 _
        · exact (((((HO2.out.newSet (p := ⟨w.heap.size + 1, 0, none⟩) (by simp) _).newSet (p := ⟨w.heap.size + 1, 2, none⟩) (by simp) _).newSet (p := ⟨w.heap.size, 0, none⟩) (by simp) _).newSet (p := ⟨w.heap.size, 1, none⟩) (by simp) _).newSet (p := ⟨w.heap.size, 2, none⟩) (by simp) _).newSet (p := ⟨w.heap.size, 3, none⟩) (by simp) _
      · rw [hw] at E0 NR
        clear hw
        go_enter Try.func24, Try.ntmps24
        go_wp2_with fail
        go_quiet (fail)
        rw [← HWA.out]
        go_wp2_with fail
        refine (D.out _).mono ?_; rintro e w' ⟨rfl, rfl⟩
        have HRb := Lib.hid (HRa.out.drewN nq)
        have HOb := Lib.hid (HOa.out.drewN nq)
        have HBb := Lib.hid (HBa.out.drewN nq)
        have HCb := Lib.hid (HCa.out.drewN nq)
        generalize wa.drewN nq = wb at *
        go_wp2_with fail
        refine (NP.out _).mono ?_; rintro e w' ⟨rfl, rfl⟩
        go_wp2_with fail
        refine (N.out _ HRb.out).mono ?_; rintro e w2 ⟨rfl, hR2, hO2⟩
        rw [NR.out]
        have ht : tk = some (⟨2, 0, P, 0⟩, n) := E0.out
        subst ht
        have HE : Hid (R = .ok (tkV ⟨2, 0, P, 0⟩ k, k + n, op)) := TR.out
        have HR2 := Lib.hid hR2
        have HB2 := Lib.hid (HBb.out.off hO2 (by omega))
        have HC2 := Lib.hid (HCb.out.off hO2 (by omega))
        have HO2 := Lib.hid (HOb.out.trans hO2)
        clear hR2 hO2
        have b0 := HB2.out.c0
        have b1 := HB2.out.c1
        have b2 := HB2.out.c2
        have b3 := HB2.out.c3
        have d0 := HC2.out.c0
        have d1 := HC2.out.c1
        have d2 := HC2.out.c2
        have d3 := HC2.out.c3
        have fb := HB2.out.fz
        have fd := HC2.out.fz
        go_wp2_with fail
        have hne : w.heap.size ≠ w.heap.size + 1 := by omega
        have hb1 : b ≠ w.heap.size + 1 := by omega
        have hb2 : b ≠ w.heap.size := by omega
        refine bodyPost_ret (tok_res ((((((HB2.out.far (p := ⟨w.heap.size + 1, 0, none⟩) hne _).far (p := ⟨w.heap.size + 1, 2, none⟩) hne _).s0 _).s1 _).s2 _).s3 _) _ rfl) rfl (ends_ok HE.out rfl ?_ ?_)
        · exact (((((HR2.out.far (p := ⟨w.heap.size + 1, 0, none⟩) hb1 _).far (p := ⟨w.heap.size + 1, 2, none⟩) hb1 _).far (p := ⟨w.heap.size, 0, none⟩) hb2 _).far (p := ⟨w.heap.size, 1, none⟩) hb2 _).far (p := ⟨w.heap.size, 2, none⟩) hb2 _).far (p := ⟨w.heap.size, 3, none⟩) hb2 _
        · exact (((((HO2.out.newSet (p := ⟨w.heap.size + 1, 0, none⟩) (by simp) _).newSet (p := ⟨w.heap.size + 1, 2, none⟩) (by simp) _).newSet (p := ⟨w.heap.size, 0, none⟩) (by simp) _).newSet (p := ⟨w.heap.size, 1, none⟩) (by simp) _).newSet (p := ⟨w.heap.size, 2, none⟩) (by simp) _).newSet (p := ⟨w.heap.size, 3, none⟩) (by simp) _
    · by_cases hc : (s[k].toNat : Int) = 39
      · clear hnp
        have hnp : npB (s[k].toNat : Int) = false := by rw [hc]; rfl
        rw [hnp] at NP
        have hq : s[k] = 39 := ci_inj (by unfold ci; rw [hc]; rfl)
        have qc : ((s[k].toNat : Int) == 39) = true := by rw [hc]; rfl
        have T := Lib.hid (fun w h => text_lex b s hs k op k hk w h)
        have E0 : Hid (tokO (s.data.toList.drop k) = match txt s[k] (s.data.toList.drop (k + 1)) with | none => none | some (o, m) => some (⟨4, 0, o, 0⟩, m + 1)) := by
          show _ = _
          rw [drop_cons s k hk, tokO]; unfold ci; rw [if_neg (by rw [hd]; decide), if_neg (by rw [hnp]; decide), if_pos (by omega)]; rfl
        have NR : Hid (textR s s[k] k = match txt s[k] (s.data.toList.drop (k + 1)) with | none => none | some (o, m) => some (.string (bs o), k + 1 + m)) := rfl
        generalize textR s s[k] k = nr at *
        generalize txt s[k] (s.data.toList.drop (k + 1)) = q at *
        generalize tokO (s.data.toList.drop k) = tk at *
        clear hnp hq hc hd
        go_enter Try.func24, Try.ntmps24
        go_wp2_with fail
        go_quiet (fail)
        rw [← HWA.out]
        go_wp2_with fail
        refine (D.out _).mono ?_; rintro e w' ⟨rfl, rfl⟩
        have HRb := Lib.hid (HRa.out.drewN nq)
        have HOb := Lib.hid (HOa.out.drewN nq)
        have HBb := Lib.hid (HBa.out.drewN nq)
        have HCb := Lib.hid (HCa.out.drewN nq)
        generalize wa.drewN nq = wb at *
        go_wp2_with fail
        refine (NP.out _).mono ?_; rintro e w' ⟨rfl, rfl⟩
        go_wp2_with fail
        refine (T.out _ HRb.out).mono ?_; rintro e w2 hG
        rcases q with _ | ⟨o, m⟩
        · have hn : nr = none := NR.out
          have ht : tk = none := E0.out
          subst hn ht
          have HE : Hid (R = .error 5) := TR.out
          obtain ⟨rfl, hO2⟩ := hG
          unfold flt
          have HO2 := Lib.hid (HOb.out.trans hO2)
          clear hO2
          go_wp2_with fail
          exact bodyPost_panic rfl (ends_err HE.out rfl HO2.out)
        · have hn : nr = some (.string (bs o), k + 1 + m) := NR.out
          have ht : tk = some (⟨4, 0, o, 0⟩, m + 1) := E0.out
          subst hn ht
          have HE : Hid (R = .ok (tkV ⟨4, 0, o, 0⟩ k, k + 1 + m, op)) := by
            show _ = _
            rw [show k + 1 + m = k + (m + 1) by omega]; exact TR.out
          obtain ⟨rfl, hR2, hO2⟩ := hG
          have HR2 := Lib.hid hR2
          have HB2 := Lib.hid (HBb.out.off hO2 (by omega))
          have HC2 := Lib.hid (HCb.out.off hO2 (by omega))
          have HO2 := Lib.hid (HOb.out.trans hO2)
          clear hR2 hO2
          have b0 := HB2.out.c0
          have b1 := HB2.out.c1
          have b2 := HB2.out.c2
          have b3 := HB2.out.c3
          have d0 := HC2.out.c0
          have d1 := HC2.out.c1
          have d2 := HC2.out.c2
          have d3 := HC2.out.c3
          have fb := HB2.out.fz
          have fd := HC2.out.fz
          go_wp2_with fail
          have hne : w.heap.size ≠ w.heap.size + 1 := by omega
          have hb1 : b ≠ w.heap.size + 1 := by omega
          have hb2 : b ≠ w.heap.size := by omega
          refine bodyPost_ret (tok_res ((((((HB2.out.far (p := ⟨w.heap.size + 1, 0, none⟩) hne _).far (p := ⟨w.heap.size + 1, 2, none⟩) hne _).s0 _).s1 _).s2 _).s3 _) _ rfl) rfl (ends_ok HE.out rfl ?_ ?_)
          · exact (((((HR2.out.far (p := ⟨w.heap.size + 1, 0, none⟩) hb1 _).far (p := ⟨w.heap.size + 1, 2, none⟩) hb1 _).far (p := ⟨w.heap.size, 0, none⟩) hb2 _).far (p := ⟨w.heap.size, 1, none⟩) hb2 _).far (p := ⟨w.heap.size, 2, none⟩) hb2 _).far (p := ⟨w.heap.size, 3, none⟩) hb2 _
          · exact (((((HO2.out.newSet (p := ⟨w.heap.size + 1, 0, none⟩) (by simp) _).newSet (p := ⟨w.heap.size + 1, 2, none⟩) (by simp) _).newSet (p := ⟨w.heap.size, 0, none⟩) (by simp) _).newSet (p := ⟨w.heap.size, 1, none⟩) (by simp) _).newSet (p := ⟨w.heap.size, 2, none⟩) (by simp) _).newSet (p := ⟨w.heap.size, 3, none⟩) (by simp) _
      · by_cases hc2 : (s[k].toNat : Int) = 34
        · have hc := hc2
          clear hnp hc2
          have hnp : npB (s[k].toNat : Int) = false := by rw [hc]; rfl
          rw [hnp] at NP
          have hq : s[k] = 34 := ci_inj (by unfold ci; rw [hc]; rfl)
          have q39 : ((s[k].toNat : Int) == 39) = false := by rw [hc]; rfl
          have qc : ((s[k].toNat : Int) == 34) = true := by rw [hc]; rfl
          have T := Lib.hid (fun w h => text_lex b s hs k op k hk w h)
          have E0 : Hid (tokO (s.data.toList.drop k) = match txt s[k] (s.data.toList.drop (k + 1)) with | none => none | some (o, m) => some (⟨4, 0, o, 0⟩, m + 1)) := by
            show _ = _
            rw [drop_cons s k hk, tokO]; unfold ci; rw [if_neg (by rw [hd]; decide), if_neg (by rw [hnp]; decide), if_pos (by omega)]; rfl
          have NR : Hid (textR s s[k] k = match txt s[k] (s.data.toList.drop (k + 1)) with | none => none | some (o, m) => some (.string (bs o), k + 1 + m)) := rfl
          generalize textR s s[k] k = nr at *
          generalize txt s[k] (s.data.toList.drop (k + 1)) = q at *
          generalize tokO (s.data.toList.drop k) = tk at *
          clear hnp hq hc hd
          go_enter Try.func24, Try.ntmps24
          go_wp2_with fail
          go_quiet (fail)
          rw [← HWA.out]
          go_wp2_with fail
          refine (D.out _).mono ?_; rintro e w' ⟨rfl, rfl⟩
          have HRb := Lib.hid (HRa.out.drewN nq)
          have HOb := Lib.hid (HOa.out.drewN nq)
          have HBb := Lib.hid (HBa.out.drewN nq)
          have HCb := Lib.hid (HCa.out.drewN nq)
          generalize wa.drewN nq = wb at *
          go_wp2_with fail
          refine (NP.out _).mono ?_; rintro e w' ⟨rfl, rfl⟩
          go_wp2_with fail
          refine (T.out _ HRb.out).mono ?_; rintro e w2 hG
          rcases q with _ | ⟨o, m⟩
          · have hn : nr = none := NR.out
            have ht : tk = none := E0.out
            subst hn ht
            have HE : Hid (R = .error 5) := TR.out
            obtain ⟨rfl, hO2⟩ := hG
            unfold flt
            have HO2 := Lib.hid (HOb.out.trans hO2)
            clear hO2
            go_wp2_with fail
            exact bodyPost_panic rfl (ends_err HE.out rfl HO2.out)
          · have hn : nr = some (.string (bs o), k + 1 + m) := NR.out
            have ht : tk = some (⟨4, 0, o, 0⟩, m + 1) := E0.out
            subst hn ht
            have HE : Hid (R = .ok (tkV ⟨4, 0, o, 0⟩ k, k + 1 + m, op)) := by
              show _ = _
              rw [show k + 1 + m = k + (m + 1) by omega]; exact TR.out
            obtain ⟨rfl, hR2, hO2⟩ := hG
            have HR2 := Lib.hid hR2
            have HB2 := Lib.hid (HBb.out.off hO2 (by omega))
            have HC2 := Lib.hid (HCb.out.off hO2 (by omega))
            have HO2 := Lib.hid (HOb.out.trans hO2)
            clear hR2 hO2
            have b0 := HB2.out.c0
            have b1 := HB2.out.c1
            have b2 := HB2.out.c2
            have b3 := HB2.out.c3
            have d0 := HC2.out.c0
            have d1 := HC2.out.c1
            have d2 := HC2.out.c2
            have d3 := HC2.out.c3
            have fb := HB2.out.fz
            have fd := HC2.out.fz
            go_wp2_with fail
            have hne : w.heap.size ≠ w.heap.size + 1 := by omega
            have hb1 : b ≠ w.heap.size + 1 := by omega
            have hb2 : b ≠ w.heap.size := by omega
            refine bodyPost_ret (tok_res ((((((HB2.out.far (p := ⟨w.heap.size + 1, 0, none⟩) hne _).far (p := ⟨w.heap.size + 1, 2, none⟩) hne _).s0 _).s1 _).s2 _).s3 _) _ rfl) rfl (ends_ok HE.out rfl ?_ ?_)
            · exact (((((HR2.out.far (p := ⟨w.heap.size + 1, 0, none⟩) hb1 _).far (p := ⟨w.heap.size + 1, 2, none⟩) hb1 _).far (p := ⟨w.heap.size, 0, none⟩) hb2 _).far (p := ⟨w.heap.size, 1, none⟩) hb2 _).far (p := ⟨w.heap.size, 2, none⟩) hb2 _).far (p := ⟨w.heap.size, 3, none⟩) hb2 _
            · exact (((((HO2.out.newSet (p := ⟨w.heap.size + 1, 0, none⟩) (by simp) _).newSet (p := ⟨w.heap.size + 1, 2, none⟩) (by simp) _).newSet (p := ⟨w.heap.size, 0, none⟩) (by simp) _).newSet (p := ⟨w.heap.size, 1, none⟩) (by simp) _).newSet (p := ⟨w.heap.size, 2, none⟩) (by simp) _).newSet (p := ⟨w.heap.size, 3, none⟩) (by simp) _
        · have hnp2 : npB (s[k].toNat : Int) = false := by simpa using hnp
          rw [hnp2] at NP
          have q39 : ((s[k].toNat : Int) == 39) = false := by rw [beq_eq_false_iff_ne]; exact hc
          have q34 : ((s[k].toNat : Int) == 34) = false := by rw [beq_eq_false_iff_ne]; exact hc2
          have S := Lib.hid (fun w h => sign_any b s hs k op h0 h1 k (by omega) w h)
          have E0 : Hid (tokO (s.data.toList.drop k) = if sgnN (s.data.toList.drop k) 4 = 0 then none else some (⟨5, 0, (s.data.toList.drop k).take (sgnN (s.data.toList.drop k) 4), 0⟩, sgnN (s.data.toList.drop k) 4)) := by
            show _ = _
            rw [drop_cons s k hk, tokO]; unfold ci; rw [if_neg (by rw [hd]; decide), if_neg (by rw [hnp2]; decide), if_neg (by omega)]
          have SR : Hid (signR s k op = if sgnN (s.data.toList.drop k) 4 = 0 then .error 5 else if opens ((s.data.toList.drop k).take (sgnN (s.data.toList.drop k) 4)) = true ∧ op = 240 then .error 6 else .ok (.string (bs ((s.data.toList.drop k).take (sgnN (s.data.toList.drop k) 4))), k + sgnN (s.data.toList.drop k) 4, opB ((s.data.toList.drop k).take (sgnN (s.data.toList.drop k) 4)) op)) := rfl
          generalize signR s k op = sr at *
          generalize sgnN (s.data.toList.drop k) 4 = n at *
          generalize (s.data.toList.drop k).take n = P at *
          generalize tokO (s.data.toList.drop k) = tk at *
          clear hd hnp hnp2 hc hc2
          go_enter Try.func24, Try.ntmps24
          go_wp2_with fail
          go_quiet (fail)
          rw [← HWA.out]
          go_wp2_with fail
          refine (D.out _).mono ?_; rintro e w' ⟨rfl, rfl⟩
          have HRb := Lib.hid (HRa.out.drewN nq)
          have HOb := Lib.hid (HOa.out.drewN nq)
          have HBb := Lib.hid (HBa.out.drewN nq)
          have HCb := Lib.hid (HCa.out.drewN nq)
          generalize wa.drewN nq = wb at *
          go_wp2_with fail
          refine (NP.out _).mono ?_; rintro e w' ⟨rfl, rfl⟩
          go_wp2_with fail
          refine (S.out _ HRb.out).mono ?_; rintro e w2 hG
          by_cases hz : n = 0
          · have hn : sr = .error 5 := SR.out.trans (if_pos hz)
            have ht : tk = none := E0.out.trans (if_pos hz)
            subst hn ht
            have HE : Hid (R = .error 5) := TR.out
            clear hz
            obtain ⟨rfl, hO2⟩ := hG
            unfold flt
            have HO2 := Lib.hid (HOb.out.trans hO2)
            clear hO2
            go_wp2_with fail
            exact bodyPost_panic rfl (ends_err HE.out rfl HO2.out)
          · have hsr := SR.out.trans (if_neg hz)
            have ht : tk = some (⟨5, 0, P, 0⟩, n) := E0.out.trans (if_neg hz)
            subst ht
            by_cases hdeep : opens P = true ∧ op = 240
            · have hn : sr = .error 6 := hsr.trans (if_pos hdeep)
              subst hn
              have HE : Hid (R = .error 6) := by
                show _ = _
                have e : tooDeep ⟨5, 0, P, 0⟩ op = true := by unfold tooDeep; simp [hdeep.1, hdeep.2]
                have := TR.out; simp only [e] at this; exact this
              clear hsr hz hdeep
              obtain ⟨rfl, hO2⟩ := hG
              unfold flt
              have HO2 := Lib.hid (HOb.out.trans hO2)
              clear hO2
              go_wp2_with fail
              exact bodyPost_panic rfl (ends_err HE.out rfl HO2.out)
            · have hn : sr = .ok (.string (bs P), k + n, opB P op) := hsr.trans (if_neg hdeep)
              subst hn
              have HE : Hid (R = .ok (tkV ⟨5, 0, P, 0⟩ k, k + n, opB P op)) := by
                show _ = _
                have e : tooDeep ⟨5, 0, P, 0⟩ op = false := by
                  unfold tooDeep
                  cases ho : opens P
                  · simp
                  · have : ¬ op = 240 := fun h => hdeep ⟨ho, h⟩
                    simp [this]
                have := TR.out; simp only [e] at this; exact this
              clear hsr hz hdeep
              obtain ⟨rfl, hR2, hO2⟩ := hG
              have HR2 := Lib.hid hR2
              have HB2 := Lib.hid (HBb.out.off hO2 (by omega))
              have HC2 := Lib.hid (HCb.out.off hO2 (by omega))
              have HO2 := Lib.hid (HOb.out.trans hO2)
              clear hR2 hO2
              have b0 := HB2.out.c0
              have b1 := HB2.out.c1
              have b2 := HB2.out.c2
              have b3 := HB2.out.c3
              have d0 := HC2.out.c0
              have d1 := HC2.out.c1
              have d2 := HC2.out.c2
              have d3 := HC2.out.c3
              have fb := HB2.out.fz
              have fd := HC2.out.fz
              go_wp2_with fail
              have hne : w.heap.size ≠ w.heap.size + 1 := by omega
              have hb1 : b ≠ w.heap.size + 1 := by omega
              have hb2 : b ≠ w.heap.size := by omega
              refine bodyPost_ret (tok_res ((((((HB2.out.far (p := ⟨w.heap.size + 1, 0, none⟩) hne _).far (p := ⟨w.heap.size + 1, 2, none⟩) hne _).s0 _).s1 _).s2 _).s3 _) _ rfl) rfl (ends_ok HE.out rfl ?_ ?_)
              · exact (((((HR2.out.far (p := ⟨w.heap.size + 1, 0, none⟩) hb1 _).far (p := ⟨w.heap.size + 1, 2, none⟩) hb1 _).far (p := ⟨w.heap.size, 0, none⟩) hb2 _).far (p := ⟨w.heap.size, 1, none⟩) hb2 _).far (p := ⟨w.heap.size, 2, none⟩) hb2 _).far (p := ⟨w.heap.size, 3, none⟩) hb2 _
              · exact (((((HO2.out.newSet (p := ⟨w.heap.size + 1, 0, none⟩) (by simp) _).newSet (p := ⟨w.heap.size + 1, 2, none⟩) (by simp) _).newSet (p := ⟨w.heap.size, 0, none⟩) (by simp) _).newSet (p := ⟨w.heap.size, 1, none⟩) (by simp) _).newSet (p := ⟨w.heap.size, 2, none⟩) (by simp) _).newSet (p := ⟨w.heap.size, 3, none⟩) (by simp) _
  · rw [hd] at D
    have hnp : npB (s[k].toNat : Int) = true := by
      unfold digB at hd; unfold npB; simp only [decide_eq_true_eq] at hd ⊢; omega
    have N := Lib.hid (fun w h => number_any b s (by omega) k op k hk hnp w h)
    have E0 : Hid (tokO (s.data.toList.drop k) = match numO ((s.data.toList.drop k).take (nmL (s.data.toList.drop k))) with | none => none | some n => some (⟨3, 0, [], ofI n⟩, nmL (s.data.toList.drop k))) := by
      show _ = _
      rw [drop_cons s k hk, tokO]; unfold ci; rw [if_pos hd]; rfl
    have NR : Hid (numR s k = match numO ((s.data.toList.drop k).take (nmL (s.data.toList.drop k))) with | some v => some (.int .u64 (ofI v), k + nmL (s.data.toList.drop k)) | none => none) := rfl
    generalize numR s k = nr at *
    generalize nmL (s.data.toList.drop k) = n at *
    generalize numO ((s.data.toList.drop k).take n) = q at *
    generalize tokO (s.data.toList.drop k) = tk at *
    clear hd hnp
    go_enter Try.func24, Try.ntmps24
    go_wp2_with fail
    go_quiet (fail)
    rw [← HWA.out]
    go_wp2_with fail
    refine (D.out _).mono ?_; rintro e w' ⟨rfl, rfl⟩
    have HRb := Lib.hid (HRa.out.drewN nq)
    have HOb := Lib.hid (HOa.out.drewN nq)
    have HBb := Lib.hid (HBa.out.drewN nq)
    have HCb := Lib.hid (HCa.out.drewN nq)
    generalize wa.drewN nq = wb at *
    go_wp2_with fail
    refine (N.out _ HRb.out).mono ?_; rintro e w2 hG
    rcases q with _ | v
    · have hn : nr = none := NR.out
      have ht : tk = none := E0.out
      subst hn ht
      have E := TR.out
      have HE := Lib.hid E
      clear E
      obtain ⟨rfl, hO2⟩ := hG
      unfold flt
      have HO2 := Lib.hid (HOb.out.trans hO2)
      clear hO2
      go_wp2_with fail
      exact bodyPost_panic rfl (ends_err HE.out rfl HO2.out)
    · have hn : nr = some (.int .u64 (ofI v), k + n) := NR.out
      have ht : tk = some (⟨3, 0, [], ofI v⟩, n) := E0.out
      subst hn ht
      have HE : Hid (R = .ok (tkV ⟨3, 0, [], ofI v⟩ k, k + n, op)) := TR.out
      obtain ⟨rfl, hR2, hO2⟩ := hG
      have HR2 := Lib.hid hR2
      have HB2 := Lib.hid (HBb.out.off hO2 (by omega))
      have HC2 := Lib.hid (HCb.out.off hO2 (by omega))
      have HO2 := Lib.hid (HOb.out.trans hO2)
      clear hR2 hO2
      have b0 := HB2.out.c0
      have b1 := HB2.out.c1
      have b2 := HB2.out.c2
      have b3 := HB2.out.c3
      have d0 := HC2.out.c0
      have d1 := HC2.out.c1
      have d2 := HC2.out.c2
      have d3 := HC2.out.c3
      have fb := HB2.out.fz
      have fd := HC2.out.fz
      go_wp2_with fail
      have hne : w.heap.size ≠ w.heap.size + 1 := by omega
      have hb1 : b ≠ w.heap.size + 1 := by omega
      have hb2 : b ≠ w.heap.size := by omega
      refine bodyPost_ret (tok_res ((((((HB2.out.far (p := ⟨w.heap.size + 1, 0, none⟩) hne _).far (p := ⟨w.heap.size + 1, 3, none⟩) hne _).s0 _).s1 _).s2 _).s3 _) _ rfl) rfl (ends_ok HE.out rfl ?_ ?_)
      · exact (((((HR2.out.far (p := ⟨w.heap.size + 1, 0, none⟩) hb1 _).far (p := ⟨w.heap.size + 1, 3, none⟩) hb1 _).far (p := ⟨w.heap.size, 0, none⟩) hb2 _).far (p := ⟨w.heap.size, 1, none⟩) hb2 _).far (p := ⟨w.heap.size, 2, none⟩) hb2 _).far (p := ⟨w.heap.size, 3, none⟩) hb2 _
      · exact (((((HO2.out.newSet (p := ⟨w.heap.size + 1, 0, none⟩) (by simp) _).newSet (p := ⟨w.heap.size + 1, 3, none⟩) (by simp) _).newSet (p := ⟨w.heap.size, 0, none⟩) (by simp) _).newSet (p := ⟨w.heap.size, 1, none⟩) (by simp) _).newSet (p := ⟨w.heap.size, 2, none⟩) (by simp) _).newSet (p := ⟨w.heap.size, 3, none⟩) (by simp) _
end Go.Proofs.Ytcpjggcpimghjaa
