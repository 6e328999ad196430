/- Part of a proof: contracts of functions. -/
import Derived.Test.YtfcgpphodacdmaaGreatDoorY12
import Derived.OwnWalk
import Derived.Test.YtfcgpphodacdmaaGreatDoorY3
import Derived.Defers
import Derived.Recover
import Derived.RegionTactic
set_option maxRecDepth 100000
set_option maxHeartbeats 4000000
set_option linter.all false
namespace Go.Proofs.YtfcgpphodacdmaaGreatDoor
open Go.RowKit
section
def tkV (t : Tk) (a : Int) : Value := .agg #[.int .i64 t.kind, .int .i64 a, .string (bs t.text), .int .u64 t.bits]
def zd9 (s : ByteArray) (k : Nat) (op : Int) : Except Int (Value × Nat × Int) := match yh (s.data.toList.drop k) with
 | none => .error 5
 | some (t, n) => if yU t op then .error 6 else .ok (tkV t k, k + n, opA t op)
def B4 (w : World) (g : Nat) (x0 x1 x2 x3 : Value) : Prop := w.heap[g]? = some (.cells #[x0, x1, x2, x3] 60 (0, 0))
section
variable {w w' : World} {g b : Nat} {x0 x1 x2 x3 : Value}
theorem B4.lt (h : B4 w g x0 x1 x2 x3) : g < w.heap.size := by
 rcases Nat.lt_or_ge g w.heap.size with hlt | hge
 ·exact hlt
 ·unfold B4 at h; rw [Array.getElem?_eq_none hge] at h; cases h
theorem B4.c0 (h : B4 w g x0 x1 x2 x3) : w.cell? ⟨g, 0, none⟩ = some x0 := by unfold B4 at h; simp [World.cell?, h]
theorem B4.c1 (h : B4 w g x0 x1 x2 x3) : w.cell? ⟨g, 1, none⟩ = some x1 := by unfold B4 at h; simp [World.cell?, h]
theorem B4.c2 (h : B4 w g x0 x1 x2 x3) : w.cell? ⟨g, 2, none⟩ = some x2 := by unfold B4 at h; simp [World.cell?, h]
theorem B4.c3 (h : B4 w g x0 x1 x2 x3) : w.cell? ⟨g, 3, none⟩ = some x3 := by unfold B4 at h; simp [World.cell?, h]
theorem B4.fz (h : B4 w g x0 x1 x2 x3) (i : Nat) : w.frozen? ⟨g, i, none⟩ = false := by unfold B4 at h; simp [World.frozen?, h]
theorem B4.off (h : B4 w g x0 x1 x2 x3) (o : Off b w w') (hg : g ≠ b) : B4 w' g x0 x1 x2 x3 := (o.block g h.lt hg).trans h
theorem B4.alloc (h : B4 w g x0 x1 x2 x3) (o : Obj) : B4 (w.alloc o) g x0 x1 x2 x3 := (Below.heap_alloc w o g h.lt).trans h
theorem B4.drewN (h : B4 w g x0 x1 x2 x3) (n : Nat) : B4 (w.drewN n) g x0 x1 x2 x3 := h
theorem B4.new (w : World) (x0 x1 x2 x3 : Value) : B4 (w.alloc (.cells #[x0, x1, x2, x3] 60)) w.heap.size x0 x1 x2 x3 := heap_alloc_new w _
theorem B4.s0 (h : B4 w g x0 x1 x2 x3) (u : Value) : B4 (w.setCell ⟨g, 0, none⟩ u) g u x1 x2 x3 := by unfold B4 at h ⊢; simp [World.setCell, Array.getElem?_modify, h]
theorem B4.s1 (h : B4 w g x0 x1 x2 x3) (u : Value) : B4 (w.setCell ⟨g, 1, none⟩ u) g x0 u x2 x3 := by unfold B4 at h ⊢; simp [World.setCell, Array.getElem?_modify, h]
theorem B4.s2 (h : B4 w g x0 x1 x2 x3) (u : Value) : B4 (w.setCell ⟨g, 2, none⟩ u) g x0 x1 u x3 := by unfold B4 at h ⊢; simp [World.setCell, Array.getElem?_modify, h]
theorem B4.s3 (h : B4 w g x0 x1 x2 x3) (u : Value) : B4 (w.setCell ⟨g, 3, none⟩ u) g x0 x1 x2 u := by unfold B4 at h ⊢; simp [World.setCell, Array.getElem?_modify, h]
theorem B4.far (h : B4 w g x0 x1 x2 x3) {p : Addr} (hp : g ≠ p.block) (u : Value) : B4 (w.setCell p u) g x0 x1 x2 x3 := (Below.heap_setCell w p u g hp).trans h
end
theorem uK {wf : World} {g : Nat} {x0 x1 x2 x3 : Value} (h : B4 wf g x0 x1 x2 x3) (tmps : Array Value) (ht : tmps[2]?.getD undef = .pointer (some ⟨g, 0, none⟩)) :
  (results Tryz.f91 tmps).run Tryz.prog wf = .ok (.agg #[x0, x1, x2, x3]) wf := by
 have e0 := h.c0;have e1 := h.c1;have e2 := h.c2;have e3 := h.c3;simp [results, Tryz.results91, go_sem, ht, e0, e1, e2, e3]
theorem zid (b : Nat) (s : ByteArray) (hs : s.size ≤ 100000) (beg op : Int) (h0 : 0 ≤ op) (h1 : op ≤ 240) (k : Nat) (hk : k < s.size) (w : World) (h : Rd w b s beg k op) :
  Calls Tryz.prog 91 #[.pointer (some ⟨b, 0, none⟩)] w (zex b s k w (zd9 s k op)) := by
 have H := za h;have c0 := h.c0;have c1 := h.c1;have c2 := h.c2;have f1 := h.fz 1;have hbl := h.lt;clear h;obtain ⟨wa, hwa⟩ : ∃ wa, wa = (((w.setCell ⟨b, 1, none⟩ (.int .i64 (k : Int))).alloc (.cells #[.int .i64 0, .int .i64 0, .string ⟨#[]⟩, .int .u64 0] 60)).alloc (.cells #[.int .i64 0, .int .i64 (k : Int), .string ⟨#[]⟩, .int .u64 0] 60)) := ⟨_, rfl⟩;have HRa : Hid (Rd wa b s k k op) := hwa ▸ (((H.out.s1 (k : Int)).alloc _).alloc _);have HOa : Hid (Off b w wa) := hwa ▸ ((((Off.refl b w).set 1 _).alloc _).alloc _);have HBa : Hid (B4 wa w.heap.size (.int .i64 0) (.int .i64 0) (.string ⟨#[]⟩) (.int .u64 0)) := hwa ▸ ((by simpa using B4.new (w.setCell ⟨b, 1, none⟩ (.int .i64 (k : Int))) _ _ _ _ : B4 _ _ _ _ _ _).alloc _);have HCa : Hid (B4 wa (w.heap.size + 1) (.int .i64 0) (.int .i64 (k : Int)) (.string ⟨#[]⟩) (.int .u64 0)) := by
  show B4 _ _ _ _ _ _
  rw [hwa];have := B4.new ((w.setCell ⟨b, 1, none⟩ (.int .i64 (k : Int))).alloc (.cells #[.int .i64 0, .int .i64 0, .string ⟨#[]⟩, .int .u64 0] 60)) (.int .i64 0) (.int .i64 (k : Int)) (.string ⟨#[]⟩) (.int .u64 0)
  simpa using this
 have HWA := za hwa;clear hwa;have D := za (fun w => uf (s[k].toNat : Int) w);have TR : Hid (zd9 s k op = match yh (s.data.toList.drop k) with | none => .error 5 | some (t, n) => if yU t op then .error 6 else .ok (tkV t k, k + n, opA t op)) := rfl;generalize zd9 s k op = R at *;cases hd : digB (s[k].toNat : Int)
 ·rw [hd] at D;have NP := za (fun w => vX (s[k].toNat : Int) w);by_cases hnp : npB (s[k].toNat : Int) = true
  ·rw [hnp] at NP;have N := za (fun w h => zi4 b s (by omega) k op k hk w h);have E0 : Hid (yh (s.data.toList.drop k) = some (⟨if zV ((s.data.toList.drop k).take (nmL (s.data.toList.drop k))) = true then 2 else 1, 0, (s.data.toList.drop k).take (nmL (s.data.toList.drop k)), 0⟩, nmL (s.data.toList.drop k))) := by
    show _ = _
    rw [zO s k hk, yh]; unfold ci; rw [if_neg (by rw [hd]; decide), if_pos hnp]
   have NR : Hid (zbF s k = .tuple #[.int .i64 (if zV ((s.data.toList.drop k).take (nmL (s.data.toList.drop k))) = true then 2 else 1), .string (bs ((s.data.toList.drop k).take (nmL (s.data.toList.drop k))))]) := rfl;generalize zbF s k = nr at *;generalize nmL (s.data.toList.drop k) = n at *;generalize (s.data.toList.drop k).take n = P at *;generalize yh (s.data.toList.drop k) = tk at *;clear hd hnp;cases hw : zV P
   ·rw [hw] at E0 NR;clear hw
    go_enter Tryz.func91, Tryz.ntmps91
    go_wp2_with fail
    go_quiet (fail)
    rw [← HWA.out];go_wp2_with fail;refine (D.out _).mono ?_; rintro e w' ⟨rfl, rfl⟩;have HRb := za (HRa.out.drewN nq);have HOb := za (HOa.out.drewN nq);have HBb := za (HBa.out.drewN nq);have HCb := za (HCa.out.drewN nq);generalize wa.drewN nq = wb at *;go_wp2_with fail;refine (NP.out _).mono ?_; rintro e w' ⟨rfl, rfl⟩;go_wp2_with fail;refine (N.out _ HRb.out).mono ?_; rintro e w2 ⟨rfl, hR2, hO2⟩;rw [NR.out];have ht : tk = some (⟨1, 0, P, 0⟩, n) := E0.out;subst ht;have HE : Hid (R = .ok (tkV ⟨1, 0, P, 0⟩ k, k + n, op)) := TR.out;have HR2 := za hR2;have HB2 := za (HBb.out.off hO2 (by omega));have HC2 := za (HCb.out.off hO2 (by omega));have HO2 := za (HOb.out.trans hO2);clear hR2 hO2;have b0 := HB2.out.c0;have b1 := HB2.out.c1;have b2 := HB2.out.c2;have b3 := HB2.out.c3;have d0 := HC2.out.c0;have d1 := HC2.out.c1;have d2 := HC2.out.c2;have d3 := HC2.out.c3;have fb := HB2.out.fz;have fd := HC2.out.fz;go_wp2_with fail;have hne : w.heap.size ≠ w.heap.size + 1 := by omega
    have hb1 : b ≠ w.heap.size + 1 := by omega
    have hb2 : b ≠ w.heap.size := by omega
    refine bodyPost_ret (uK ((((((HB2.out.far (p := ⟨w.heap.size + 1, 0, none⟩) hne _).far (p := ⟨w.heap.size + 1, 2, none⟩) hne _).s0 _).s1 _).s2 _).s3 _) _ rfl) rfl (xK HE.out rfl ?_ ?_)
    ·exact (((((HR2.out.far (p := ⟨w.heap.size + 1, 0, none⟩) hb1 _).far (p := ⟨w.heap.size + 1, 2, none⟩) hb1 _).far (p := ⟨w.heap.size, 0, none⟩) hb2 _).far (p := ⟨w.heap.size, 1, none⟩) hb2 _).far (p := ⟨w.heap.size, 2, none⟩) hb2 _).far (p := ⟨w.heap.size, 3, none⟩) hb2 _
    ·exact (((((HO2.out.newSet (p := ⟨w.heap.size + 1, 0, none⟩) (by simp) _).newSet (p := ⟨w.heap.size + 1, 2, none⟩) (by simp) _).newSet (p := ⟨w.heap.size, 0, none⟩) (by simp) _).newSet (p := ⟨w.heap.size, 1, none⟩) (by simp) _).newSet (p := ⟨w.heap.size, 2, none⟩) (by simp) _).newSet (p := ⟨w.heap.size, 3, none⟩) (by simp) _
   ·rw [hw] at E0 NR;clear hw
    go_enter Tryz.func91, Tryz.ntmps91
    go_wp2_with fail
    go_quiet (fail)
    rw [← HWA.out];go_wp2_with fail;refine (D.out _).mono ?_; rintro e w' ⟨rfl, rfl⟩;have HRb := za (HRa.out.drewN nq);have HOb := za (HOa.out.drewN nq);have HBb := za (HBa.out.drewN nq);have HCb := za (HCa.out.drewN nq);generalize wa.drewN nq = wb at *;go_wp2_with fail;refine (NP.out _).mono ?_; rintro e w' ⟨rfl, rfl⟩;go_wp2_with fail;refine (N.out _ HRb.out).mono ?_; rintro e w2 ⟨rfl, hR2, hO2⟩;rw [NR.out];have ht : tk = some (⟨2, 0, P, 0⟩, n) := E0.out;subst ht;have HE : Hid (R = .ok (tkV ⟨2, 0, P, 0⟩ k, k + n, op)) := TR.out;have HR2 := za hR2;have HB2 := za (HBb.out.off hO2 (by omega));have HC2 := za (HCb.out.off hO2 (by omega));have HO2 := za (HOb.out.trans hO2);clear hR2 hO2;have b0 := HB2.out.c0;have b1 := HB2.out.c1;have b2 := HB2.out.c2;have b3 := HB2.out.c3;have d0 := HC2.out.c0;have d1 := HC2.out.c1;have d2 := HC2.out.c2;have d3 := HC2.out.c3;have fb := HB2.out.fz;have fd := HC2.out.fz;go_wp2_with fail;have hne : w.heap.size ≠ w.heap.size + 1 := by omega
    have hb1 : b ≠ w.heap.size + 1 := by omega
    have hb2 : b ≠ w.heap.size := by omega
    refine bodyPost_ret (uK ((((((HB2.out.far (p := ⟨w.heap.size + 1, 0, none⟩) hne _).far (p := ⟨w.heap.size + 1, 2, none⟩) hne _).s0 _).s1 _).s2 _).s3 _) _ rfl) rfl (xK HE.out rfl ?_ ?_)
    ·exact (((((HR2.out.far (p := ⟨w.heap.size + 1, 0, none⟩) hb1 _).far (p := ⟨w.heap.size + 1, 2, none⟩) hb1 _).far (p := ⟨w.heap.size, 0, none⟩) hb2 _).far (p := ⟨w.heap.size, 1, none⟩) hb2 _).far (p := ⟨w.heap.size, 2, none⟩) hb2 _).far (p := ⟨w.heap.size, 3, none⟩) hb2 _
    ·exact (((((HO2.out.newSet (p := ⟨w.heap.size + 1, 0, none⟩) (by simp) _).newSet (p := ⟨w.heap.size + 1, 2, none⟩) (by simp) _).newSet (p := ⟨w.heap.size, 0, none⟩) (by simp) _).newSet (p := ⟨w.heap.size, 1, none⟩) (by simp) _).newSet (p := ⟨w.heap.size, 2, none⟩) (by simp) _).newSet (p := ⟨w.heap.size, 3, none⟩) (by simp) _
  ·by_cases hc : (s[k].toNat : Int) = 39
   ·clear hnp;have hnp : npB (s[k].toNat : Int) = false := by rw [hc]; rfl
    rw [hnp] at NP;have hq : s[k] = 39 := xY (by unfold ci; rw [hc]; rfl);have qc : ((s[k].toNat : Int) == 39) = true := by rw [hc]; rfl
    have T := za (fun w h => zew b s hs k op k hk w h);have E0 : Hid (yh (s.data.toList.drop k) = match txt s[k] (s.data.toList.drop (k + 1)) with | none => none | some (o, m) => some (⟨4, 0, o, 0⟩, m + 1)) := by
     show _ = _
     rw [zO s k hk, yh]; unfold ci; rw [if_neg (by rw [hd]; decide), if_neg (by rw [hnp]; decide), if_pos (by omega)]; rfl
    have NR : Hid (uj s s[k] k = match txt s[k] (s.data.toList.drop (k + 1)) with | none => none | some (o, m) => some (.string (bs o), k + 1 + m)) := rfl;generalize uj s s[k] k = nr at *;generalize txt s[k] (s.data.toList.drop (k + 1)) = q at *;generalize yh (s.data.toList.drop k) = tk at *;clear hnp hq hc hd
    go_enter Tryz.func91, Tryz.ntmps91
    go_wp2_with fail
    go_quiet (fail)
    rw [← HWA.out];go_wp2_with fail;refine (D.out _).mono ?_; rintro e w' ⟨rfl, rfl⟩;have HRb := za (HRa.out.drewN nq);have HOb := za (HOa.out.drewN nq);have HBb := za (HBa.out.drewN nq);have HCb := za (HCa.out.drewN nq);generalize wa.drewN nq = wb at *;go_wp2_with fail;refine (NP.out _).mono ?_; rintro e w' ⟨rfl, rfl⟩;go_wp2_with fail;refine (T.out _ HRb.out).mono ?_; rintro e w2 hG;rcases q with _ | ⟨o, m⟩
    ·have hn : nr = none := NR.out;have ht : tk = none := E0.out;subst hn ht;have HE : Hid (R = .error 5) := TR.out;obtain ⟨rfl, hO2⟩ := hG;unfold flt;have HO2 := za (HOb.out.trans hO2);clear hO2;go_wp2_with fail;exact zf rfl (qv HE.out rfl HO2.out)
    ·have hn : nr = some (.string (bs o), k + 1 + m) := NR.out;have ht : tk = some (⟨4, 0, o, 0⟩, m + 1) := E0.out;subst hn ht;have HE : Hid (R = .ok (tkV ⟨4, 0, o, 0⟩ k, k + 1 + m, op)) := by
      show _ = _
      rw [show k + 1 + m = k + (m + 1) by omega]; exact TR.out
     obtain ⟨rfl, hR2, hO2⟩ := hG;have HR2 := za hR2;have HB2 := za (HBb.out.off hO2 (by omega));have HC2 := za (HCb.out.off hO2 (by omega));have HO2 := za (HOb.out.trans hO2);clear hR2 hO2;have b0 := HB2.out.c0;have b1 := HB2.out.c1;have b2 := HB2.out.c2;have b3 := HB2.out.c3;have d0 := HC2.out.c0;have d1 := HC2.out.c1;have d2 := HC2.out.c2;have d3 := HC2.out.c3;have fb := HB2.out.fz;have fd := HC2.out.fz;go_wp2_with fail;have hne : w.heap.size ≠ w.heap.size + 1 := by omega
     have hb1 : b ≠ w.heap.size + 1 := by omega
     have hb2 : b ≠ w.heap.size := by omega
     refine bodyPost_ret (uK ((((((HB2.out.far (p := ⟨w.heap.size + 1, 0, none⟩) hne _).far (p := ⟨w.heap.size + 1, 2, none⟩) hne _).s0 _).s1 _).s2 _).s3 _) _ rfl) rfl (xK HE.out rfl ?_ ?_)
     ·exact (((((HR2.out.far (p := ⟨w.heap.size + 1, 0, none⟩) hb1 _).far (p := ⟨w.heap.size + 1, 2, none⟩) hb1 _).far (p := ⟨w.heap.size, 0, none⟩) hb2 _).far (p := ⟨w.heap.size, 1, none⟩) hb2 _).far (p := ⟨w.heap.size, 2, none⟩) hb2 _).far (p := ⟨w.heap.size, 3, none⟩) hb2 _
     ·exact (((((HO2.out.newSet (p := ⟨w.heap.size + 1, 0, none⟩) (by simp) _).newSet (p := ⟨w.heap.size + 1, 2, none⟩) (by simp) _).newSet (p := ⟨w.heap.size, 0, none⟩) (by simp) _).newSet (p := ⟨w.heap.size, 1, none⟩) (by simp) _).newSet (p := ⟨w.heap.size, 2, none⟩) (by simp) _).newSet (p := ⟨w.heap.size, 3, none⟩) (by simp) _
   ·by_cases hc2 : (s[k].toNat : Int) = 34
    ·have hc := hc2;clear hnp hc2;have hnp : npB (s[k].toNat : Int) = false := by rw [hc]; rfl
     rw [hnp] at NP;have hq : s[k] = 34 := xY (by unfold ci; rw [hc]; rfl);have q39 : ((s[k].toNat : Int) == 39) = false := by rw [hc]; rfl
     have qc : ((s[k].toNat : Int) == 34) = true := by rw [hc]; rfl
     have T := za (fun w h => zew b s hs k op k hk w h);have E0 : Hid (yh (s.data.toList.drop k) = match txt s[k] (s.data.toList.drop (k + 1)) with | none => none | some (o, m) => some (⟨4, 0, o, 0⟩, m + 1)) := by
      show _ = _
      rw [zO s k hk, yh]; unfold ci; rw [if_neg (by rw [hd]; decide), if_neg (by rw [hnp]; decide), if_pos (by omega)]; rfl
     have NR : Hid (uj s s[k] k = match txt s[k] (s.data.toList.drop (k + 1)) with | none => none | some (o, m) => some (.string (bs o), k + 1 + m)) := rfl;generalize uj s s[k] k = nr at *;generalize txt s[k] (s.data.toList.drop (k + 1)) = q at *;generalize yh (s.data.toList.drop k) = tk at *;clear hnp hq hc hd
     go_enter Tryz.func91, Tryz.ntmps91
     go_wp2_with fail
     go_quiet (fail)
     rw [← HWA.out];go_wp2_with fail;refine (D.out _).mono ?_; rintro e w' ⟨rfl, rfl⟩;have HRb := za (HRa.out.drewN nq);have HOb := za (HOa.out.drewN nq);have HBb := za (HBa.out.drewN nq);have HCb := za (HCa.out.drewN nq);generalize wa.drewN nq = wb at *;go_wp2_with fail;refine (NP.out _).mono ?_; rintro e w' ⟨rfl, rfl⟩;go_wp2_with fail;refine (T.out _ HRb.out).mono ?_; rintro e w2 hG;rcases q with _ | ⟨o, m⟩
     ·have hn : nr = none := NR.out;have ht : tk = none := E0.out;subst hn ht;have HE : Hid (R = .error 5) := TR.out;obtain ⟨rfl, hO2⟩ := hG;unfold flt;have HO2 := za (HOb.out.trans hO2);clear hO2;go_wp2_with fail;exact zf rfl (qv HE.out rfl HO2.out)
     ·have hn : nr = some (.string (bs o), k + 1 + m) := NR.out;have ht : tk = some (⟨4, 0, o, 0⟩, m + 1) := E0.out;subst hn ht;have HE : Hid (R = .ok (tkV ⟨4, 0, o, 0⟩ k, k + 1 + m, op)) := by
       show _ = _
       rw [show k + 1 + m = k + (m + 1) by omega]; exact TR.out
      obtain ⟨rfl, hR2, hO2⟩ := hG;have HR2 := za hR2;have HB2 := za (HBb.out.off hO2 (by omega));have HC2 := za (HCb.out.off hO2 (by omega));have HO2 := za (HOb.out.trans hO2);clear hR2 hO2;have b0 := HB2.out.c0;have b1 := HB2.out.c1;have b2 := HB2.out.c2;have b3 := HB2.out.c3;have d0 := HC2.out.c0;have d1 := HC2.out.c1;have d2 := HC2.out.c2;have d3 := HC2.out.c3;have fb := HB2.out.fz;have fd := HC2.out.fz;go_wp2_with fail;have hne : w.heap.size ≠ w.heap.size + 1 := by omega
      have hb1 : b ≠ w.heap.size + 1 := by omega
      have hb2 : b ≠ w.heap.size := by omega
      refine bodyPost_ret (uK ((((((HB2.out.far (p := ⟨w.heap.size + 1, 0, none⟩) hne _).far (p := ⟨w.heap.size + 1, 2, none⟩) hne _).s0 _).s1 _).s2 _).s3 _) _ rfl) rfl (xK HE.out rfl ?_ ?_)
      ·exact (((((HR2.out.far (p := ⟨w.heap.size + 1, 0, none⟩) hb1 _).far (p := ⟨w.heap.size + 1, 2, none⟩) hb1 _).far (p := ⟨w.heap.size, 0, none⟩) hb2 _).far (p := ⟨w.heap.size, 1, none⟩) hb2 _).far (p := ⟨w.heap.size, 2, none⟩) hb2 _).far (p := ⟨w.heap.size, 3, none⟩) hb2 _
      ·exact (((((HO2.out.newSet (p := ⟨w.heap.size + 1, 0, none⟩) (by simp) _).newSet (p := ⟨w.heap.size + 1, 2, none⟩) (by simp) _).newSet (p := ⟨w.heap.size, 0, none⟩) (by simp) _).newSet (p := ⟨w.heap.size, 1, none⟩) (by simp) _).newSet (p := ⟨w.heap.size, 2, none⟩) (by simp) _).newSet (p := ⟨w.heap.size, 3, none⟩) (by simp) _
    ·have hnp2 : npB (s[k].toNat : Int) = false := by simpa using hnp
     rw [hnp2] at NP;have q39 : ((s[k].toNat : Int) == 39) = false := by rw [zb]; exact hc
     have q34 : ((s[k].toNat : Int) == 34) = false := by rw [zb]; exact hc2
     have S := za (fun w h => zkg b s hs k op h0 h1 k (by omega) w h);have E0 : Hid (yh (s.data.toList.drop k) = if yl (s.data.toList.drop k) 4 = 0 then none else some (⟨5, 0, (s.data.toList.drop k).take (yl (s.data.toList.drop k) 4), 0⟩, yl (s.data.toList.drop k) 4)) := by
      show _ = _
      rw [zO s k hk, yh]; unfold ci; rw [if_neg (by rw [hd]; decide), if_neg (by rw [hnp2]; decide), if_neg (by omega)]
     have SR : Hid (jr s k op = if yl (s.data.toList.drop k) 4 = 0 then .error 5 else if yR ((s.data.toList.drop k).take (yl (s.data.toList.drop k) 4)) = true ∧ op = 240 then .error 6 else .ok (.string (bs ((s.data.toList.drop k).take (yl (s.data.toList.drop k) 4))), k + yl (s.data.toList.drop k) 4, opB ((s.data.toList.drop k).take (yl (s.data.toList.drop k) 4)) op)) := rfl;generalize jr s k op = sr at *;generalize yl (s.data.toList.drop k) 4 = n at *;generalize (s.data.toList.drop k).take n = P at *;generalize yh (s.data.toList.drop k) = tk at *;clear hd hnp hnp2 hc hc2
     go_enter Tryz.func91, Tryz.ntmps91
     go_wp2_with fail
     go_quiet (fail)
     rw [← HWA.out];go_wp2_with fail;refine (D.out _).mono ?_; rintro e w' ⟨rfl, rfl⟩;have HRb := za (HRa.out.drewN nq);have HOb := za (HOa.out.drewN nq);have HBb := za (HBa.out.drewN nq);have HCb := za (HCa.out.drewN nq);generalize wa.drewN nq = wb at *;go_wp2_with fail;refine (NP.out _).mono ?_; rintro e w' ⟨rfl, rfl⟩;go_wp2_with fail;refine (S.out _ HRb.out).mono ?_; rintro e w2 hG;by_cases hz : n = 0
     ·have hn : sr = .error 5 := SR.out.trans (if_pos hz);have ht : tk = none := E0.out.trans (if_pos hz);subst hn ht;have HE : Hid (R = .error 5) := TR.out;clear hz;obtain ⟨rfl, hO2⟩ := hG;unfold flt;have HO2 := za (HOb.out.trans hO2);clear hO2;go_wp2_with fail;exact zf rfl (qv HE.out rfl HO2.out)
     ·have hsr := SR.out.trans (if_neg hz);have ht : tk = some (⟨5, 0, P, 0⟩, n) := E0.out.trans (if_neg hz);subst ht;by_cases hdeep : yR P = true ∧ op = 240
      ·have hn : sr = .error 6 := hsr.trans (if_pos hdeep);subst hn;have HE : Hid (R = .error 6) := by
        show _ = _
        have e : yU ⟨5, 0, P, 0⟩ op = true := by unfold yU; simp [hdeep.1, hdeep.2]
        have := TR.out; simp only [e] at this; exact this
       clear hsr hz hdeep;obtain ⟨rfl, hO2⟩ := hG;unfold flt;have HO2 := za (HOb.out.trans hO2);clear hO2;go_wp2_with fail;exact zf rfl (qv HE.out rfl HO2.out)
      ·have hn : sr = .ok (.string (bs P), k + n, opB P op) := hsr.trans (if_neg hdeep);subst hn;have HE : Hid (R = .ok (tkV ⟨5, 0, P, 0⟩ k, k + n, opB P op)) := by
        show _ = _
        have e : yU ⟨5, 0, P, 0⟩ op = false := by
         unfold yU;cases ho : yR P
         ·simp
         ·have : ¬ op = 240 := fun h => hdeep ⟨ho, h⟩
          simp [this]
        have := TR.out; simp only [e] at this; exact this
       clear hsr hz hdeep;obtain ⟨rfl, hR2, hO2⟩ := hG;have HR2 := za hR2;have HB2 := za (HBb.out.off hO2 (by omega));have HC2 := za (HCb.out.off hO2 (by omega));have HO2 := za (HOb.out.trans hO2);clear hR2 hO2;have b0 := HB2.out.c0;have b1 := HB2.out.c1;have b2 := HB2.out.c2;have b3 := HB2.out.c3;have d0 := HC2.out.c0;have d1 := HC2.out.c1;have d2 := HC2.out.c2;have d3 := HC2.out.c3;have fb := HB2.out.fz;have fd := HC2.out.fz;go_wp2_with fail;have hne : w.heap.size ≠ w.heap.size + 1 := by omega
       have hb1 : b ≠ w.heap.size + 1 := by omega
       have hb2 : b ≠ w.heap.size := by omega
       refine bodyPost_ret (uK ((((((HB2.out.far (p := ⟨w.heap.size + 1, 0, none⟩) hne _).far (p := ⟨w.heap.size + 1, 2, none⟩) hne _).s0 _).s1 _).s2 _).s3 _) _ rfl) rfl (xK HE.out rfl ?_ ?_)
       ·exact (((((HR2.out.far (p := ⟨w.heap.size + 1, 0, none⟩) hb1 _).far (p := ⟨w.heap.size + 1, 2, none⟩) hb1 _).far (p := ⟨w.heap.size, 0, none⟩) hb2 _).far (p := ⟨w.heap.size, 1, none⟩) hb2 _).far (p := ⟨w.heap.size, 2, none⟩) hb2 _).far (p := ⟨w.heap.size, 3, none⟩) hb2 _
       ·exact (((((HO2.out.newSet (p := ⟨w.heap.size + 1, 0, none⟩) (by simp) _).newSet (p := ⟨w.heap.size + 1, 2, none⟩) (by simp) _).newSet (p := ⟨w.heap.size, 0, none⟩) (by simp) _).newSet (p := ⟨w.heap.size, 1, none⟩) (by simp) _).newSet (p := ⟨w.heap.size, 2, none⟩) (by simp) _).newSet (p := ⟨w.heap.size, 3, none⟩) (by simp) _
 ·rw [hd] at D;have hnp : npB (s[k].toNat : Int) = true := by
   unfold digB at hd; unfold npB; simp only [decide_eq_true_eq] at hd ⊢; omega
  have N := za (fun w h => zgj b s (by omega) k op k hk hnp w h);have E0 : Hid (yh (s.data.toList.drop k) = match y7 ((s.data.toList.drop k).take (nmL (s.data.toList.drop k))) with | none => none | some n => some (⟨3, 0, [], ofI n⟩, nmL (s.data.toList.drop k))) := by
   show _ = _
   rw [zO s k hk, yh]; unfold ci; rw [if_pos hd]; rfl
  have NR : Hid (zdp s k = match y7 ((s.data.toList.drop k).take (nmL (s.data.toList.drop k))) with | some v => some (.int .u64 (ofI v), k + nmL (s.data.toList.drop k)) | none => none) := rfl;generalize zdp s k = nr at *;generalize nmL (s.data.toList.drop k) = n at *;generalize y7 ((s.data.toList.drop k).take n) = q at *;generalize yh (s.data.toList.drop k) = tk at *;clear hd hnp
  go_enter Tryz.func91, Tryz.ntmps91
  go_wp2_with fail
  go_quiet (fail)
  rw [← HWA.out];go_wp2_with fail;refine (D.out _).mono ?_; rintro e w' ⟨rfl, rfl⟩;have HRb := za (HRa.out.drewN nq);have HOb := za (HOa.out.drewN nq);have HBb := za (HBa.out.drewN nq);have HCb := za (HCa.out.drewN nq);generalize wa.drewN nq = wb at *;go_wp2_with fail;refine (N.out _ HRb.out).mono ?_; rintro e w2 hG;rcases q with _ | v
  ·have hn : nr = none := NR.out;have ht : tk = none := E0.out;subst hn ht;have E := TR.out;have HE := za E;clear E;obtain ⟨rfl, hO2⟩ := hG;unfold flt;have HO2 := za (HOb.out.trans hO2);clear hO2;go_wp2_with fail;exact zf rfl (qv HE.out rfl HO2.out)
  ·have hn : nr = some (.int .u64 (ofI v), k + n) := NR.out;have ht : tk = some (⟨3, 0, [], ofI v⟩, n) := E0.out;subst hn ht;have HE : Hid (R = .ok (tkV ⟨3, 0, [], ofI v⟩ k, k + n, op)) := TR.out;obtain ⟨rfl, hR2, hO2⟩ := hG;have HR2 := za hR2;have HB2 := za (HBb.out.off hO2 (by omega));have HC2 := za (HCb.out.off hO2 (by omega));have HO2 := za (HOb.out.trans hO2);clear hR2 hO2;have b0 := HB2.out.c0;have b1 := HB2.out.c1;have b2 := HB2.out.c2;have b3 := HB2.out.c3;have d0 := HC2.out.c0;have d1 := HC2.out.c1;have d2 := HC2.out.c2;have d3 := HC2.out.c3;have fb := HB2.out.fz;have fd := HC2.out.fz;go_wp2_with fail;have hne : w.heap.size ≠ w.heap.size + 1 := by omega
   have hb1 : b ≠ w.heap.size + 1 := by omega
   have hb2 : b ≠ w.heap.size := by omega
   refine bodyPost_ret (uK ((((((HB2.out.far (p := ⟨w.heap.size + 1, 0, none⟩) hne _).far (p := ⟨w.heap.size + 1, 3, none⟩) hne _).s0 _).s1 _).s2 _).s3 _) _ rfl) rfl (xK HE.out rfl ?_ ?_)
   ·exact (((((HR2.out.far (p := ⟨w.heap.size + 1, 0, none⟩) hb1 _).far (p := ⟨w.heap.size + 1, 3, none⟩) hb1 _).far (p := ⟨w.heap.size, 0, none⟩) hb2 _).far (p := ⟨w.heap.size, 1, none⟩) hb2 _).far (p := ⟨w.heap.size, 2, none⟩) hb2 _).far (p := ⟨w.heap.size, 3, none⟩) hb2 _
   ·exact (((((HO2.out.newSet (p := ⟨w.heap.size + 1, 0, none⟩) (by simp) _).newSet (p := ⟨w.heap.size + 1, 3, none⟩) (by simp) _).newSet (p := ⟨w.heap.size, 0, none⟩) (by simp) _).newSet (p := ⟨w.heap.size, 1, none⟩) (by simp) _).newSet (p := ⟨w.heap.size, 2, none⟩) (by simp) _).newSet (p := ⟨w.heap.size, 3, none⟩) (by simp) _
end
def tkC (t : Tk) : List Value := [.int .i64 t.kind, .int .i64 t.pos, .string (bs t.text), .int .u64 t.bits]
def cellsOf (l : List Tk) : List Value := l.flatMap tkC
theorem zaA (l : List Tk) (t : Tk) : cellsOf (l ++ [t]) = cellsOf l ++ tkC t := by simp [cellsOf]
def pre (acc : List Tk) (x : Except (Int × Int) (List Tk)) : Except (Int × Int) (List Tk) := match x with | .error e => .error e | .ok l => .ok (acc ++ l)
theorem zly (x : Except (Int × Int) (List Tk)) : pre [] x = x := by cases x <;> rfl
theorem zjO (acc : List Tk) (t : Tk) (a : Int) (x : Except (Int × Int) (List Tk)) : pre acc (vN t a x) = pre (acc ++ [{ t with pos := a }]) x := by
 cases x with
 | error e => rfl
 | ok l => simp [pre, vN]
theorem zbq : ∀ (j : Nat) {q : UInt8} {R o : List UInt8} {m : Nat}, R.length ≤ j → txt q R = some (o, m) → 1 ≤ m ∧ m ≤ R.length
 | j, q, [], o, m, _, h => by rw [txt] at h; cases h
 | 0, q, c :: r, o, m, hj, h => by simp at hj
 | j + 1, q, c :: r, o, m, hj, h => by
  rw [txt] at h;split at h
  ·injection h with h; injection h with h1 h2; subst h2; simp
  ·cases ho : xZ (c :: r) with
   | none => rw [ho] at h; cases h
   | some x =>
    obtain ⟨o1, n⟩ := x;rw [ho] at h;simp only at h;have hn : 1 ≤ n ∧ n ≤ r.length + 1 := by
     unfold xZ at ho;simp only at ho;split at ho
     ·cases he : q7 r with
      | none => rw [he] at ho; cases ho
      | some y =>
       obtain ⟨o2, n2⟩ := y;rw [he] at ho;injection ho with ho; injection ho with _ ho;have := zaH he; omega
     ·split at ho
      ·cases ho
      ·injection ho with ho; injection ho with _ ho; omega
    cases ht : txt q (r.drop (n - 1)) with
    | none => rw [ht] at h; cases h
    | some y =>
     obtain ⟨o2, m2⟩ := y;rw [ht] at h;injection h with h; injection h with _ h;have := zbq j (by rw [List.length_drop]; simp at hj; omega) ht;rw [List.length_drop] at this;simp; omega
theorem zea {c : UInt8} {r : List UInt8} (h : npB (ci c) = true) : 1 ≤ nmL (c :: r) := by rw [nmL, if_pos h]; omega
theorem vH {R : List UInt8} {t : Tk} {n : Nat} (h : yh R = some (t, n)) : 1 ≤ n ∧ n ≤ R.length := by
 match R with
 | [] => cases h
 | c :: r =>
  unfold yh at h;simp only at h;split at h
  ·rename_i hd
   have hnp : npB (ci c) = true := by unfold digB at hd; unfold npB; simp only [decide_eq_true_eq] at hd ⊢; omega
   have := zea (r := r) hnp;have := uP (c :: r);split at h
   ·cases h
   ·injection h with h; injection h with _ h; omega
  ·split at h
   ·rename_i hnp
    have := zea (r := r) hnp;have := uP (c :: r);injection h with h; injection h with _ h; omega
   ·split at h
    ·split at h
     ·cases h
     ·rename_i hx
      injection h with h; injection h with _ h;have := zbq _ (zd _) hx;simp; omega
    ·split at h
     ·cases h
     ·have := zaM (c :: r) 4;injection h with h; injection h with _ h; omega
theorem zie {t : Tk} {op : Int} (h0 : 0 ≤ op) (h1 : op ≤ 240) (hd : yU t op = false) : 0 ≤ opA t op ∧ opA t op ≤ 240 := by
 unfold opA;unfold yU at hd;split
 ·rename_i h
  have : ¬ op = 240 := by
   intro e;simp only [Bool.and_eq_true] at h;rw [h.1, h.2, e] at hd; exact absurd hd (by decide)
  omega
 ·split <;> omega
theorem zlz {s : ByteArray} {p : Nat} {op : Int} (h : p < s.size) : xe (s.data.toList.drop p) p op = match yh (s.data.toList.drop p) with
  | none => .error ((p : Int), 5)
  | some (t, n) => if yU t op then .error ((p : Int), 6) else vN t p (xq (s.data.toList.drop (p + n)) ((p + n : Nat) : Int) (opA t op)) := by
 have e := zO s p h;rw [e, q8];cases ht : yh (s[p] :: s.data.toList.drop (p + 1)) with
 | none => rfl
 | some x =>
  obtain ⟨t, n⟩ := x;have := vH ht;simp only;rw [List.drop_drop, show p + 1 + (n - 1) = p + n by omega, Int.natCast_add]
theorem zjP {s : ByteArray} {p : Nat} {op a : Int} (h : s.size ≤ p) : xe (s.data.toList.drop p) a op = .ok [] := by rw [qo s p h, xe]
theorem zeb {s : ByteArray} {p m : Nat} {op : Int} (h : gap (s.data.toList.drop p) = (m, false)) : xq (s.data.toList.drop p) p op = .error (((p + m : Nat) : Int), 5) := by
 unfold xq; rw [h]; simp
theorem zfG {s : ByteArray} {p m : Nat} {op : Int} (h : gap (s.data.toList.drop p) = (m, true)) : xq (s.data.toList.drop p) p op = xe (s.data.toList.drop (p + m)) ((p + m : Nat) : Int) op := by
 unfold xq; rw [h]; simp [List.drop_drop]
theorem ut : ∀ (j : Nat) (R : List UInt8), R.length ≤ j → (gap R).1 ≤ R.length
 | j, [], _ => by rw [gap]; simp
 | 0, c :: r, h => by simp at h
 | j + 1, c :: r, h => by
  rw [gap];split
  ·have := ut j r (by simp at h; omega); simp; omega
  ·split
   ·simp
   ·simp
   ·rename_i n hr
    have h1 := ziB hr;have := ut j (r.drop n) (by rw [List.length_drop]; simp at h; omega);rw [List.length_drop] at this;simp at h1 ⊢; omega
theorem zkD : (Tryz.prog.info? 60).map (fun i => (i.zero, i.size, i.bytes)) = some (some (.agg #[.int .i64 0, .int .i64 0, .string ⟨#[]⟩, .int .u64 0]), 4, 40) := by kernel_rfl
def zjQ (b : Nat) (B : Nat) (w : World) (x : Except (Int × Int) (List Tk)) (e : Ending) (w' : World) : Prop := match x with
 | .error (a, c) => e = flt a c ∧ Off b w w'
 | .ok l => ∃ v, e = .returned v ∧ w'.ownsRow B 60 4 v l.length (cellsOf l) ∧ Off b w w'
theorem ML.below {b B : Nat} {w w' : World} (h : ML b w) (hb : Below B w w') (hB : b ≤ B) : ML b w' := by
 obtain ⟨h1, m, h2⟩ := h;exact ⟨h1, m, (hb.cell (p := ⟨2, 0, none⟩) (by show 2 < _; omega)).trans h2⟩
theorem zci {b B : Nat} {w w' : World} {e : TypeId} {size n : Nat} {v : Value} {xs : List Value} (h : w.ownsRow B e size v n xs) (o : Off b w w') (hb : b < B) : w'.ownsRow B e size v n xs := by
 refine h.kept (row := some b) ⟨o.os, o.tape, o.output, o.size, fun k hk hr2 => o.block k hk (fun e => hr2 (by rw [e]))⟩ (.inr ?_);intro e2;rcases h.2 with ⟨rfl, _⟩ | ⟨g, cap, cur, rfl, hg, _⟩
 ·simp [Value.ownBlock] at e2
 ·simp only [Value.ownBlock, Option.some.injEq] at e2; omega
theorem zgE (b : Nat) (s : ByteArray) (hs : s.size ≤ 100000) (beg op : Int) (h0 : 0 ≤ op) (h1 : op ≤ 240) (k : Nat) (hk : k ≤ s.size) (w : World) (h : Rd w b s beg k op) (hm : ML b w) :
  Calls Tryz.prog 58 #[.pointer (some ⟨b, 0, none⟩)] w (zjQ b w.heap.size w (xq (s.data.toList.drop k) k op)) := by
 obtain ⟨i0, hi, hz0, hz1, hz2⟩ := info_parts zkD;have HII := za hi;have HZ0 := za hz0;have HZ1 := za hz1;have HZ2 := za hz2;clear hi hz0 hz1 hz2;have H := za h;have HM := za hm;have hbl := h.lt;clear h hm;have SK := za (fun w h hm => zeE b s hs beg op k hk w h hm);have LB := za (fun m => @zeb s k m op);have LO := za (fun m => @zfG s k m op);have GL := za (ut _ (s.data.toList.drop k) (zd _));generalize xq (s.data.toList.drop k) k op = G at *;generalize hgg : gap (s.data.toList.drop k) = g at *;clear hgg;obtain ⟨m, f⟩ := g;cases f
 ·have E := za (LB.out m rfl)
  go_enter Tryz.func58, Tryz.ntmps58
  go_wp2_with fail;refine (SK.out _ H.out HM.out).mono ?_; rintro e w1 ⟨rfl, hO1⟩;unfold flt;have HO1 := za hO1;clear hO1;go_wp2_with fail;exact zf rfl (by rw [E.out]; exact ⟨rfl, HO1.out⟩)
 ·have E := za (LO.out m rfl);have hm1 := GL.out;rw [List.length_drop, zL] at hm1;have hm2 : k + m ≤ s.size := by simp at hm1; omega
  clear hm1
  go_enter Tryz.func58, Tryz.ntmps58
  go_wp2_with fail;refine (SK.out _ H.out HM.out).mono ?_; rintro e w1 ⟨rfl, hR1, hO1⟩;have HR1 := za hR1;have HO1 := za hO1;have HM1 := za (HM.out.off hbl hO1);clear hR1 hO1;go_wp2_with fail
  go_loopg [3] (s.size - (k + m)) (fun g vv wr => ∃ (p : Nat) (bg o : Int) (acc : List Tk), g = s.size - p ∧ p ≤ s.size ∧ 0 ≤ o ∧ o ≤ 240 ∧ acc.length ≤ p ∧ Hid (wr.ownsRow w.heap.size 60 4 vv acc.length (cellsOf acc)) ∧ Hid (Rd wr b s bg p o) ∧ Hid (ML b wr) ∧ Hid (Off b w wr) ∧ Hid (G = pre acc (xe (s.data.toList.drop p) p o)))
  case atStart => exact ⟨k + m, beg, op, [], rfl, hm2, h0, h1, Nat.zero_le _, World.ownsRow_nil _ _ _ _, HR1.out, HM1.out, HO1.out, by show _ = _; rw [zly]; exact E.out⟩
  case round =>
   obtain ⟨p, bg, o, acc, rfl, hps, ho0, ho1, hacc, HW, HR, HM2, HO, HG⟩ := hrel;have c0 := HR.out.c0;have c2 := HR.out.c2;by_cases hlt : p < s.size
   ·have T := za (fun w h => zid b s hs bg o ho0 ho1 p hlt w h);have TR : Hid (zd9 s p o = match yh (s.data.toList.drop p) with | none => .error 5 | some (t, n) => if yU t o then .error 6 else .ok (tkV t p, p + n, opA t o)) := rfl;have LA := za (@zlz s p o hlt);have TS := za (fun t n => @vH (s.data.toList.drop p) t n);generalize zd9 s p o = tr at *;generalize xe (s.data.toList.drop p) p o = LX at *;generalize yh (s.data.toList.drop p) = tk at *;rcases tk with _ | ⟨t, n⟩
    ·have ht : tr = .error 5 := TR.out;have hx : LX = .error ((p : Int), 5) := LA.out;subst ht hx;have EE : Hid (G = .error ((p : Int), 5)) := HG.out;go_wp2_with fail
     go_quiet (fail)
     go_wp2_with fail;refine (T.out _ (HR.out.drewN _)).mono ?_; rintro e w2 ⟨rfl, hO2⟩;unfold flt;have HO2 := za ((HO.out.drewN _).trans hO2);clear hO2;go_wp2_with fail;exact zf rfl (by rw [EE.out]; exact ⟨rfl, HO2.out⟩)
    ·have hts := TS.out t n rfl;rw [List.length_drop, zL] at hts;obtain ⟨hn1, hn2⟩ := hts;cases hd : yU t o
     ·have ht : tr = .ok (tkV t p, p + n, opA t o) := by have := TR.out; simp only [hd] at this; exact this
      have hx : LX = vN t p (xq (s.data.toList.drop (p + n)) ((p + n : Nat) : Int) (opA t o)) := by have := LA.out; simp only [hd] at this; exact this
      have hor := zie ho0 ho1 hd;have EE : Hid (G = pre (acc ++ [{ t with pos := p }]) (xq (s.data.toList.drop (p + n)) ((p + n : Nat) : Int) (opA t o))) := by
       show _ = _; rw [HG.out, hx, zjO]
      subst ht hx;clear hd;obtain ⟨hor0, hor1⟩ := hor;generalize opA t o = o2 at *;have SK2 := za (fun w h hm => zeE b s hs p o2 (p + n) (by omega) w h hm);have LB2 := za (fun m => @zeb s (p + n) m o2);have LO2 := za (fun m => @zfG s (p + n) m o2);have GL2 := za (ut _ (s.data.toList.drop (p + n)) (zd _));generalize xq (s.data.toList.drop (p + n)) ((p + n : Nat) : Int) o2 = G2 at *;generalize hgg : gap (s.data.toList.drop (p + n)) = g2 at *;clear hgg;have HCN : Hid (cellsOf (acc ++ [{ t with pos := (p : Int) }]) = cellsOf acc ++ [.int .i64 t.kind, .int .i64 (p : Int), .string (bs t.text), .int .u64 t.bits]) := zaA _ _;have HLN : Hid ((acc ++ [{ t with pos := (p : Int) }]).length = acc.length + 1) := by show _ = _; simp
      generalize acc ++ [{ t with pos := (p : Int) }] = acc2 at *;unfold tkV at T;go_wp2_with fail
      go_quiet (fail)
      go_wp2_with fail;refine (T.out _ (HR.out.drewN _)).mono ?_; rintro e w2 ⟨rfl, hR2, hO2⟩;have HR2 := za hR2;have HM3 := za (HM2.out.off HR.out.lt ((Off.refl b _).drewN nq |>.trans hO2));have hown := zci (zci HW.out ((Off.refl b _).drewN nq)  hbl) hO2 hbl;have HO2 := za ((HO.out.drewN _).trans hO2);have hsz := HO2.out.size;clear hR2 hO2;generalize hcl : cellsOf acc = xs at *;generalize hal : acc.length = len at *;have hi := HII.out;have hz0 := HZ0.out;have hz1 := HZ1.out;have hz2 := HZ2.out;go_wp2_with (at_builtin; refine wpList_append_own _ rfl _ _ 54 rfl w.heap.size 60 i0 _ 4 40 Tryz.underlying54 hi hz0 hz1 hz2 rfl (by decide) _ _ _ rfl (hown.alloc _) ⟨w2.heap.size, 0, none⟩ 1 1 [.int .i64 t.kind, .int .i64 (p : Int), .string (bs t.text), .int .u64 t.bits] rfl rfl ?c1 ?c2 ?c3 ?c4 ?c5 ?_)
      case c1 =>
       intro j u hj
       match j, hj with
       | 0, hj => simp at hj; subst hj; simp [Addr.add]
       | 1, hj => simp at hj; subst hj; simp [Addr.add]
       | 2, hj => simp at hj; subst hj; simp [Addr.add]
       | 3, hj => simp at hj; subst hj; simp [Addr.add]
      case c2 => intro u hu; simp at hu; rcases hu with rfl | rfl | rfl | rfl <;> rfl
      case c3 => unfold maxLen; omega
      case c4 => omega
      case c5 => simp; omega
      intro v' w3 hown' hgrow _;have hbel : Below w.heap.size w2 w3 := ((ze _ w2).alloc hsz _).grown hgrow (by simp; omega) (fun k hk => (hown.lt k hk).1);have HR3 := za (HR2.out.below hbel hbl);have HM4 := za (HM3.out.below hbel (by omega));have HO3 := za (HO2.out.belowAt hbel);rw [← HLN.out, ← HCN.out] at hown';have HW3 := za hown';clear hown' hgrow hbel hown hi hz0 hz1 hz2;obtain ⟨m2, f2⟩ := g2;have hm3 := GL2.out;rw [List.length_drop, zL] at hm3;have hm4 : p + n + m2 ≤ s.size := by simp at hm3; omega
      clear hm3;cases f2
      ·have hG2 := LB2.out m2 rfl;subst hG2;have EE2 : Hid (G = .error (((p + n + m2 : Nat) : Int), 5)) := EE.out;go_wp2_with fail;refine (SK2.out _ HR3.out HM4.out).mono ?_; rintro e w4 ⟨rfl, hO4⟩;unfold flt;have HO4 := za (HO3.out.trans hO4);clear hO4;go_wp2_with fail;exact zf rfl (by rw [EE2.out]; exact ⟨rfl, HO4.out⟩)
      ·have hG2 := LO2.out m2 rfl;subst hG2;go_wp2_with fail;refine (SK2.out _ HR3.out HM4.out).mono ?_; rintro e w4 ⟨rfl, hR4, hO4⟩;have HR4 := za hR4;have HM5 := za (HM4.out.off HR3.out.lt hO4);have HW4 := za (zci HW3.out hO4 hbl);have HO4 := za (HO3.out.trans hO4);clear hR4 hO4;go_wp2_with fail
       go_roundg (s.size - (p + n + m2))
       case measure => omega
       case rel =>
        have hl2 := HLN.out;exact ⟨p + n + m2, p, o2, acc2, rfl, hm4, hor0, hor1, by omega, HW4.out, HR4.out, HM5.out, HO4.out, EE.out⟩
     ·have ht : tr = .error 6 := by have := TR.out; simp only [hd] at this; exact this
      have hx : LX = .error ((p : Int), 6) := by have := LA.out; simp only [hd] at this; exact this
      subst ht hx;clear hd;have EE : Hid (G = .error ((p : Int), 6)) := HG.out;go_wp2_with fail
      go_quiet (fail)
      go_wp2_with fail;refine (T.out _ (HR.out.drewN _)).mono ?_; rintro e w2 ⟨rfl, hO2⟩;unfold flt;have HO2 := za ((HO.out.drewN _).trans hO2);clear hO2;go_wp2_with fail;exact zf rfl (by rw [EE.out]; exact ⟨rfl, HO2.out⟩)
   ·have EE : Hid (G = .ok acc) := by
     show _ = _
     rw [HG.out, zjP (by omega)]; simp [pre]
    go_wp2_with fail
    go_quiet (fail)
    go_wp2_with fail;go_ret;rw [EE.out];exact ⟨_, rfl, HW.out, HO.out.drewN _⟩
section
theorem zgF (pl pa pe : Nat) (w : World) :
  CallsD Tryz.prog 57 #[.pointer (some ⟨pl, 0, none⟩), .pointer (some ⟨pa, 0, none⟩), .pointer (some ⟨pe, 0, none⟩)] .returning w fun e u' w' =>
   e = .returned (.tuple #[]) ∧ u' = .returning ∧ w' = w := by
 refine callsD_of_wpS Tryz.func57 rfl fun c₀ cs hu => ?_
 rw [show ((#[.pointer (some ⟨pl, 0, none⟩), .pointer (some ⟨pa, 0, none⟩), .pointer (some ⟨pe, 0, none⟩)] : Array Value) ++ Array.replicate (Tryz.f57.ntmps - (#[.pointer (some ⟨pl, 0, none⟩), .pointer (some ⟨pa, 0, none⟩), .pointer (some ⟨pe, 0, none⟩)] : Array Value).size) undef) = #[.pointer (some ⟨pl, 0, none⟩), .pointer (some ⟨pa, 0, none⟩), .pointer (some ⟨pe, 0, none⟩), undef, undef, undef, undef, undef, undef, undef, undef, undef, undef, undef, undef, undef] from rfl];apply wpS_seq;apply wpS_region;simp [wpOpsS, go_sem, recoverD, hu, Exit.thenS];have hq : ∀ w, (binOp .eql 20 .nilIface .nilIface).run Tryz.prog w = .ok (.bool true) w := fun _ => rfl
 refine wpS_of_wp ?_;go_wp2_with fail;refine ⟨rfl, .returning, ?_, _, results_none rfl _ _ _, rfl, rfl, rfl⟩;rw [← hu]
def B1 (w : World) (g : Nat) (T : TypeId) (x : Value) : Prop := w.heap[g]? = some (.cells #[x] T (0, 0))
section
variable {w w' : World} {g : Nat} {T : TypeId} {x : Value}
theorem B1.lt (h : B1 w g T x) : g < w.heap.size := by
 rcases Nat.lt_or_ge g w.heap.size with hlt | hge
 ·exact hlt
 ·unfold B1 at h; rw [Array.getElem?_eq_none hge] at h; cases h
theorem B1.c (h : B1 w g T x) : w.cell? ⟨g, 0, none⟩ = some x := by unfold B1 at h; simp [World.cell?, h]
theorem B1.fz (h : B1 w g T x) : w.frozen? ⟨g, 0, none⟩ = false := by unfold B1 at h; simp [World.frozen?, h]
theorem B1.s (h : B1 w g T x) (u : Value) : B1 (w.setCell ⟨g, 0, none⟩ u) g T u := by unfold B1 at h ⊢; simp [World.setCell, Array.getElem?_modify, h]
theorem B1.far (h : B1 w g T x) {p : Addr} (hp : g ≠ p.block) (u : Value) : B1 (w.setCell p u) g T x := (Below.heap_setCell w p u g hp).trans h
theorem B1.alloc (h : B1 w g T x) (o : Obj) : B1 (w.alloc o) g T x := (Below.heap_alloc w o g h.lt).trans h
theorem B1.drew (h : B1 w g T x) : B1 w.drew g T x := h
theorem B1.off {b : Nat} (h : B1 w g T x) (o : Off b w w') (hg : g ≠ b) : B1 w' g T x := (o.block g h.lt hg).trans h
theorem B1.below {B : Nat} (h : B1 w g T x) (hb : Below B w w') (hg : g < B) : B1 w' g T x := (hb.block g hg).trans h
theorem B1.new (w : World) (T : TypeId) (x : Value) : B1 (w.alloc (.cells #[x] T)) w.heap.size T x := heap_alloc_new w _
end
theorem ze4 (N : Nat) (x0 x1 x2 : Value) (a c : Int) (w : World) (h0 : B1 w N 54 x0) (h1 : B1 w (N + 1) 3 x1) (h2 : B1 w (N + 2) 24 x2) :
  CallsD Tryz.prog 57 #[.pointer (some ⟨N, 0, none⟩), .pointer (some ⟨N + 1, 0, none⟩), .pointer (some ⟨N + 2, 0, none⟩)] (.panicking [{ v := .iface 92 (.agg #[.int .i64 a, .int .i64 c]), recovered := false }]) w fun e u' w' =>
   e = .returned (.tuple #[]) ∧ u' = .panicking [{ v := .iface 92 (.agg #[.int .i64 a, .int .i64 c]), recovered := true }] ∧
    B1 w' N 54 (.slice none 0 0) ∧ B1 w' (N + 1) 3 (.int .i64 a) ∧ B1 w' (N + 2) 24 (.int .i64 c) ∧ Below N w w' := by
 have H0 := za h0;have H1 := za h1;have H2 := za h2;have hlt := h2.lt;clear h0 h1 h2;refine callsD_of_wpS Tryz.func57 rfl fun c₀ cs hu => ?_
 rw [show ((#[.pointer (some ⟨N, 0, none⟩), .pointer (some ⟨N + 1, 0, none⟩), .pointer (some ⟨N + 2, 0, none⟩)] : Array Value) ++ Array.replicate (Tryz.f57.ntmps - (#[.pointer (some ⟨N, 0, none⟩), .pointer (some ⟨N + 1, 0, none⟩), .pointer (some ⟨N + 2, 0, none⟩)] : Array Value).size) undef) = #[.pointer (some ⟨N, 0, none⟩), .pointer (some ⟨N + 1, 0, none⟩), .pointer (some ⟨N + 2, 0, none⟩), undef, undef, undef, undef, undef, undef, undef, undef, undef, undef, undef, undef, undef] from rfl];apply wpS_seq;apply wpS_region;simp [wpOpsS, go_sem, recoverD, hu, Exit.thenS];have hq : ∀ w, (binOp .eql 20 (.iface 92 (.agg #[.int .i64 a, .int .i64 c])) .nilIface).run Tryz.prog w = .ok (.bool false) w := fun _ => rfl
 have hta : ∀ w, (Instr.typeAssert (.iface 92 (.agg #[.int .i64 a, .int .i64 c])) 20 92 true).run Tryz.prog w = .ok (.tuple #[.agg #[.int .i64 a, .int .i64 c], .bool true]) w := fun _ => by kernel_rfl
 clear hu;refine wpS_of_wp ?_;go_wp2_with fail;obtain ⟨wq, hwq⟩ : ∃ wq, wq = (w.alloc (.cells #[.int .i64 a, .int .i64 c] 92)) := ⟨_, rfl⟩;rw [← hwq];have Q0 := za (hwq ▸ (H0.out.alloc _));have Q1 := za (hwq ▸ (H1.out.alloc _));have Q2 := za (hwq ▸ (H2.out.alloc _));have QB : Hid (Below N w wq) := hwq ▸ ((ze N w).alloc (by omega) _);have g0 : wq.cell? ⟨w.heap.size, 0, none⟩ = some (.int .i64 a) := by rw [hwq]; simp [go_sem]
 have g1 : wq.cell? ⟨w.heap.size, 1, none⟩ = some (.int .i64 c) := by rw [hwq]; simp [go_sem]
 clear hwq hq hta;have a0 := Q0.out.c;have a1 := Q1.out.c;have a2 := Q2.out.c;have z0 := Q0.out.fz;have z1 := Q1.out.fz;have z2 := Q2.out.fz;have n0 : ¬ w.heap.size = N := by omega
 have n1 : ¬ w.heap.size = N + 1 := by omega
 have n2 : ¬ w.heap.size = N + 2 := by omega
 go_region
 have e01 : N ≠ N + 1 := by omega
 have e02 : N ≠ N + 2 := by omega
 have e12 : N + 1 ≠ N + 2 := by omega
 refine ⟨rfl, _, rfl, _, results_none rfl _ _ _, rfl, rfl, ?_, ?_, ?_, ?_⟩
 ·exact (((Q0.out.s _).far (p := ⟨N + 1, 0, none⟩) e01 _).far (p := ⟨N + 2, 0, none⟩) e02 _).drew
 ·exact (((Q1.out.far (p := ⟨N, 0, none⟩) e01.symm _).s _).far (p := ⟨N + 2, 0, none⟩) e12 _).drew
 ·exact (((Q2.out.far (p := ⟨N, 0, none⟩) e02.symm _).far (p := ⟨N + 1, 0, none⟩) e12.symm _).s _).drew
 ·exact (((QB.out.setCell (p := ⟨N, 0, none⟩) (zd _) _).setCell (p := ⟨N + 1, 0, none⟩) (by simp) _).setCell (p := ⟨N + 2, 0, none⟩) (by simp) _).drew
theorem yb {w : World} {B : Nat} {e : TypeId} {size n : Nat} {v : Value} {xs : List Value} (h : w.ownsRow B e size v n xs) : ∃ ao c, v = .slice ao n c := by
 rcases h.2 with ⟨rfl, rfl⟩ | ⟨g, cap, cur, rfl, _⟩ <;> exact ⟨_, _, rfl⟩
theorem qP {w : World} {B B' : Nat} {e : TypeId} {size n : Nat} {v : Value} {xs : List Value} (h : w.ownsRow B e size v n xs) (hB : B' ≤ B) : w.ownsRow B' e size v n xs := by
 refine ⟨h.1, ?_⟩;rcases h.2 with h2 | ⟨g, cap, cur, hv, hg, hh⟩
 ·exact .inl h2
 ·exact .inr ⟨g, cap, cur, hv, by omega, hh⟩
theorem xJ {w : World} {B : Nat} {e : TypeId} {size n : Nat} {v : Value} {xs : List Value} (h : w.ownsRow B e size v n xs) {p : Addr} (hp : p.block < B) (u : Value) : (w.setCell p u).ownsRow B e size v n xs := ownsRow_setCell_below h hp u
def ub (w : World) (x : Except (Int × Int) (List Tk)) (e : Ending) (w' : World) : Prop := match x with
 | .error (a, c) => e = .returned (.tuple #[.slice none 0 0, .int .i64 a, .int .i64 c]) ∧ Below w.heap.size w w'
 | .ok l => ∃ v, e = .returned (.tuple #[v, .int .i64 0, .int .i64 0]) ∧ w'.ownsRow w.heap.size 60 4 v l.length (cellsOf l) ∧ Below w.heap.size w w'
theorem zec {w w' : World} {x : Except (Int × Int) (List Tk)} {a c : Int} {e : Ending} (h : x = .error (a, c)) (he : e = .returned (.tuple #[.slice none 0 0, .int .i64 a, .int .i64 c])) (hb : Below w.heap.size w w') : ub w x e w' := by subst h; exact ⟨he, hb⟩
theorem zpQ {w w' : World} {x : Except (Int × Int) (List Tk)} {l : List Tk} {v : Value} {e : Ending} (h : x = .ok l) (he : e = .returned (.tuple #[v, .int .i64 0, .int .i64 0])) (ho : w'.ownsRow w.heap.size 60 4 v l.length (cellsOf l)) (hb : Below w.heap.size w w') : ub w x e w' := by subst h; exact ⟨v, he, ho, hb⟩
theorem zaa {wf : World} {N : Nat} {v0 v1 v2 : Value} (h0 : B1 wf N 54 v0) (h1 : B1 wf (N + 1) 3 v1) (h2 : B1 wf (N + 2) 24 v2) (tmps : Array Value) (t0 : tmps[2]?.getD undef = .pointer (some ⟨N, 0, none⟩)) (t1 : tmps[3]?.getD undef = .pointer (some ⟨N + 1, 0, none⟩)) (t2 : tmps[4]?.getD undef = .pointer (some ⟨N + 2, 0, none⟩)) :
  (results Tryz.f31 tmps).run Tryz.prog wf = .ok (.tuple #[v0, v1, v2]) wf := by
 have e0 := h0.c;have e1 := h1.c;have e2 := h2.c;simp [results, Tryz.results31, go_sem, t0, t1, t2, e0, e1, e2]
theorem vR (w : World) (x0 x1 x2 : Value) :
  B1 (((w.alloc (.cells #[x0] 54)).alloc (.cells #[x1] 3)).alloc (.cells #[x2] 24)) w.heap.size 54 x0 ∧
  B1 (((w.alloc (.cells #[x0] 54)).alloc (.cells #[x1] 3)).alloc (.cells #[x2] 24)) (w.heap.size + 1) 3 x1 ∧
  B1 (((w.alloc (.cells #[x0] 54)).alloc (.cells #[x1] 3)).alloc (.cells #[x2] 24)) (w.heap.size + 2) 24 x2 ∧
  Below w.heap.size w (((w.alloc (.cells #[x0] 54)).alloc (.cells #[x1] 3)).alloc (.cells #[x2] 24)) := by
 refine ⟨((B1.new w _ x0).alloc _).alloc _, ?_, ?_, (((ze _ w).alloc (zd _) _).alloc (by simp) _).alloc (by simp; omega) _⟩
 ·have := (B1.new (w.alloc (.cells #[x0] 54)) 3 x1).alloc (.cells #[x2] 24)
  simpa using this
 ·have := B1.new ((w.alloc (.cells #[x0] 54)).alloc (.cells #[x1] 3)) 24 x2
  simpa using this
theorem ze5 (s : ByteArray) (hs : s.size ≤ 100000) (hl : 4096 < s.size) (w : World) :
  Calls Tryz.prog 31 #[.string s] w (ub w (yQ s.data.toList)) := by
 have E : Hid (yQ s.data.toList = .error (0, 3)) := by show _ = _; unfold yQ; rw [zL, if_pos hl]
 generalize yQ s.data.toList = G at *
 go_enter_defers Tryz.func31, Tryz.ntmps31
 go_wp2_with fail;obtain ⟨t0, t1, t2, tb⟩ := vR w (.slice none 0 0) (.int .i64 0) (.int .i64 3);exact ⟨_, zaa t0 t1 t2 _ rfl rfl rfl, zec E.out rfl tb⟩
theorem ze6 (s : ByteArray) (hs : s.size ≤ 4096) (k : Nat) (hk : chk s.data.toList 0 = some k) (w : World) :
  Calls Tryz.prog 31 #[.string s] w (ub w (yQ s.data.toList)) := by
 have E : Hid (yQ s.data.toList = .error ((k : Int), 4)) := by show _ = _; unfold yQ; rw [zL, if_neg (by omega), hk]
 have C := za (fun w => jc s (by omega) w);rw [show za7 s.data.toList = (k : Int) by unfold za7; rw [hk], show jM s.data.toList = 4 by unfold jM; rw [hk]] at C;generalize yQ s.data.toList = G at *;clear hk;have hlt : ¬ (4096 : Int) < (s.size : Int) := by omega
 go_enter_defers Tryz.func31, Tryz.ntmps31
 go_wp2_with fail;refine (C.out _).mono ?_; rintro e w' ⟨rfl, rfl⟩;go_wp2_with fail;obtain ⟨t0, t1, t2, tb⟩ := vR w (.slice none 0 0) (.int .i64 (k : Int)) (.int .i64 4);exact ⟨_, zaa t0 t1 t2 _ rfl rfl rfl, zec E.out rfl tb⟩
theorem ze7 (s : ByteArray) (hs : s.size ≤ 4096) (hk : chk s.data.toList 0 = none) (w : World) (hm : ∃ m, w.cell? ⟨2, 0, none⟩ = some (.int .i64 m)) (hG : 2 < w.heap.size) :
    Calls Tryz.prog 31 #[.string s] w (ub w (yQ s.data.toList)) := by
  have E : Hid (yQ s.data.toList = xq s.data.toList 0 0) := by show _ = _; unfold yQ; rw [zL, if_neg (by omega), hk]
  have C := za (fun w => jc s (by omega) w);rw [show za7 s.data.toList = 0 by unfold za7; rw [hk], show jM s.data.toList = 0 by unfold jM; rw [hk]] at C;generalize yQ s.data.toList = G at *;clear hk;have hlt : ¬ (4096 : Int) < (s.size : Int) := by omega
  have hmf : ∀ (fn : Fn) (first cap : Array Value) (w : World), (Instr.makeFunc fn first cap).run Tryz.prog w = .ok (.func fn first cap) w := fun _ _ _ _ => rfl
  go_enter_defers Tryz.func31, Tryz.ntmps31
  go_wp2_with fail;refine (C.out _).mono ?_; rintro e w' ⟨rfl, rfl⟩;go_wp2_with fail;obtain ⟨t0, t1, t2, tb⟩ := vR w (.slice none 0 0) (.int .i64 0) (.int .i64 0);have hz : (((w.alloc (.cells #[.slice none 0 0] 54)).alloc (.cells #[.int .i64 0] 3)).alloc (.cells #[.int .i64 0] 24)).heap.size = w.heap.size + 1 + 1 + 1 := by simp
  generalize ((w.alloc (.cells #[.slice none 0 0] 54)).alloc (.cells #[.int .i64 0] 3)).alloc (.cells #[.int .i64 0] 24) = w3 at *;have HRd : Hid (Rd (w3.alloc (.cells #[.string s, .int .i64 0, .int .i64 0, .int .i64 0] 94)) (w.heap.size + 1 + 1 + 1) s 0 (0 : Nat) 0) := by
    show Rd _ _ _ _ _ _
    rw [← hz]; exact heap_alloc_new w3 _
  have hb4 : Below w.heap.size w (w3.alloc (.cells #[.string s, .int .i64 0, .int .i64 0, .int .i64 0] 94)) := tb.alloc (by rw [hz]; omega) _;have HML : Hid (ML (w.heap.size + 1 + 1 + 1) (w3.alloc (.cells #[.string s, .int .i64 0, .int .i64 0, .int .i64 0] 94))) := by
    obtain ⟨m, hm⟩ := hm;exact ⟨by omega, m, (hb4.cell (p := ⟨2, 0, none⟩) hG).trans hm⟩
  have s0 := t0.alloc (.cells #[.string s, .int .i64 0, .int .i64 0, .int .i64 0] 94);have s1 := t1.alloc (.cells #[.string s, .int .i64 0, .int .i64 0, .int .i64 0] 94);have s2 := t2.alloc (.cells #[.string s, .int .i64 0, .int .i64 0, .int .i64 0] 94);have hz4 : w.heap.size ≤ (w3.alloc (.cells #[.string s, .int .i64 0, .int .i64 0, .int .i64 0] 94)).heap.size := by simp; omega
  have T := zgE (w.heap.size + 1 + 1 + 1) s (by omega) 0 0 (by decide) (by decide) 0 (Nat.zero_le _) _ HRd.out HML.out;rw [List.drop_zero] at T;have HT := za T;have S0 := za s0;have S1 := za s1;have S2 := za s2;have HB4 := za hb4;have HZ4 := za hz4;clear T t0 t1 t2 tb hm hz s0 s1 s2 hb4 hz4;generalize w3.alloc (.cells #[.string s, .int .i64 0, .int .i64 0, .int .i64 0] 94) = w4 at *;rw [show ((0 : Nat) : Int) = 0 from rfl] at HT;generalize xq s.data.toList 0 0 = X at *;refine HT.out.mono ?_; rintro e w5 hp;rcases X with ⟨a, c⟩ | l
  · obtain ⟨rfl, hO⟩ := hp;have p0 := S0.out.off hO (by omega);have p1 := S1.out.off hO (by omega);have p2 := S2.out.off hO (by omega);have P0 := za p0;have P1 := za p1;have P2 := za p2;have HO := za hO;clear p0 p1 p2 hO;unfold flt;go_wp2_with fail;refine leaves_cons (f := 57) (args := #[.pointer (some ⟨w.heap.size, 0, none⟩), .pointer (some ⟨w.heap.size + 1, 0, none⟩), .pointer (some ⟨w.heap.size + 2, 0, none⟩)]) (by simp) (by simp [go_sem]) ?_;refine (ze4 w.heap.size _ _ _ a c _ P0.out P1.out P2.out).mono ?_;rintro e u' w'' ⟨rfl, rfl, q0, q1, q2, qb⟩;exact ⟨_, zaa q0 q1 q2 _ rfl rfl rfl, zec E.out rfl ((HB4.out.trans (HO.out.toBelow (by omega) HZ4.out)).trans qb)⟩
  · obtain ⟨v, rfl, hw, hO⟩ := hp;obtain ⟨ao, cp, rfl⟩ := yb hw;have p0 := S0.out.off hO (by omega);have p1 := S1.out.off hO (by omega);have p2 := S2.out.off hO (by omega);have P0 := za p0;have P1 := za p1;have P2 := za p2;have HO := za hO;have HW := za hw;have a0 := p0.c;have a1 := p1.c;have a2 := p2.c;have z0 := p0.fz;have z1 := p1.fz;have z2 := p2.fz;clear p0 p1 p2 hO hw;have a2' : w5.cell? ⟨w.heap.size + 1 + 1, 0, none⟩ = _ := a2;have z2' : w5.frozen? ⟨w.heap.size + 1 + 1, 0, none⟩ = _ := z2;go_wp2_with fail;have hrl := HRd.out.lt;have e01 : w.heap.size ≠ w.heap.size + 1 := by omega
    have e02 : w.heap.size ≠ w.heap.size + 2 := by omega
    have e12 : w.heap.size + 1 ≠ w.heap.size + 2 := by omega
    refine leaves_cons (f := 57) (args := #[.pointer (some ⟨w.heap.size, 0, none⟩), .pointer (some ⟨w.heap.size + 1, 0, none⟩), .pointer (some ⟨w.heap.size + 2, 0, none⟩)]) (by simp) (by simp [go_sem]) ?_;refine (zgF _ _ _ _).mono ?_;rintro e u' w'' ⟨rfl, rfl, rfl⟩;exact ⟨_, zaa (((P0.out.s _).far (p := ⟨w.heap.size + 1, 0, none⟩) e01 _).far (p := ⟨w.heap.size + 2, 0, none⟩) e02 _) (((P1.out.far (p := ⟨w.heap.size, 0, none⟩) e01.symm _).s _).far (p := ⟨w.heap.size + 2, 0, none⟩) e12 _) (((P2.out.far (p := ⟨w.heap.size, 0, none⟩) e02.symm _).far (p := ⟨w.heap.size + 1, 0, none⟩) e12.symm _).s _) _ rfl rfl rfl,
      zpQ E.out rfl (qP (xJ (xJ (xJ HW.out (p := ⟨w.heap.size, 0, none⟩) (by simp; omega) _) (p := ⟨w.heap.size + 1, 0, none⟩) (by simp; omega) _) (p := ⟨w.heap.size + 2, 0, none⟩) (by simp; omega) _) HZ4.out)
        ((((HB4.out.trans (HO.out.toBelow (by omega) HZ4.out)).setCell (p := ⟨w.heap.size, 0, none⟩) (zd _) _).setCell (p := ⟨w.heap.size + 1, 0, none⟩) (by simp) _).setCell (p := ⟨w.heap.size + 2, 0, none⟩) (by simp) _)⟩
def MLw (w : World) : Prop := (∃ m, w.cell? ⟨2, 0, none⟩ = some (.int .i64 m)) ∧ 2 < w.heap.size
theorem MLw.below {w w' : World} (h : MLw w) (hb : Below w.heap.size w w') : MLw w' := by
 obtain ⟨⟨m, hm⟩, hl⟩ := h;exact ⟨⟨m, (hb.cell (p := ⟨2, 0, none⟩) hl).trans hm⟩, Nat.lt_of_lt_of_le hl hb.size⟩
theorem zbQ (s : ByteArray) (hs : s.size ≤ 100000) (w : World) (hm : MLw w) : Calls Tryz.prog 31 #[.string s] w (ub w (yQ s.data.toList)) := by
 by_cases hl : 4096 < s.size
 ·exact ze5 s hs hl w
 ·cases hk : chk s.data.toList 0 with
  | none => exact ze7 s (by omega) hk w hm.1 hm.2
  | some k => exact ze6 s (by omega) k hk w
theorem qq {w w' : World} {B : Nat} {e : TypeId} {size n : Nat} {v : Value} {xs : List Value} (h : w.ownsRow B e size v n xs) (hb : Below w.heap.size w w') : w'.ownsRow B e size v n xs :=
 h.kept (row := none) ⟨hb.os, hb.tape, hb.output, hb.size, fun k hk _ => hb.block k hk⟩ (by by_cases hv : v.ownBlock = none; exact .inl hv; exact .inr hv)
end
end Go.Proofs.YtfcgpphodacdmaaGreatDoor
