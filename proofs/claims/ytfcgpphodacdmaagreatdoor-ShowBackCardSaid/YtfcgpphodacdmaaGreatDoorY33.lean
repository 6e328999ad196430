/- Part of a proof: contracts of functions. -/
import Derived.Test.YtfcgpphodacdmaaGreatDoorY32
import Derived.Test.YtfcgpphodacdmaaGreatDoorY17
import Derived.Test.YtfcgpphodacdmaaGreatDoorY29
import Derived.Defers
import Derived.Recover
import Derived.RegionTactic
set_option maxRecDepth 100000
set_option maxHeartbeats 4000000
set_option linter.all false
namespace Go.Proofs.YtfcgpphodacdmaaGreatDoor
open Go.RowKit
theorem zaY (pl pa pe : Nat) (w : World) :
  CallsD Tryz.prog 32 #[.pointer (some ⟨pl, 0, none⟩), .pointer (some ⟨pa, 0, none⟩), .pointer (some ⟨pe, 0, none⟩)] .returning w fun e u' w' =>
   e = .returned (.tuple #[]) ∧ u' = .returning ∧ w' = w := by
 refine callsD_of_wpS Tryz.func32 rfl fun c₀ cs hu => ?_
 rw [show ((#[.pointer (some ⟨pl, 0, none⟩), .pointer (some ⟨pa, 0, none⟩), .pointer (some ⟨pe, 0, none⟩)] : Array Value) ++ Array.replicate (Tryz.f32.ntmps - (#[.pointer (some ⟨pl, 0, none⟩), .pointer (some ⟨pa, 0, none⟩), .pointer (some ⟨pe, 0, none⟩)] : Array Value).size) undef) = #[.pointer (some ⟨pl, 0, none⟩), .pointer (some ⟨pa, 0, none⟩), .pointer (some ⟨pe, 0, none⟩), undef, undef, undef, undef, undef, undef, undef, undef, undef, undef, undef] from rfl];apply wpS_seq;apply wpS_region;simp [wpOpsS, go_sem, recoverD, hu, Exit.thenS];have hq : ∀ w, (binOp .eql 20 .nilIface .nilIface).run Tryz.prog w = .ok (.bool true) w := fun _ => rfl
 refine wpS_of_wp ?_;go_wp2_with fail;refine ⟨rfl, .returning, ?_, _, results_none rfl _ _ _, rfl, rfl, rfl⟩;rw [← hu]
theorem zdI (N : Nat) (x0 x1 x2 : Value) (a : Int) (w : World) (h0 : B1 w N 22 x0) (h1 : B1 w (N + 1) 3 x1) (h2 : B1 w (N + 2) 24 x2) :
  CallsD Tryz.prog 32 #[.pointer (some ⟨N, 0, none⟩), .pointer (some ⟨N + 1, 0, none⟩), .pointer (some ⟨N + 2, 0, none⟩)] (.panicking [{ v := .iface 58 (.agg #[.int .i64 a]), recovered := false }]) w fun e u' w' =>
   e = .returned (.tuple #[]) ∧ u' = .panicking [{ v := .iface 58 (.agg #[.int .i64 a]), recovered := true }] ∧
    B1 w' N 22 (.slice none 0 0) ∧ B1 w' (N + 1) 3 (.int .i64 a) ∧ B1 w' (N + 2) 24 (.int .i64 7) ∧ Below N w w' := by
 have H0 := za h0;have H1 := za h1;have H2 := za h2;have hlt := h2.lt;clear h0 h1 h2;refine callsD_of_wpS Tryz.func32 rfl fun c₀ cs hu => ?_
 rw [show ((#[.pointer (some ⟨N, 0, none⟩), .pointer (some ⟨N + 1, 0, none⟩), .pointer (some ⟨N + 2, 0, none⟩)] : Array Value) ++ Array.replicate (Tryz.f32.ntmps - (#[.pointer (some ⟨N, 0, none⟩), .pointer (some ⟨N + 1, 0, none⟩), .pointer (some ⟨N + 2, 0, none⟩)] : Array Value).size) undef) = #[.pointer (some ⟨N, 0, none⟩), .pointer (some ⟨N + 1, 0, none⟩), .pointer (some ⟨N + 2, 0, none⟩), undef, undef, undef, undef, undef, undef, undef, undef, undef, undef, undef] from rfl];apply wpS_seq;apply wpS_region;simp [wpOpsS, go_sem, recoverD, hu, Exit.thenS];have hq : ∀ w, (binOp .eql 20 (.iface 58 (.agg #[.int .i64 a])) .nilIface).run Tryz.prog w = .ok (.bool false) w := fun _ => rfl
 have hta : ∀ w, (Instr.typeAssert (.iface 58 (.agg #[.int .i64 a])) 20 58 true).run Tryz.prog w = .ok (.tuple #[.agg #[.int .i64 a], .bool true]) w := fun _ => by kernel_rfl
 clear hu;refine wpS_of_wp ?_;go_wp2_with fail;obtain ⟨wq, hwq⟩ : ∃ wq, wq = (w.alloc (.cells #[.int .i64 a] 58)) := ⟨_, rfl⟩;rw [← hwq];have Q0 := za (hwq ▸ (H0.out.alloc _));have Q1 := za (hwq ▸ (H1.out.alloc _));have Q2 := za (hwq ▸ (H2.out.alloc _));have QB : Hid (Below N w wq) := hwq ▸ ((ze N w).alloc (by omega) _);have g0 : wq.cell? ⟨w.heap.size, 0, none⟩ = some (.int .i64 a) := by rw [hwq]; simp [go_sem]
 clear hwq hq hta;have a0 := Q0.out.c;have a1 := Q1.out.c;have a2 := Q2.out.c;have z0 := Q0.out.fz;have z1 := Q1.out.fz;have z2 := Q2.out.fz;have n0 : ¬ w.heap.size = N := by omega
 have n1 : ¬ w.heap.size = N + 1 := by omega
 have n2 : ¬ w.heap.size = N + 2 := by omega
 go_region
 have e01 : N ≠ N + 1 := by omega
 have e02 : N ≠ N + 2 := by omega
 have e12 : N + 1 ≠ N + 2 := by omega
 refine ⟨rfl, _, rfl, _, results_none rfl _ _ _, rfl, rfl, ?_, ?_, ?_, ?_⟩
 ·exact (((Q0.out.s _).far (p := ⟨N + 1, 0, none⟩) e01 _).far (p := ⟨N + 2, 0, none⟩) e02 _).drew
 ·exact (((Q1.out.far (p := ⟨N, 0, none⟩) e01.symm _).s _).far (p := ⟨N + 2, 0, none⟩) e12 _).drew
 ·exact (((Q2.out.far (p := ⟨N, 0, none⟩) e02.symm _).far (p := ⟨N + 1, 0, none⟩) e12.symm _).s _).drew
 ·exact (((QB.out.setCell (p := ⟨N, 0, none⟩) (zd _) _).setCell (p := ⟨N + 1, 0, none⟩) (by simp) _).setCell (p := ⟨N + 2, 0, none⟩) (by simp) _).drew
theorem jl {wf : World} {N : Nat} {v0 v1 v2 : Value} (h0 : B1 wf N 22 v0) (h1 : B1 wf (N + 1) 3 v1) (h2 : B1 wf (N + 2) 24 v2) (tmps : Array Value) (t0 : tmps[2]?.getD undef = .pointer (some ⟨N, 0, none⟩)) (t1 : tmps[3]?.getD undef = .pointer (some ⟨N + 1, 0, none⟩)) (t2 : tmps[4]?.getD undef = .pointer (some ⟨N + 2, 0, none⟩)) :
  (results Tryz.f16 tmps).run Tryz.prog wf = .ok (.tuple #[v0, v1, v2]) wf := by
 have e0 := h0.c;have e1 := h1.c;have e2 := h2.c;simp [results, Tryz.results16, go_sem, t0, t1, t2, e0, e1, e2]
theorem zhJ (w : World) (x0 x1 x2 : Value) :
  B1 (((w.alloc (.cells #[x0] 22)).alloc (.cells #[x1] 3)).alloc (.cells #[x2] 24)) w.heap.size 22 x0 ∧
  B1 (((w.alloc (.cells #[x0] 22)).alloc (.cells #[x1] 3)).alloc (.cells #[x2] 24)) (w.heap.size + 1) 3 x1 ∧
  B1 (((w.alloc (.cells #[x0] 22)).alloc (.cells #[x1] 3)).alloc (.cells #[x2] 24)) (w.heap.size + 2) 24 x2 ∧
  Below w.heap.size w (((w.alloc (.cells #[x0] 22)).alloc (.cells #[x1] 3)).alloc (.cells #[x2] 24)) := by
 refine ⟨((B1.new w _ x0).alloc _).alloc _, ?_, ?_, (((ze _ w).alloc (zd _) _).alloc (by simp) _).alloc (by simp; omega) _⟩
 ·have := (B1.new (w.alloc (.cells #[x0] 22)) 3 x1).alloc (.cells #[x2] 24)
  simpa using this
 ·have := B1.new ((w.alloc (.cells #[x0] 22)).alloc (.cells #[x1] 3)) 24 x2
  simpa using this
theorem zjt {w : World} {N : Nat} {T0 T1 T2 : TypeId} {x0 x1 x2 : Value} (P0 : B1 w N T0 x0) (P1 : B1 w (N + 1) T1 x1) (P2 : B1 w (N + 2) T2 x2) (v0 v1 v2 : Value) {M : Nat} {u : World} (hM : M ≤ N) (hb : Below M u w) :
    B1 (((w.setCell ⟨N, 0, none⟩ v0).setCell ⟨N + 1, 0, none⟩ v1).setCell ⟨N + 1 + 1, 0, none⟩ v2) N T0 v0 ∧ B1 (((w.setCell ⟨N, 0, none⟩ v0).setCell ⟨N + 1, 0, none⟩ v1).setCell ⟨N + 1 + 1, 0, none⟩ v2) (N + 1) T1 v1 ∧ B1 (((w.setCell ⟨N, 0, none⟩ v0).setCell ⟨N + 1, 0, none⟩ v1).setCell ⟨N + 1 + 1, 0, none⟩ v2) (N + 2) T2 v2 ∧ Below M u (((w.setCell ⟨N, 0, none⟩ v0).setCell ⟨N + 1, 0, none⟩ v1).setCell ⟨N + 1 + 1, 0, none⟩ v2) := by
  have e01 : N ≠ N + 1 := by omega
  have e02 : N ≠ N + 2 := by omega
  have e12 : N + 1 ≠ N + 2 := by omega
  exact ⟨((P0.s _).far (p := ⟨N + 1, 0, none⟩) e01 _).far (p := ⟨N + 2, 0, none⟩) e02 _, ((P1.far (p := ⟨N, 0, none⟩) e01.symm _).s _).far (p := ⟨N + 2, 0, none⟩) e12 _, ((P2.far (p := ⟨N, 0, none⟩) e02.symm _).far (p := ⟨N + 1, 0, none⟩) e12.symm _).s _,
    ((hb.setCell (p := ⟨N, 0, none⟩) hM _).setCell (p := ⟨N + 1, 0, none⟩) (by simp; omega) _).setCell (p := ⟨N + 1 + 1, 0, none⟩) (by simp; omega) _⟩
theorem zhK (s : ByteArray) (hs : s.size ≤ 100000) (w : World) (hm : MLw w) (a c : Int) (hx : yQ s.data.toList = .error (a, c)) :
  Calls Tryz.prog 16 #[.string s] w fun e w' => e = .returned (.tuple #[.slice none 0 0, .int .i64 a, .int .i64 c]) ∧ Below w.heap.size w w' := by
 have hce := zfB hx;have hc0 : ¬ c = 0 := by omega
 have hc1 : (c != 0) = true := bne_iff_ne.2 hc0;obtain ⟨t0, t1, t2, tb⟩ := zhJ w (.slice none 0 0) (.int .i64 0) (.int .i64 0);have HT := za (zbQ s hs _ (hm.below tb));rw [hx] at HT;have T0 := za t0;have T1 := za t1;have T2 := za t2;have TB := za tb;have hz : (((w.alloc (.cells #[.slice none 0 0] 22)).alloc (.cells #[.int .i64 0] 3)).alloc (.cells #[.int .i64 0] 24)).heap.size = w.heap.size + 1 + 1 + 1 := by simp
 have HZ := za hz;clear t0 t1 t2 tb hm hx hce hz
 go_enter_defers Tryz.func16, Tryz.ntmps16
 go_wp2_with fail;generalize ((w.alloc (.cells #[.slice none 0 0] 22)).alloc (.cells #[.int .i64 0] 3)).alloc (.cells #[.int .i64 0] 24) = w3 at *;refine HT.out.mono ?_; rintro e w4 hp;obtain ⟨rfl, hB⟩ := hp;have P0 := za (T0.out.below hB (by rw [HZ.out]; omega));have P1 := za (T1.out.below hB (by rw [HZ.out]; omega));have P2 := za (T2.out.below hB (by rw [HZ.out]; omega));have PB := za (zY TB.out hB TB.out.size);have a0 := P0.out.c;have a1 := P1.out.c;have a2 := P2.out.c;have z0 := P0.out.fz;have z1 := P1.out.fz;have z2 := P2.out.fz;have a2' : w4.cell? ⟨w.heap.size + 1 + 1, 0, none⟩ = _ := a2;have z2' : w4.frozen? ⟨w.heap.size + 1 + 1, 0, none⟩ = _ := z2;clear hB;have e01 : w.heap.size ≠ w.heap.size + 1 := by omega
 have e02 : w.heap.size ≠ w.heap.size + 2 := by omega
 have e12 : w.heap.size + 1 ≠ w.heap.size + 2 := by omega
 go_wp2_with fail;have R0 := (P0.out.far (p := ⟨w.heap.size + 1, 0, none⟩) e01 (.int .i64 a)).far (p := ⟨w.heap.size + 1 + 1, 0, none⟩) e02 (.int .i64 c);have R1 := (P1.out.s (.int .i64 a)).far (p := ⟨w.heap.size + 1 + 1, 0, none⟩) e12 (.int .i64 c);have R2 := (P2.out.far (p := ⟨w.heap.size + 1, 0, none⟩) e12.symm (.int .i64 a)).s (.int .i64 c);have RB := za ((PB.out.setCell (p := ⟨w.heap.size + 1, 0, none⟩) (by simp) (.int .i64 a)).setCell (p := ⟨w.heap.size + 1 + 1, 0, none⟩) (by simp; omega) (.int .i64 c));clear a0 a1 a2 z0 z1 z2 a2' z2' P0 P1 P2 PB T0 T1 T2 TB HT;generalize (w4.setCell ⟨w.heap.size + 1, 0, none⟩ (.int .i64 a)).setCell ⟨w.heap.size + 1 + 1, 0, none⟩ (.int .i64 c) = w5 at *;have a0 := R0.c;have a1 := R1.c;have a2 := R2.c;have z0 := R0.fz;have z1 := R1.fz;have z2 := R2.fz;have a2' : w5.cell? ⟨w.heap.size + 1 + 1, 0, none⟩ = _ := a2;have z2' : w5.frozen? ⟨w.heap.size + 1 + 1, 0, none⟩ = _ := z2;have P0 := za R0;have P1 := za R1;have P2 := za R2;clear R0 R1 R2;have n01 : ¬ w.heap.size = w.heap.size + 1 := by omega
 have n02 : ¬ w.heap.size = w.heap.size + 2 := by omega
 have n03 : ¬ w.heap.size = w.heap.size + 1 + 1 := by omega
 go_wp2_with fail
 go_region
 go_wp2_with fail;obtain ⟨q0, q1, q2, qb⟩ := zjt P0.out P1.out P2.out (.slice none 0 0) (.int .i64 a) (.int .i64 c) (zd _) RB.out;exact ⟨_, jl q0.drew q1.drew q2.drew _ rfl rfl rfl, rfl, qb.drew⟩
theorem zlg (u : World) {N : Nat} (hN : N = u.heap.size) (a b c d : Value) (T : TypeId) : ∀ j x, [a, b, c, d][j]? = some x → (u.alloc (.cells #[a, b, c, d] T)).cell? ((⟨N, 0, none⟩ : Addr).add j) = some x := by
 subst hN;intro j x hj
 match j, hj with
 | 0, hj => simp at hj; subst hj; simp [Addr.add]
 | 1, hj => simp at hj; subst hj; simp [Addr.add]
 | 2, hj => simp at hj; subst hj; simp [Addr.add]
 | 3, hj => simp at hj; subst hj; simp [Addr.add]
theorem zhL {w6 : World} {B g cap : Nat} {l : List Tk} {E : Int} (hrow : w6.ownsRow B 60 4 (.slice (some ⟨g, 0, none⟩) (l.length + 1) cap) (l.length + 1) (cellsOf (l ++ [⟨0, E, [], 0⟩])))
  (hl : l.length ≤ 5000) (hb : ∀ t ∈ l, 0 ≤ t.bits ∧ t.bits < 18446744073709551616) (ht : Bt.tab w6) :
  ∃ o, In (Cx.mk w6.heap.size g cap o l E w6) (w6.alloc (.cells #[.slice (some ⟨g, 0, none⟩) (l.length + 1) cap, .int .i64 0] 62)) 0 := by
 obtain ⟨h1, h2⟩ := hrow;rcases h2 with ⟨h, _⟩ | ⟨g', cap', cur, hv, hg, hh, hn, hm, hz, htk⟩
 ·cases h
 injection hv with hv1 _ hv2;injection hv1 with hv1; injection hv1 with hv1 _ _;subst hv1; subst hv2;have hlt := xT hh;refine ⟨_, ⟨heap_alloc_new w6 _, (Below.heap_alloc w6 _ g hlt).trans hh, Nat.zero_le _, ⟨by show w6.heap.size ≠ g; omega, hl, ?_, hb, zd _, ht⟩, (ze _ _).alloc (zd _) _⟩⟩;intro w' hw' k hk;have hk : k ≤ l.length := hk;have ho : w'.ownsRow 0 60 4 (.slice (some ⟨g, 0, none⟩) (l ++ [(⟨0, E, [], 0⟩ : Tk)]).length cap) (l ++ [(⟨0, E, [], 0⟩ : Tk)]).length (cellsOf (l ++ [⟨0, E, [], 0⟩])) := by
  rw [List.length_append];exact ⟨h1, .inr ⟨g, cap, cur, rfl, Nat.zero_le _, hw', hn, hm, hz, htk⟩⟩
 have hlen : (l ++ [(⟨0, E, [], 0⟩ : Tk)]).length = l.length + 1 := by rw [List.length_append]; rfl
 have := znb ho k (by omega);have hT : (l ++ [(⟨0, E, [], 0⟩ : Tk)])[k]'(by omega) = hd E (l.drop k) := by
  rcases Nat.lt_or_ge k l.length with h | h
  ·rw [List.getElem_append_left h, List.drop_eq_getElem_cons h]; rfl
  ·have e : k = l.length := by omega
   subst e;rw [List.getElem_append_right (zd _), List.drop_length];simp [hd]
 rw [hT] at this;exact this
def zbh (E : Int) (l : List Tk) (r : Except (Int × Int) Tr) : Prop := ∃ q, D E .program l q ∧ match q with
 | .error p => r = .error (p, 7)
 | .ok (t, R) => R = [] ∧ r = if 60 < htT (nd 1 [] t.kids) then .error (0, 6) else .ok (nd 1 [] t.kids)
def Out (L : List UInt8) (r : Except (Int × Int) Tr) : Prop := match yQ L with
 | .error x => r = .error x
 | .ok l => zbh L.length l r
def jV (w : World) (r : Except (Int × Int) Tr) (e : Ending) (w' : World) : Prop := match r with
 | .error (a, c) => e = .returned (.tuple #[.slice none 0 0, .int .i64 a, .int .i64 c]) ∧ Below w.heap.size w w'
 | .ok t => ∃ v, e = .returned (.tuple #[v, .int .i64 0, .int .i64 0]) ∧ w'.ownsRow w.heap.size 40 5 v (zp t).length (qf (zp t)) ∧ (zp t).length ≤ 4097 ∧ Below w.heap.size w w'
theorem zbh.det {E : Int} {l : List Tk} {r r' : Except (Int × Int) Tr} (h : zbh E l r) (h' : zbh E l r') : r = r' := by
 obtain ⟨q, hd, h⟩ := h;obtain ⟨q', hd', h'⟩ := h';have := hd.det hd';subst this;rcases q with p | ⟨t, R⟩
 ·exact h.trans h'.symm
 ·exact h.2.trans h'.2.symm
theorem Out.det {L : List UInt8} {r r' : Except (Int × Int) Tr} (h : Out L r) (h' : Out L r') : r = r' := by
 unfold Out at h h';cases hx : yQ L with
 | error x => rw [hx] at h h'; exact h.trans h'.symm
 | ok l => rw [hx] at h h'; exact zbh.det h h'
theorem zdJ {w w' : World} {r : Except (Int × Int) Tr} {a c : Int} {e : Ending} (h : r = .error (a, c)) (he : e = .returned (.tuple #[.slice none 0 0, .int .i64 a, .int .i64 c])) (hb : Below w.heap.size w w') : jV w r e w' := by subst h; exact ⟨he, hb⟩
theorem zoW {w w' : World} {r : Except (Int × Int) Tr} {t : Tr} {v : Value} {e : Ending} (h : r = .ok t) (he : e = .returned (.tuple #[v, .int .i64 0, .int .i64 0])) (ho : w'.ownsRow w.heap.size 40 5 v (zp t).length (qf (zp t))) (hl : (zp t).length ≤ 4097) (hb : Below w.heap.size w w') : jV w r e w' := by subst h; exact ⟨v, he, ho, hl, hb⟩
theorem zgv (s : ByteArray) (hs : s.size ≤ 100000) (w : World) (hm : MLw w) (ht : Bt.tab w) (l : List Tk) (hx : yQ s.data.toList = .ok l) :
  Calls Tryz.prog 16 #[.string s] w fun e w' => ∃ r, zbh s.size l r ∧ jV w r e w' := by
 have hl := (zen hx).1;have hl2 := (zcF hx).1;rw [zL] at hl hl2;obtain ⟨t0, t1, t2, tb⟩ := zhJ w (.slice none 0 0) (.int .i64 0) (.int .i64 0);have HT := za (zbQ s hs _ (hm.below tb));rw [hx] at HT;have T0 := za t0;have T1 := za t1;have T2 := za t2;have TB := za tb;have hz : (((w.alloc (.cells #[.slice none 0 0] 22)).alloc (.cells #[.int .i64 0] 3)).alloc (.cells #[.int .i64 0] 24)).heap.size = w.heap.size + 1 + 1 + 1 := by simp
 have HZ := za hz;have HTAB := za ht;have HBITS := za (fun t h => zfM ((j0 hx).2.1 t h));clear ht;clear t0 t1 t2 tb hm hx hz;have hmf : ∀ (fn : Fn) (first cap : Array Value) (w : World), (Instr.makeFunc fn first cap).run Tryz.prog w = .ok (.func fn first cap) w := fun _ _ _ _ => rfl
 go_enter_defers Tryz.func16, Tryz.ntmps16
 go_wp2_with fail;generalize ((w.alloc (.cells #[.slice none 0 0] 22)).alloc (.cells #[.int .i64 0] 3)).alloc (.cells #[.int .i64 0] 24) = w3 at *;refine HT.out.mono ?_; rintro e w4 hp;obtain ⟨v, rfl, hw, hB⟩ := hp;obtain ⟨ao, cp, rfl⟩ := yb hw;have hlt3 : w.heap.size + 2 < w3.heap.size := by rw [HZ.out]; omega
 have P0 := za (T0.out.below hB (by omega));have P1 := za (T1.out.below hB (by omega));have P2 := za (T2.out.below hB (by omega));have PB := za (zY TB.out hB TB.out.size);have HW := za hw;have hsz4 : w3.heap.size ≤ w4.heap.size := hB.size;have a0 := P0.out.c;have a1 := P1.out.c;have a2 := P2.out.c;have z0 := P0.out.fz;have z1 := P1.out.fz;have z2 := P2.out.fz;have a2' : w4.cell? ⟨w.heap.size + 1 + 1, 0, none⟩ = _ := a2;have z2' : w4.frozen? ⟨w.heap.size + 1 + 1, 0, none⟩ = _ := z2;clear hB hw;have e01 : w.heap.size ≠ w.heap.size + 1 := by omega
 have e02 : w.heap.size ≠ w.heap.size + 2 := by omega
 have e12 : w.heap.size + 1 ≠ w.heap.size + 2 := by omega
 have hown := xJ (xJ HW.out (p := ⟨w.heap.size + 1, 0, none⟩) (by simp; omega) (.int .i64 0)) (p := ⟨w.heap.size + 1 + 1, 0, none⟩) (by simp; omega) (.int .i64 0);obtain ⟨i0, hi, hz0, hz1, hz2⟩ := info_parts zkD;go_wp2_with (at_builtin; refine wpList_append_own _ rfl _ _ 54 rfl w3.heap.size 60 i0 _ 4 40 Tryz.underlying54 hi hz0 hz1 hz2 rfl (by decide) _ _ _ rfl (hown.alloc _) ⟨w4.heap.size, 0, none⟩ 1 1 [.int .i64 0, .int .i64 (s.size : Int), .string ⟨#[]⟩, .int .u64 0] rfl rfl ?c1 ?c2 ?c3 ?c4 ?c5 ?_)
 case c1 => exact zlg _ (by simp) _ _ _ _ _
 case c2 => intro u hu; simp at hu; rcases hu with rfl | rfl | rfl | rfl <;> rfl
 case c3 => unfold maxLen; omega
 case c4 => omega
 case c5 => simp; omega
 intro v' w6 hown' hgrow _;have hbel : Below w3.heap.size ((w4.setCell ⟨w.heap.size + 1, 0, none⟩ (.int .i64 0)).setCell ⟨w.heap.size + 1 + 1, 0, none⟩ (.int .i64 0)) w6 := ((ze _ _).alloc (by simp; omega) _).grown hgrow (by simp; omega) (fun k hk => (hown.lt k hk).1);have Q0 := za (((P0.out.far (p := ⟨w.heap.size + 1, 0, none⟩) e01 (.int .i64 0)).far (p := ⟨w.heap.size + 1 + 1, 0, none⟩) e02 (.int .i64 0)).below hbel (by omega));have Q1 := za (((P1.out.s (.int .i64 0)).far (p := ⟨w.heap.size + 1 + 1, 0, none⟩) e12 (.int .i64 0)).below hbel (by omega));have Q2 := za (((P2.out.far (p := ⟨w.heap.size + 1, 0, none⟩) e12.symm (.int .i64 0)).s (.int .i64 0)).below hbel (by omega));have QB := za (((PB.out.setCell (p := ⟨w.heap.size + 1, 0, none⟩) (by simp) (.int .i64 0)).setCell (p := ⟨w.heap.size + 1 + 1, 0, none⟩) (by simp; omega) (.int .i64 0)).trans (hbel.mono (by omega)));have hc : cellsOf (l ++ [(⟨0, (s.size : Int), [], 0⟩ : Tk)]) = cellsOf l ++ [.int .i64 0, .int .i64 (s.size : Int), .string ⟨#[]⟩, .int .u64 0] := zaA l _;rw [← hc] at hown';obtain ⟨g6, cp6, rfl, hg61, hg62⟩ := hown'.form (by omega);have hsz6 : w.heap.size + 2 < w6.heap.size := by have := hbel.size; simp at this; omega
 obtain ⟨o6, hin⟩ := zhL hown' (by omega) HBITS.out (Bt.tab_below HTAB.out QB.out);have HIN := za hin;clear hin hown' hgrow hbel hown hi hz0 hz1 hz2 hc P0 P1 P2 PB a0 a1 a2 z0 z1 z2 a2' z2' HW T0 T1 T2 TB HT;have a0 := Q0.out.c;have a1 := Q1.out.c;have a2 := Q2.out.c;have z0 := Q0.out.fz;have z1 := Q1.out.fz;have z2 := Q2.out.fz;have a2' : w6.cell? ⟨w.heap.size + 1 + 1, 0, none⟩ = _ := a2;have z2' : w6.frozen? ⟨w.heap.size + 1 + 1, 0, none⟩ = _ := z2;go_wp2_with fail;refine (zgt _ _ HIN.out).mono ?_; rintro e w7 ⟨r, hD, hr⟩;have hD : D (s.size : Int) .program l r := hD;have HD := za hD;clear hD;rcases r with p | ⟨t, R1⟩
 ·obtain ⟨rfl, hO⟩ := hr;have U0 := za ((Q0.out.alloc (.cells #[.slice (some ⟨g6, 0, none⟩) (l.length + 1) cp6, .int .i64 0] 62)).off hO (by show w.heap.size ≠ w6.heap.size; omega));have U1 := za ((Q1.out.alloc (.cells #[.slice (some ⟨g6, 0, none⟩) (l.length + 1) cp6, .int .i64 0] 62)).off hO (by show w.heap.size + 1 ≠ w6.heap.size; omega));have U2 := za ((Q2.out.alloc (.cells #[.slice (some ⟨g6, 0, none⟩) (l.length + 1) cp6, .int .i64 0] 62)).off hO (by show w.heap.size + 2 ≠ w6.heap.size; omega));have UB := za ((QB.out.alloc (by omega) (.cells #[.slice (some ⟨g6, 0, none⟩) (l.length + 1) cp6, .int .i64 0] 62)).trans (hO.toBelow (B := w.heap.size) (by show w.heap.size ≤ w6.heap.size; omega) (by simp; omega)));clear hO a0 a1 a2 z0 z1 z2 a2' z2' Q0 Q1 Q2 QB HIN;unfold zu;go_wp2_with fail;refine leaves_cons (f := 32) (args := #[.pointer (some ⟨w.heap.size, 0, none⟩), .pointer (some ⟨w.heap.size + 1, 0, none⟩), .pointer (some ⟨w.heap.size + 2, 0, none⟩)]) (by simp) (by simp [go_sem]) ?_;refine (zdI w.heap.size _ _ _ p _ U0.out U1.out U2.out).mono ?_;rintro e u' w'' ⟨rfl, rfl, q0, q1, q2, qb⟩;exact ⟨_, jl q0 q1 q2 _ rfl rfl rfl, _, ⟨_, HD.out, rfl⟩, zdJ rfl rfl (UB.out.trans qb)⟩
 ·obtain ⟨v, rfl, rfl, hG, hT⟩ := hr;obtain ⟨a7, rfl⟩ := hT.ptr;have hO := hG.2;have U0 := za ((Q0.out.alloc (.cells #[.slice (some ⟨g6, 0, none⟩) (l.length + 1) cp6, .int .i64 0] 62)).off hO (by show w.heap.size ≠ w6.heap.size; omega));have U1 := za ((Q1.out.alloc (.cells #[.slice (some ⟨g6, 0, none⟩) (l.length + 1) cp6, .int .i64 0] 62)).off hO (by show w.heap.size + 1 ≠ w6.heap.size; omega));have U2 := za ((Q2.out.alloc (.cells #[.slice (some ⟨g6, 0, none⟩) (l.length + 1) cp6, .int .i64 0] 62)).off hO (by show w.heap.size + 2 ≠ w6.heap.size; omega));have UB := za ((QB.out.alloc (by omega) (.cells #[.slice (some ⟨g6, 0, none⟩) (l.length + 1) cp6, .int .i64 0] 62)).trans (hO.toBelow (B := w.heap.size) (by show w.heap.size ≤ w6.heap.size; omega) (by simp; omega)));have hsz7 : w.heap.size + 2 < w7.heap.size := by have h := hO.size; simp at h; omega
  have hcnt := zjd HD.out;have HS1 : Hid (zbh (s.size : Int) l (if 60 < htT (nd 1 [] t.kids) then .error (0, 6) else .ok (nd 1 [] t.kids))) := ⟨_, HD.out, rfl, rfl⟩;generalize nd 1 [] t.kids = T at *;have HLA := za (zkI T w7 _ w7.heap.size a7 hT (fun i hi => hi.2) (zd _) (.slice none 0 0) 0 [] (by omega) (World.ownsRow_nil _ _ _ _));rw [Nat.zero_add, List.nil_append] at HLA;clear hT hG hO HD a0 a1 a2 z0 z1 z2 a2' z2' Q0 Q1 Q2 QB HIN;go_wp2_with fail;refine HLA.out.mono ?_; rintro e w8 ⟨row, rfl, hR8, hB8⟩;obtain ⟨ao8, cp8, rfl⟩ := yb hR8;have V0 := za (U0.out.below hB8 (by omega));have V1 := za (U1.out.below hB8 (by omega));have V2 := za (U2.out.below hB8 (by omega));have VB := za (UB.out.trans (hB8.mono (by omega)));have VW := za hR8;have a0 := V0.out.c;have z0 := V0.out.fz;clear hB8 hR8 U0 U1 U2 UB HLA;go_wp2_with fail;have hW := xJ VW.out (p := ⟨w.heap.size, 0, none⟩) (by show w.heap.size < _; omega) (.slice ao8 (zp T).length cp8);have W0 := V0.out.s (.slice ao8 (zp T).length cp8);have W1 := V1.out.far (p := ⟨w.heap.size, 0, none⟩) e01.symm (.slice ao8 (zp T).length cp8);have W2 := V2.out.far (p := ⟨w.heap.size, 0, none⟩) e02.symm (.slice ao8 (zp T).length cp8);have WB := VB.out.setCell (p := ⟨w.heap.size, 0, none⟩) (zd _) (.slice ao8 (zp T).length cp8);clear V0 V1 V2 VB VW a0 z0;generalize w8.setCell ⟨w.heap.size, 0, none⟩ (.slice ao8 (zp T).length cp8) = w9 at *;have hsz9 := W2.lt;refine (za4 w9 _ T (xf.own hW) (by omega)).mono ?_; rintro e w10 ⟨rfl, hB⟩;have X0 := za (W0.below hB (by omega));have X1 := za (W1.below hB (by omega));have X2 := za (W2.below hB (by omega));have XB := za (zY WB hB (by omega));have XW := za (qq hW hB);clear hB hW W0 W1 W2 WB;have a0 := X0.out.c;have a1 := X1.out.c;have a2 := X2.out.c;have z0 := X0.out.fz;have z1 := X1.out.fz;have z2 := X2.out.fz;have a2' : w10.cell? ⟨w.heap.size + 1 + 1, 0, none⟩ = _ := a2;have z2' : w10.frozen? ⟨w.heap.size + 1 + 1, 0, none⟩ = _ := z2;have n01 : ¬ w.heap.size = w.heap.size + 1 := by omega
  have n02 : ¬ w.heap.size = w.heap.size + 2 := by omega
  have n03 : ¬ w.heap.size = w.heap.size + 1 + 1 := by omega
  by_cases hh : 60 < htT T
  ·rw [if_pos hh] at HS1;have hh2 : (60 : Int) < ((htT T : Nat) : Int) := by omega
   generalize htT T = H at *;go_wp2_with fail;obtain ⟨q0, q1, q2, qb⟩ := zjt X0.out X1.out X2.out (.slice none 0 0) (.int .i64 0) (.int .i64 6) (zd _) XB.out;refine leaves_cons (f := 32) (args := #[.pointer (some ⟨w.heap.size, 0, none⟩), .pointer (some ⟨w.heap.size + 1, 0, none⟩), .pointer (some ⟨w.heap.size + 2, 0, none⟩)]) (by simp) (by simp [go_sem]) ?_;refine (zaY _ _ _ _).mono ?_;rintro e u' w'' ⟨rfl, rfl, rfl⟩;exact ⟨_, jl q0 q1 q2 _ rfl rfl rfl, _, HS1.out, zdJ rfl rfl qb⟩
  ·rw [if_neg hh] at HS1;have hh2 : ¬ (60 : Int) < ((htT T : Nat) : Int) := by omega
   generalize htT T = H at *;go_wp2_with fail;obtain ⟨q0, q1, q2, qb⟩ := zjt X0.out X1.out X2.out (.slice ao8 (zp T).length cp8) (.int .i64 0) (.int .i64 0) (zd _) XB.out;refine leaves_cons (f := 32) (args := #[.pointer (some ⟨w.heap.size, 0, none⟩), .pointer (some ⟨w.heap.size + 1, 0, none⟩), .pointer (some ⟨w.heap.size + 2, 0, none⟩)]) (by simp) (by simp [go_sem]) ?_;refine (zaY _ _ _ _).mono ?_;rintro e u' w'' ⟨rfl, rfl, rfl⟩;exact ⟨_, jl q0 q1 q2 _ rfl rfl rfl, _, HS1.out, zoW rfl rfl (qP (xJ (xJ (xJ XW.out (p := ⟨w.heap.size, 0, none⟩) (by show w.heap.size < _; omega) _) (p := ⟨w.heap.size + 1, 0, none⟩) (by show w.heap.size + 1 < _; omega) _) (p := ⟨w.heap.size + 1 + 1, 0, none⟩) (by show w.heap.size + 1 + 1 < _; omega) _) (by omega)) (by omega) qb⟩
theorem zat (s : ByteArray) (hs : s.size ≤ 100000) (w : World) (hm : MLw w) (ht : Bt.tab w) : Calls Tryz.prog 16 #[.string s] w fun e w' => ∃ r, Out s.data.toList r ∧ jV w r e w' := by
 cases hx : yQ s.data.toList with
 | error x =>
  obtain ⟨a, c⟩ := x;refine (zhK s hs w hm a c hx).mono ?_;rintro e w' ⟨rfl, hB⟩;exact ⟨.error (a, c), by unfold Out; rw [hx], zdJ rfl rfl hB⟩
 | ok l =>
  refine (zgv s hs w hm ht l hx).mono ?_;rintro e w' ⟨r, h1, h2⟩;exact ⟨r, by unfold Out; rw [hx, zL]; exact h1, h2⟩
end Go.Proofs.YtfcgpphodacdmaaGreatDoor
namespace Go.Proofs.YtfcgpphodacdmaaGreatDoor
theorem jW (t : Tr) : zp t = ⟨t.kind, t.kids.length, (zs t.kids).length + 1, t.text, t.bits⟩ :: zs t.kids := by cases t; rw [zp]; rfl
theorem zlh (A : List LN) (t : Tr) (B : List LN) : szI (LI (A ++ zp t ++ B)) A.length = (zp t).length := by
 unfold szI LI;rw [List.getElem?_map, List.append_assoc, List.getElem?_append_right (zd _), Nat.sub_self, jW, List.cons_append, List.getElem?_cons_zero];simp [LN.i]
theorem zli (A : List LN) (t : Tr) (B : List LN) : kdI (LI (A ++ zp t ++ B)) A.length = t.kind := by
 unfold kdI LI;rw [List.getElem?_map, List.append_assoc, List.getElem?_append_right (zd _), Nat.sub_self, jW, List.cons_append, List.getElem?_cons_zero];rfl
theorem zhM (A : List LN) : ∀ (l : List Tr) (B : List LN), qQ (szI (LI (A ++ zs l ++ B))) (A ++ zs l ++ B).length l.length A.length = some (zZ l A.length, A.length + (zs l).length) := by
 intro l
 induction l generalizing A with
 | nil => intro B; rfl
 | cons t l ih =>
  intro B;have e : A ++ zs (t :: l) ++ B = A ++ zp t ++ (zs l ++ B) := by rw [zs]; simp [List.append_assoc]
  have e2 : A ++ zs (t :: l) ++ B = (A ++ zp t) ++ zs l ++ B := by rw [zs]; simp [List.append_assoc]
  have hs := zlh A t (zs l ++ B);have hp := yk t;have hlen : (A ++ zp t ++ (zs l ++ B)).length = A.length + (zp t).length + (zs l ++ B).length := by rw [List.length_append, List.length_append]
  rw [List.length_cons, qQ, zZ];rw [e, hs, if_pos (by omega)];have := ih (A ++ zp t) B;rw [← e2, e] at this;rw [show (A ++ zp t).length = A.length + (zp t).length from List.length_append] at this;rw [Int.toNat_natCast, this];simp only [Option.map_some, zs, List.length_append];congr 2; omega
def Sub (L : List LN) (i : Nat) (t : Tr) : Prop := ∃ A B, L = A ++ zp t ++ B ∧ A.length = i
theorem Sub.lt {L : List LN} {i : Nat} {t : Tr} (h : Sub L i t) : i + (zp t).length ≤ L.length := by
 obtain ⟨A, B, rfl, rfl⟩ := h;simp only [List.length_append]; omega
theorem Sub.self (t : Tr) : Sub (zp t) 0 t := ⟨[], [], by simp, rfl⟩
theorem Sub.at {L : List LN} {i : Nat} {t : Tr} (h : Sub L i t) : L[i]? = some ⟨t.kind, t.kids.length, (zs t.kids).length + 1, t.text, t.bits⟩ := by
 obtain ⟨A, B, rfl, rfl⟩ := h;rw [List.append_assoc, List.getElem?_append_right (zd _), Nat.sub_self, jW, List.cons_append, List.getElem?_cons_zero]
theorem zdK : ∀ (l : List Tr) (A B : List LN) (j : Nat) (h : j < l.length), ∃ p, (zZ l A.length)[j]? = some p ∧ Sub (A ++ zs l ++ B) p (l[j]'h)
 | [], A, B, j, h => by simp at h
 | t :: l, A, B, 0, h => ⟨A.length, by rw [zZ]; rfl, A, zs l ++ B, by rw [zs]; simp [List.append_assoc], rfl⟩
 | t :: l, A, B, j + 1, h => by
  obtain ⟨p, h1, h2⟩ := zdK l (A ++ zp t) B j (by simpa using h);refine ⟨p, ?_, ?_⟩
  ·rw [zZ, List.getElem?_cons_succ]; rw [List.length_append] at h1; exact h1
  ·rw [zs]; rw [show A ++ (zp t ++ zs l) ++ B = A ++ zp t ++ zs l ++ B by simp [List.append_assoc]]; exact h2
theorem Sub.kids {L : List LN} {i : Nat} {t : Tr} (h : Sub L i t) : yY (LI L) i (t.kids.length : Int) = (zZ t.kids (i + 1), (zp t).length) ∧ ∀ (j : Nat) (hj : j < t.kids.length), ∃ p, (zZ t.kids (i + 1))[j]? = some p ∧ Sub L p (t.kids[j]'hj) := by
 obtain ⟨A, B, rfl, rfl⟩ := h;obtain ⟨k, x, b, kids⟩ := t;have e : A ++ zp (.node k x b kids) ++ B = (A ++ [⟨k, kids.length, (zs kids).length + 1, x, b⟩]) ++ zs kids ++ B := by rw [zp]; simp [List.append_assoc]
 have hl : (A ++ [(⟨k, kids.length, (zs kids).length + 1, x, b⟩ : LN)]).length = A.length + 1 := by rw [List.length_append]; rfl
 have hk := zhM (A ++ [⟨k, kids.length, (zs kids).length + 1, x, b⟩]) kids B;rw [hl] at hk;rw [e];refine ⟨?_, fun j hj => ?_⟩
 ·unfold yY;show (if ((kids.length : Nat) : Int) < 0 then _ else _) = _
  rw [if_neg (by omega), jb, Int.toNat_natCast];show (match qQ _ _ kids.length _ with | none => _ | some q => _) = _
  rw [hk];show (zZ kids (A.length + 1), A.length + 1 + (zs kids).length - A.length) = (zZ kids (A.length + 1), _)
  rw [zp, List.length_cons]; congr 1; omega
 ·have := zdK kids (A ++ [⟨k, kids.length, (zs kids).length + 1, x, b⟩]) B j hj;rw [hl] at this;exact this
theorem zbJ (L : List LN) : ∀ (l : List Tr) (A B : List LN), L = A ++ zs l ++ B → (zZ l A.length).map (fun p => zl (kdI (LI L) p)) = l.map fun t => zl t.kind
 | [], A, B, _ => rfl
 | t :: l, A, B, e => by
  have e1 : L = A ++ zp t ++ (zs l ++ B) := by rw [e, zs]; simp [List.append_assoc]
  have e2 : L = (A ++ zp t) ++ zs l ++ B := by rw [e, zs]; simp [List.append_assoc]
  rw [zZ, List.map_cons, List.map_cons];have := zbJ L l (A ++ zp t) B e2;rw [List.length_append] at this;rw [this];congr 2
  rw [e1, zli]
theorem Sub.kinds {L : List LN} {i : Nat} {t : Tr} (h : Sub L i t) : (zZ t.kids (i + 1)).map (fun p => zl (kdI (LI L) p)) = t.kids.map fun t => zl t.kind := by
 obtain ⟨A, B, rfl, rfl⟩ := h;obtain ⟨k, x, b, kids⟩ := t;have e : A ++ zp (.node k x b kids) ++ B = (A ++ [⟨k, kids.length, (zs kids).length + 1, x, b⟩]) ++ zs kids ++ B := by rw [zp]; simp [List.append_assoc]
 have hl : (A ++ [(⟨k, kids.length, (zs kids).length + 1, x, b⟩ : LN)]).length = A.length + 1 := by rw [List.length_append]; rfl
 have := zbJ (A ++ zp (.node k x b kids) ++ B) kids (A ++ [⟨k, kids.length, (zs kids).length + 1, x, b⟩]) B e;rw [hl] at this;exact this
def mbN (k : Int) (x : List UInt8) (b : Int) (kids : List Tr) : Prop :=
 yB k x = true ∧ ue k b = true ∧ zP k (kids.map fun t => zl t.kind) = true ∧ (k = 7 → kids.length = 2 ∨ ∃ a s u, kids = [a, s, u] ∧ yA s = false)
mutual
def okT : Tr → Prop
 | .node k x b kids => mbN k x b kids ∧ uR kids
def uR : List Tr → Prop
 | [] => True
 | t :: l => okT t ∧ uR l
end
theorem zft : ∀ {l : List Tr}, (∀ t ∈ l, okT t) → uR l
 | [], _ => by rw [uR]; trivial
 | t :: l, h => by rw [uR]; exact ⟨h t (by simp), zft fun u hu => h u (by simp [hu])⟩
theorem zdL : ∀ {l : List Tr}, uR l → ∀ t ∈ l, okT t
 | t :: l, h, u, hu => by
  rw [uR] at h;rcases List.mem_cons.1 hu with rfl | hu
  ·exact h.1
  ·exact zdL h.2 u hu
theorem zju {t : Tr} (h : okT t) : ∀ u ∈ t.kids, okT u := by cases t; rw [okT] at h; exact zdL h.2
theorem zdM {t : Tr} (h : okT t) : mbN t.kind t.text t.bits t.kids := by cases t; rw [okT] at h; exact h.1
theorem zbK : ∀ (l : List Tr), qy l = match l.getLast? with | none => false | some t => yA t
 | [] => by simp [qy]
 | [t] => by simp [qy]
 | t :: u :: l => by
  rw [qy, zbK (u :: l), List.getLast?_cons_cons]
theorem zhN : ∀ (l : List Tr) (p : Nat), (zZ l p).getLast? = (zZ l p)[l.length - 1]? := fun l p => by
 rw [List.getLast?_eq_getElem?, qd]
theorem zfu {L : List LN} : ∀ (f : Nat) (i : Nat) (t : Tr), Sub L i t → (zp t).length ≤ f → opP (LI L) f i = yA t
 | 0, i, t, h, hf => by have := yk t; omega
 | f + 1, i, t, h, hf => by
  have ha := h.at;have hk := h.kids;obtain ⟨k, x, b, kids⟩ := t;have e : (LI L)[i]? = some ⟨k, kids.length, (zs kids).length + 1, x, b⟩ := by
   unfold LI; rw [List.getElem?_map, ha]; rfl
  rw [opP, e];show (if k = 7 ∧ ((kids.length : Nat) : Int) = 2 then true else if k = 7 ∨ k = 8 ∨ k = 10 then (match (yY (LI L) i ((kids.length : Nat) : Int)).1.getLast? with | none => false | some j => opP (LI L) f j) else false) = yA (.node k x b kids)
  have hk1 : yY (LI L) i ((kids.length : Nat) : Int) = (zZ kids (i + 1), (zp (.node k x b kids)).length) := hk.1;rw [hk1, zhN, yA];by_cases h1 : k = 7 ∧ kids.length = 2
  ·obtain ⟨rfl, h2⟩ := h1;rw [if_pos ⟨rfl, by omega⟩]; simp [h2]
  ·have hb : (k == 7 && kids.length == 2) = false := by
    rw [Bool.and_eq_false_iff]; by_cases hk : k = 7
    ·exact .inr (beq_eq_false_iff_ne.2 fun e => h1 ⟨hk, e⟩)
    ·exact .inl (beq_eq_false_iff_ne.2 hk)
   rw [if_neg (fun h => h1 ⟨h.1, by omega⟩), hb, Bool.false_or];by_cases h2 : k = 7 ∨ k = 8 ∨ k = 10
   ·rw [if_pos h2];have hc : (k == 7 || k == 8 || k == 10) = true := by rcases h2 with rfl | rfl | rfl <;> rfl
    rw [hc, Bool.true_and, zbK, List.getLast?_eq_getElem?];by_cases hl : kids.length = 0
    ·have : kids = [] := List.eq_nil_of_length_eq_zero hl;subst this; simp [zZ]
    ·obtain ⟨p, hp, hs⟩ := hk.2 (kids.length - 1) (by show kids.length - 1 < kids.length; omega);have hp' : (zZ kids (i + 1))[kids.length - 1]? = some p := hp;rw [hp', List.getElem?_eq_getElem (show kids.length - 1 < kids.length by omega)];have hlt : (zp (kids[kids.length - 1]'(by omega))).length < (zp (.node k x b kids)).length := zk (List.getElem_mem _);exact zfu f p _ hs (by omega)
   ·rw [if_neg h2];have hc : (k == 7 || k == 8 || k == 10) = false := by
     simp only [not_or] at h2; simp [h2.1, h2.2.1, h2.2.2]
    rw [hc, Bool.false_and]
theorem zlj {L : List LN} {i : Nat} {t : Tr} (h : Sub L i t) (ho : mbN t.kind t.text t.bits t.kids) : zeS (LI L) i (LN.i ⟨t.kind, t.kids.length, (zs t.kids).length + 1, t.text, t.bits⟩) = true := by
 have hk := h.kids;have hr := h.kinds;have hp := yk t;have hle := h.lt;have hs : (zp t).length = (zs t.kids).length + 1 := by rw [jW, List.length_cons]
 obtain ⟨h1, h2, h3, h4⟩ := ho;unfold zeS LN.i;show (!((yY (LI L) i (t.kids.length : Int)).2 == 0) && ((((zs t.kids).length + 1 : Nat) : Int) == ((yY (LI L) i (t.kids.length : Int)).2 : Int)) && yB t.kind t.text && ue t.kind t.bits && zP t.kind ((yY (LI L) i (t.kids.length : Int)).1.map fun p => zl (kdI (LI L) p)) && (t.kind != 7 || (yY (LI L) i (t.kids.length : Int)).1.length == 2 || (match (yY (LI L) i (t.kids.length : Int)).1[1]? with | none => true | some j => !opP (LI L) (LI L).length j))) = true
 rw [hk.1];show (!((zp t).length == 0) && ((((zs t.kids).length + 1 : Nat) : Int) == ((zp t).length : Int)) && yB t.kind t.text && ue t.kind t.bits && zP t.kind ((zZ t.kids (i + 1)).map fun p => zl (kdI (LI L) p)) && (t.kind != 7 || (zZ t.kids (i + 1)).length == 2 || (match (zZ t.kids (i + 1))[1]? with | none => true | some j => !opP (LI L) (LI L).length j))) = true
 rw [hr, h1, h2, h3, hs, qd];have e1 : ((zs t.kids).length + 1 == 0) = false := beq_eq_false_iff_ne.2 (by omega);rw [e1];simp only [Bool.not_false, BEq.rfl, Bool.and_true, Bool.true_and];by_cases hk7 : t.kind = 7
 ·rcases h4 hk7 with h4 | ⟨a, s, u, h4, h5⟩
  ·simp [h4]
  ·obtain ⟨p, hp1, hp2⟩ := hk.2 1 (by rw [h4]; simp);have hp3 : Sub L p s := by simpa [h4] using hp2
   rw [hp1];have := zfu (LI L).length p s hp3 (by rw [jb]; have := hp3.lt; omega);show (_ || !opP (LI L) (LI L).length p) = true
   rw [this, h5]; simp
 ·have : (t.kind != 7) = true := bne_iff_ne.2 hk7;rw [this]; simp
mutual
theorem zcE : ∀ (t : Tr) (i : Nat), okT t → i < (zp t).length → ∃ u, Sub (zp t) i u ∧ okT u
 | .node k x b kids, i, o, h => by
  cases i with
  | zero => exact ⟨_, Sub.self _, o⟩
  | succ i =>
   rw [zp, List.length_cons] at h;rw [okT] at o;obtain ⟨u, ⟨A, B, h1, h2⟩, h3⟩ := zbL kids i o.2 (by omega);exact ⟨u, ⟨_ :: A, B, by rw [zp, h1]; rfl, by rw [List.length_cons, h2]⟩, h3⟩
theorem zbL : ∀ (l : List Tr) (i : Nat), uR l → i < (zs l).length → ∃ u, Sub (zs l) i u ∧ okT u
 | [], i, _, h => by simp [zs] at h
 | t :: l, i, o, h => by
  rw [zs, List.length_append] at h;rw [uR] at o;by_cases hi : i < (zp t).length
  ·obtain ⟨u, ⟨A, B, h1, h2⟩, h3⟩ := zcE t i o.1 hi;exact ⟨u, ⟨A, B ++ zs l, by rw [zs, h1]; simp [List.append_assoc], h2⟩, h3⟩
  ·obtain ⟨u, ⟨A, B, h1, h2⟩, h3⟩ := zbL l (i - (zp t).length) o.2 (by omega);exact ⟨u, ⟨zp t ++ A, B, by rw [zs, h1]; simp [List.append_assoc], by rw [List.length_append, h2]; omega⟩, h3⟩
end
theorem zhO {t : Tr} (o : okT t) (i : Nat) (h : i < (LI (zp t)).length) : zeS (LI (zp t)) i ((LI (zp t))[i]'h) = true := by
 have h' : i < (zp t).length := by rw [jb] at h; exact h
 obtain ⟨u, hs, ho⟩ := zcE t i o h';have := zlj hs (zdM ho);have e : (LI (zp t))[i]'h = LN.i ⟨u.kind, u.kids.length, (zs u.kids).length + 1, u.text, u.bits⟩ := by
  have h2 := hs.at;rw [List.getElem?_eq_getElem h'] at h2;injection h2 with h2;show (List.map LN.i (zp t))[i]'(by simpa using h') = _
  rw [List.getElem_map, h2]
 rw [e]; exact this
theorem ziZ {t : Tr} (h : ExF t) : t.kind ∈ ([21, 22, 27, 23, 24, 25, 26, 28, 29, 31, 32, 33, 34, 35, 36, 37, 38, 39, 40, 41, 42] : List Int) := by
 cases h <;> simp only [nd, Tr.kind] <;> first | decide | skip
 ·rename_i hk; rcases hk with rfl | rfl <;> decide
 ·rename_i hk; rcases hk with rfl | rfl | rfl | rfl <;> decide
 ·rename_i hk _ _ _; rw [hk]; split <;> decide
theorem zff {t : Tr} (h : ExF t) : ys (zl t.kind) 4 = true ∧ ys (zl t.kind) 32 = true := by
 have h1 := ziZ h;have h2 : ∀ k ∈ ([21, 22, 27, 23, 24, 25, 26, 28, 29, 31, 32, 33, 34, 35, 36, 37, 38, 39, 40, 41, 42] : List Int), ys (zl k) 4 = true ∧ ys (zl k) 32 = true := by decide
 exact h2 _ h1
theorem zfg {t : Tr} (h : yT t = true) : ys (zl t.kind) 8 = true := by
 unfold yT at h;simp only [Bool.or_eq_true, beq_iff_eq] at h;rcases h with (h | h) | h <;> rw [h] <;> decide
theorem zi0 {t : Tr} (h : Sm t) : t.kind ∈ ([2, 3, 5, 6, 7, 8, 9, 10, 11, 12, 13, 14, 15] : List Int) := by
 cases h <;> simp only [nd, Tr.kind] <;> decide
theorem qS {t : Tr} (h : Sm t) : ys (zl t.kind) 2 = true ∧ ys (zl t.kind) 1 = true := by
 have h1 := zi0 h;have h2 : ∀ k ∈ ([2, 3, 5, 6, 7, 8, 9, 10, 11, 12, 13, 14, 15] : List Int), ys (zl k) 2 = true ∧ ys (zl k) 1 = true := by decide
 exact h2 _ h1
theorem zfh {t : Tr} (h : El t) : ys (zl t.kind) 1 = true := by
 cases h with
 | st _ h => exact (qS h).2
 | named x hx ps bd h => show ys (zl 18) 1 = true; decide
theorem uo {l : List Tr} {r : Int} (h : ∀ t ∈ l, ys (zl t.kind) r = true) : yt (l.map fun t => zl t.kind) r = true := by
 unfold yt; rw [List.all_eq_true]; intro k hk
 obtain ⟨t, ht, rfl⟩ := List.mem_map.1 hk;exact h t ht
theorem zi1 {q : List UInt8} (h : 1 ≤ yj q) : (yj q ≤ 2 → jg.contains q = true) ∧ (¬ yj q ≤ 2 → jf.contains q = true) := by
 have h1 := zb5 h;have h2 : ∀ q ∈ q6.map Prod.fst, (yj q ≤ 2 → jg.contains q = true) ∧ (¬ yj q ≤ 2 → jf.contains q = true) := by decide
 exact h2 q h1
theorem zmC {u : Nat} (h : u ≤ 9007199254740992) : ue 21 (ofI u) = true := by
 obtain ⟨h1, h2⟩ : Bt.wholeB (ofI u) = true ∧ Bt.wholeV (ofI u) = u := Bt.of_whole (by omega) (by omega);unfold ue;rw [if_pos rfl, h1, h2];simp
theorem xz {k : Int} {x : List UInt8} {b : Int} {l : List Tr} (h : mbN k x b l) (g : ∀ t ∈ l, okT t) : okT (.node k x b l) := by rw [okT]; exact ⟨h, zft g⟩
theorem zkq : ∀ (n : Nat) (t : Tr), (zp t).length < n → gdN t → (ExF t → okT t) ∧ (Sm t → okT t) ∧ (El t → okT t)
  | 0, _, h, _ => absurd h (Nat.not_lt_zero _)
  | n + 1, t, hn, hg => by
    have IH : ∀ u, (zp u).length < (zp t).length → gdN u → (ExF u → okT u) ∧ (Sm u → okT u) ∧ (El u → okT u) := fun u hu hg => zkq n u (by omega) hg
    have gk : ∀ {k x b l} {u : Tr}, gdN (.node k x b l) → u ∈ l → gdN u := fun h hu => zby (zai _ h) _ hu
    have gh : ∀ {k x b l}, gdN (.node k x b l) → gdK k x b := fun h => by rw [gdN] at h; exact h.1
    have blk : ∀ (l : List Tr), (∀ u ∈ l, Sm u) → (∀ u ∈ l, okT u) → okT (nd 2 [] l) := fun l hs h => xz ⟨rfl, rfl, uo fun t ht => (qS (hs t ht)).1, fun e => absurd e (by decide)⟩ h
    have bod : ∀ (l : List Tr), (∀ u ∈ l, El u) → (∀ u ∈ l, okT u) → okT (nd 20 [] l) := fun l hs h => xz ⟨rfl, rfl, uo fun t ht => zfh (hs t ht), fun e => absurd e (by decide)⟩ h
    have one : ∀ {k : Int} {x : List UInt8} {b : Int} {a : Tr}, mbN k x b [a] → okT a → okT (.node k x b [a]) := fun h g => xz h fun t ht => by
      rw [List.mem_singleton] at ht; subst ht; exact g
    have two : ∀ {k : Int} {x : List UInt8} {b : Int} {a c : Tr}, mbN k x b [a, c] → okT a → okT c → okT (.node k x b [a, c]) := fun h g i => xz h fun t ht => by
      simp only [List.mem_cons, List.not_mem_nil, or_false] at ht;rcases ht with rfl | rfl
      · exact g
      · exact i
    have vR : ∀ {k : Int} {x : List UInt8} {b : Int} {a c d : Tr}, mbN k x b [a, c, d] → okT a → okT c → okT d → okT (.node k x b [a, c, d]) := fun h g i j => xz h fun t ht => by
      simp only [List.mem_cons, List.not_mem_nil, or_false] at ht;rcases ht with rfl | rfl | rfl
      · exact g
      · exact i
      · exact j
    have four : ∀ {a c d s : Tr}, mbN 10 [] 0 [a, c, d, s] → okT a → okT c → okT d → okT s → okT (nd 10 [] [a, c, d, s]) := fun h g i j l => xz h fun t ht => by
      simp only [List.mem_cons, List.not_mem_nil, or_false] at ht;rcases ht with rfl | rfl | rfl | rfl
      · exact g
      · exact i
      · exact j
      · exact l
    have par : ∀ (p : List UInt8), gdN (nd 19 p []) → okT (nd 19 p []) := fun p h => xz ⟨by have := (gh h).2.2.1 (by decide); unfold yB; simpa using this, rfl, rfl, fun e => absurd e (by decide)⟩ fun t ht => by cases ht
    have fn : ∀ (k : Int) (hk : k = 18 ∨ k = 31) (x : List UInt8) (ps : List (List UInt8)) (bd : List Tr), gdN (nd k x (yJ ps bd)) → yB k x = true → (∀ u ∈ bd, El u) → (∀ u ∈ bd, okT u) → okT (nd k x (yJ ps bd)) := fun k hk x ps bd hgd hx he h => xz ⟨hx, by rcases hk with rfl | rfl <;> rfl, by
        have e : ((yJ ps bd).map fun t => zl t.kind) = (ps.map fun _ => (1024 : Int)) ++ [2048] := by
          unfold yJ; rw [List.map_append, List.map_map]; rfl
        rw [e];have e1 : ((ps.map fun _ => (1024 : Int)) ++ [2048]).isEmpty = false := by cases ps <;> rfl
        have e2 : ((ps.map fun _ => (1024 : Int)) ++ [2048]).length - 1 = (ps.map fun _ => (1024 : Int)).length := by simp
        have e3 : yt (ps.map fun _ => (1024 : Int)) 1024 = true := by
          unfold yt; rw [List.all_eq_true]; intro z hz; obtain ⟨_, _, rfl⟩ := List.mem_map.1 hz; rfl
        unfold zP;rw [e1, e2, List.take_left, List.drop_left, e3];rcases hk with rfl | rfl <;> rfl, fun e => by rcases hk with rfl | rfl <;> exact absurd e (by decide)⟩ fun t ht => by
      have htg := gk hgd ht;unfold yJ at ht;rcases List.mem_append.1 ht with ht | ht
      · obtain ⟨p, hp, rfl⟩ := List.mem_map.1 ht;exact par p htg
      · rw [List.mem_singleton] at ht; subst ht;exact bod bd he h
    have ep : okT (nd 5 [] []) := xz ⟨rfl, rfl, rfl, fun e => absurd e (by decide)⟩ fun t ht => by cases ht
    have r4 := fun {u : Tr} (h : ExF u) => (zff h).1
    have m1 : ∀ {k : Int} {a : Tr}, (zP k [zl a.kind] = zw [zl a.kind] [4]) → ExF a → zP k [zl a.kind] = true := fun e h => by rw [e]; simp [zw, r4 h]
    have m2 : ∀ {k : Int} {a c : Tr}, (zP k [zl a.kind, zl c.kind] = zw [zl a.kind, zl c.kind] [4, 4]) → ExF a → ExF c → zP k [zl a.kind, zl c.kind] = true := fun e h g => by rw [e]; simp [zw, r4 h, r4 g]
    have hE : ExF t → okT t := fun h => by
      cases h with
      | num b =>
        obtain ⟨u, hu, rfl⟩ := (gh hg).1 rfl;exact xz ⟨rfl, zmC hu, rfl, fun e => absurd e (by decide)⟩ fun t ht => by cases ht
      | tok k x hk => exact xz ⟨by
          rcases hk with rfl | rfl
          · have := (gh hg).2.1 (.inl rfl); unfold yB; simp [this]
          · have := (gh hg).2.2.1 (by decide); unfold yB; simpa using this, by rcases hk with rfl | rfl <;> rfl, by rcases hk with rfl | rfl <;> rfl, fun e => by rcases hk with rfl | rfl <;> exact absurd e (by decide)⟩ fun t ht => by cases ht
      | wrd k hk => exact xz ⟨by rcases hk with rfl | rfl | rfl | rfl <;> rfl, by rcases hk with rfl | rfl | rfl | rfl <;> rfl, by rcases hk with rfl | rfl | rfl | rfl <;> rfl, fun e => by rcases hk with rfl | rfl | rfl | rfl <;> exact absurd e (by decide)⟩ fun t ht => by cases ht
      | arr l h => exact xz ⟨rfl, rfl, uo fun u hu => r4 (h u hu), fun e => absurd e (by decide)⟩ fun u hu => (IH u (zk hu) (gk hg hu)).1 (h u hu)
      | obj l h =>
        refine xz ⟨rfl, rfl, uo fun u hu => ?_, fun e => absurd e (by decide)⟩ fun u hu => ?_
        · obtain ⟨p, hp, rfl⟩ := List.mem_map.1 hu; show ys (zl 30) 4096 = true; decide
        · have hgu := gk hg hu;obtain ⟨p, hp, rfl⟩ := List.mem_map.1 hu;refine one ⟨by have := (gh hgu).2.1 (.inr rfl); unfold yB; simp [this], rfl, m1 rfl (h p hp), fun e => absurd e (by decide)⟩ ((IH p.2 (Nat.lt_trans (zk (k := 30) (x := p.1) (b := 0) (kids := [p.2]) (by simp)) (zk hu)) (gk hgu (by simp))).1 (h p hp))
      | fn x ps bd h =>
        refine fn 31 (.inr rfl) x ps bd hg ?_ h fun u hu => (IH u (Nat.lt_trans (zk (k := 20) (x := []) (b := 0) (kids := bd) hu) (zk (by simp [yJ]))) (gk (gk hg (u := nd 20 [] bd) (by simp [yJ])) hu)).2.2 (h u hu)
        rcases (gh hg).2.2.2.1 rfl with rfl | hx
        · rfl
        · unfold yB; simp [hx]
      | dot x a h => exact one ⟨by have := (gh hg).2.2.2.2 rfl; unfold yB; simpa using this, rfl, m1 rfl h, fun e => absurd e (by decide)⟩ ((IH a (zk (by simp)) (gk hg (by simp))).1 h)
      | idx a c h g => exact two ⟨rfl, rfl, m2 rfl h g, fun e => absurd e (by decide)⟩ ((IH a (zk (by simp)) (gk hg (by simp))).1 h) ((IH c (zk (by simp)) (gk hg (by simp))).1 g)
      | call a l h g => exact xz ⟨rfl, rfl, uo (r := 4) (l := a :: l) fun u hu => (List.mem_cons.1 hu).elim (fun e => by subst e; exact r4 h) fun hl => r4 (g u hl), fun e => absurd e (by decide)⟩ fun u hu => (List.mem_cons.1 hu).elim (fun e => by subst e; exact (IH u (zk (by simp)) (gk hg (by simp))).1 h) fun hl => (IH u (zk (by simp [hl])) (gk hg (by simp [hl]))).1 (g u hl)
      | new a l h g => exact xz ⟨rfl, rfl, uo (r := 4) (l := a :: l) fun u hu => (List.mem_cons.1 hu).elim (fun e => by subst e; exact r4 h) fun hl => r4 (g u hl), fun e => absurd e (by decide)⟩ fun u hu => (List.mem_cons.1 hu).elim (fun e => by subst e; exact (IH u (zk (by simp)) (gk hg (by simp))).1 h) fun hl => (IH u (zk (by simp [hl])) (gk hg (by simp [hl]))).1 (g u hl)
      | una p a hp h => exact one ⟨hp, rfl, m1 rfl h, fun e => absurd e (by decide)⟩ ((IH a (zk (by simp)) (gk hg (by simp))).1 h)
      | upd b p a hb hp ht h => exact one ⟨hp, by rcases hb with rfl | rfl <;> rfl, by show zw [zl a.kind] [8] = true; simp [zw, zfg ht], fun e => absurd e (by decide)⟩ ((IH a (zk (by simp)) (gk hg (by simp))).1 h)
      | bin k p a c hk hp h g =>
        have hs := zi1 hp;by_cases hl : yj p ≤ 2
        · rw [if_pos hl] at hk; subst hk;exact two ⟨hs.1 hl, rfl, m2 rfl h g, fun e => absurd e (by decide)⟩ ((IH a (zk (by simp)) (gk hg (by simp))).1 h) ((IH c (zk (by simp)) (gk hg (by simp))).1 g)
        · rw [if_neg hl] at hk; subst hk;exact two ⟨hs.2 hl, rfl, m2 rfl h g, fun e => absurd e (by decide)⟩ ((IH a (zk (by simp)) (gk hg (by simp))).1 h) ((IH c (zk (by simp)) (gk hg (by simp))).1 g)
      | cnd a c d h g i => exact vR ⟨rfl, rfl, by show zw [zl a.kind, zl c.kind, zl d.kind] [4, 4, 4] = true; simp [zw, r4 h, r4 g, r4 i], fun e => absurd e (by decide)⟩ ((IH a (zk (by simp)) (gk hg (by simp))).1 h) ((IH c (zk (by simp)) (gk hg (by simp))).1 g) ((IH d (zk (by simp)) (gk hg (by simp))).1 i)
      | asg p a c hp ht h g => exact two ⟨hp, rfl, by show zw [zl a.kind, zl c.kind] [8, 4] = true; simp [zw, zfg ht, r4 g], fun e => absurd e (by decide)⟩ ((IH a (zk (by simp)) (gk hg (by simp))).1 h) ((IH c (zk (by simp)) (gk hg (by simp))).1 g)
      | com a c h g => exact two ⟨rfl, rfl, m2 rfl h g, fun e => absurd e (by decide)⟩ ((IH a (zk (by simp)) (gk hg (by simp))).1 h) ((IH c (zk (by simp)) (gk hg (by simp))).1 g)
    have pk : ∀ {c K : List Tr}, (∀ u, (zp u).length < (zp (nd 10 [] K)).length → gdN u → ExF u → okT u) → gdN (nd 10 [] K) → qe c ∈ K → (∀ a ∈ c, ExF a) → okT (qe c) := fun {c K} IH hg hc h => by
      match c, hc, h with
      | [], _, _ => exact ep
      | [a], hc, h => exact IH a (zk hc) (gk hg hc) (h a (by simp))
      | a :: b :: l, _, _ => exact ep
    have pr : ∀ {c : List Tr}, (∀ a ∈ c, ExF a) → ys (zl (qe c).kind) 32 = true := fun {c} h => by
      match c, h with
      | [], _ => show ys (zl 5) 32 = true; decide
      | [a], h => exact (zff (h a (by simp))).2
      | a :: b :: l, _ => show ys (zl 5) 32 = true; decide
    have dec : ∀ (v : List UInt8 × List Tr), gdN (yF v) → v.2.length ≤ 1 → (∀ a ∈ v.2, ExF a) → (∀ a ∈ v.2, okT a) → okT (yF v) := fun v hg hl he h => xz ⟨by have := (gh hg).2.2.1 (by decide); unfold yB; simpa using this, rfl, by
      obtain ⟨x, l⟩ := v
      match l, hl, he with
      | [], _, _ => rfl
      | [a], _, he => exact m1 rfl (he a (by simp)), fun e => absurd e (by decide)⟩ h
    have var : ∀ (p : List UInt8 × List Tr) (l : List (List UInt8 × List Tr)), gdN (nd 3 [] ((p :: l).map yF)) → (∀ u ∈ p :: l, u.2.length ≤ 1) → (∀ u ∈ p :: l, ∀ a ∈ u.2, ExF a) → (∀ v ∈ p :: l, ∀ a ∈ v.2, okT a) → okT (nd 3 [] ((p :: l).map yF)) := fun p l hg hl he h => xz ⟨rfl, rfl, by
        have : yt (((p :: l).map yF).map fun t => zl t.kind) 128 = true := uo fun u hu => by
          obtain ⟨v, hv, rfl⟩ := List.mem_map.1 hu; show ys (zl 4) 128 = true; decide
        show (!(((p :: l).map yF).map fun t => zl t.kind).isEmpty && yt (((p :: l).map yF).map fun t => zl t.kind) 128) = true
        rw [this]; rfl, fun e => absurd e (by decide)⟩ fun u hu => by
      have hgu := gk hg hu;obtain ⟨v, hv, rfl⟩ := List.mem_map.1 hu;exact dec v hgu (hl v hv) (he v hv) (h v hv)
    have hS : Sm t → okT t := fun h => by
      cases h with
      | blk l h => exact blk l h fun u hu => (IH u (zk hu) (gk hg hu)).2.1 (h u hu)
      | var p l hl h => exact var p l hg hl h fun v hv a ha => (IH a (zG (zk (k := 4) (x := v.1) (b := 0) ha) (List.mem_map_of_mem (f := yF) hv)) (gk (gk hg (List.mem_map_of_mem (f := yF) hv)) ha)).1 (h v hv a ha)
      | emp => exact ep
      | exp a h => exact one ⟨rfl, rfl, m1 rfl h, fun e => absurd e (by decide)⟩ ((IH a (zk (by simp)) (gk hg (by simp))).1 h)
      | if2 a s h g => exact two ⟨rfl, rfl, by show zw [zl a.kind, zl s.kind] [4, 2] = true; simp [zw, r4 h, (qS g).1], fun e => .inl rfl⟩ ((IH a (zk (by simp)) (gk hg (by simp))).1 h) ((IH s (zk (by simp)) (gk hg (by simp))).2.1 g)
      | if3 a s u h g hs i => exact vR ⟨rfl, rfl, by show zw [zl a.kind, zl s.kind, zl u.kind] [4, 2, 2] = true; simp [zw, r4 h, (qS g).1, (qS i).1], fun e => .inr ⟨a, s, u, rfl, hs⟩⟩ ((IH a (zk (by simp)) (gk hg (by simp))).1 h) ((IH s (zk (by simp)) (gk hg (by simp))).2.1 g) ((IH u (zk (by simp)) (gk hg (by simp))).2.1 i)
      | whl a s h g => exact two ⟨rfl, rfl, by show zw [zl a.kind, zl s.kind] [4, 2] = true; simp [zw, r4 h, (qS g).1], fun e => absurd e (by decide)⟩ ((IH a (zk (by simp)) (gk hg (by simp))).1 h) ((IH s (zk (by simp)) (gk hg (by simp))).2.1 g)
      | doW s a g h => exact two ⟨rfl, rfl, by show zw [zl s.kind, zl a.kind] [2, 4] = true; simp [zw, r4 h, (qS g).1], fun e => absurd e (by decide)⟩ ((IH s (zk (by simp)) (gk hg (by simp))).2.1 g) ((IH a (zk (by simp)) (gk hg (by simp))).1 h)
      | forV p l hl h c d hc hd s g => exact four ⟨rfl, rfl, by show zw [19, zl (qe c).kind, zl (qe d).kind, zl s.kind] [16, 32, 32, 2] = true; simp [zw, pr hc, pr hd, (qS g).1]; decide, fun e => absurd e (by decide)⟩ (var p l (gk hg (by simp)) hl h fun v hv a ha => (IH a (zG (zG (k := 3) (x := []) (b := 0) (zk (k := 4) (x := v.1) (b := 0) ha) (List.mem_map_of_mem (f := yF) hv)) (by simp)) (gk (gk (gk hg (u := nd 3 [] ((p :: l).map yF)) (by simp)) (List.mem_map_of_mem (f := yF) hv)) ha)).1 (h v hv a ha)) (pk (fun u hu hg => (IH u hu hg).1) hg (by simp) hc) (pk (fun u hu hg => (IH u hu hg).1) hg (by simp) hd) ((IH s (zk (by simp)) (gk hg (by simp))).2.1 g)
      | forE a h c d hc hd s g => exact four ⟨rfl, rfl, by show zw [19, zl (qe c).kind, zl (qe d).kind, zl s.kind] [16, 32, 32, 2] = true; simp [zw, pr hc, pr hd, (qS g).1]; decide, fun e => absurd e (by decide)⟩ (one ⟨rfl, rfl, m1 rfl h, fun e => absurd e (by decide)⟩ ((IH a (zG (zk (k := 6) (x := []) (b := 0) (kids := [a]) (by simp)) (by simp)) (gk (gk hg (u := nd 6 [] [a]) (by simp)) (by simp))).1 h)) (pk (fun u hu hg => (IH u hu hg).1) hg (by simp) hc) (pk (fun u hu hg => (IH u hu hg).1) hg (by simp) hd) ((IH s (zk (by simp)) (gk hg (by simp))).2.1 g)
      | forN c d hc hd s g => exact four ⟨rfl, rfl, by show zw [51, zl (qe c).kind, zl (qe d).kind, zl s.kind] [16, 32, 32, 2] = true; simp [zw, pr hc, pr hd, (qS g).1]; decide, fun e => absurd e (by decide)⟩ ep (pk (fun u hu hg => (IH u hu hg).1) hg (by simp) hc) (pk (fun u hu hg => (IH u hu hg).1) hg (by simp) hd) ((IH s (zk (by simp)) (gk hg (by simp))).2.1 g)
      | brk => exact xz ⟨rfl, rfl, rfl, fun e => absurd e (by decide)⟩ fun t ht => by cases ht
      | con => exact xz ⟨rfl, rfl, rfl, fun e => absurd e (by decide)⟩ fun t ht => by cases ht
      | ret0 => exact xz ⟨rfl, rfl, rfl, fun e => absurd e (by decide)⟩ fun t ht => by cases ht
      | ret1 a h => exact one ⟨rfl, rfl, m1 rfl h, fun e => absurd e (by decide)⟩ ((IH a (zk (by simp)) (gk hg (by simp))).1 h)
      | thr a h => exact one ⟨rfl, rfl, m1 rfl h, fun e => absurd e (by decide)⟩ ((IH a (zk (by simp)) (gk hg (by simp))).1 h)
      | tryC a x b h g =>
        have b1 : okT (nd 2 [] a) := blk a h fun u hu => (IH u (zG (zk (k := 2) (x := []) (b := 0) hu) (by simp)) (gk (gk hg (u := nd 2 [] a) (by simp)) hu)).2.1 (h u hu)
        have g2 := gk hg (u := nd 16 x [nd 2 [] b]) (by simp);have b2 : okT (nd 2 [] b) := blk b g fun u hu => (IH u (zG (zG (k := 16) (x := x) (b := 0) (zk (k := 2) (x := []) (b := 0) hu) (List.mem_singleton.2 rfl : nd 2 [] b ∈ [nd 2 [] b])) (by simp)) (gk (gk g2 (u := nd 2 [] b) (by simp)) hu)).2.1 (g u hu)
        exact two ⟨rfl, rfl, (by show (zw [67, 256] [64, 768] || zw [67, 256] [64, 256, 512]) = true; decide), fun e => absurd e (by decide)⟩ b1 (one ⟨by have := (gh g2).2.2.1 (by decide); unfold yB; simpa using this, rfl, (by show zw [67] [64] = true; decide), fun e => absurd e (by decide)⟩ b2)
      | tryF a c h g =>
        have b1 : okT (nd 2 [] a) := blk a h fun u hu => (IH u (zG (zk (k := 2) (x := []) (b := 0) hu) (by simp)) (gk (gk hg (u := nd 2 [] a) (by simp)) hu)).2.1 (h u hu)
        have g2 := gk hg (u := nd 17 [] [nd 2 [] c]) (by simp);have b2 : okT (nd 2 [] c) := blk c g fun u hu => (IH u (zG (zG (k := 17) (x := []) (b := 0) (zk (k := 2) (x := []) (b := 0) hu) (List.mem_singleton.2 rfl : nd 2 [] c ∈ [nd 2 [] c])) (by simp)) (gk (gk g2 (u := nd 2 [] c) (by simp)) hu)).2.1 (g u hu)
        exact two ⟨rfl, rfl, (by show (zw [67, 512] [64, 768] || zw [67, 512] [64, 256, 512]) = true; decide), fun e => absurd e (by decide)⟩ b1 (one ⟨rfl, rfl, (by show zw [67] [64] = true; decide), fun e => absurd e (by decide)⟩ b2)
      | tryB a x b c h g i =>
        have b1 : okT (nd 2 [] a) := blk a h fun u hu => (IH u (zG (zk (k := 2) (x := []) (b := 0) hu) (by simp)) (gk (gk hg (u := nd 2 [] a) (by simp)) hu)).2.1 (h u hu)
        have g2 := gk hg (u := nd 16 x [nd 2 [] b]) (by simp);have b2 : okT (nd 2 [] b) := blk b g fun u hu => (IH u (zG (zG (k := 16) (x := x) (b := 0) (zk (k := 2) (x := []) (b := 0) hu) (List.mem_singleton.2 rfl : nd 2 [] b ∈ [nd 2 [] b])) (by simp)) (gk (gk g2 (u := nd 2 [] b) (by simp)) hu)).2.1 (g u hu)
        have g3 := gk hg (u := nd 17 [] [nd 2 [] c]) (by simp);have b3 : okT (nd 2 [] c) := blk c i fun u hu => (IH u (zG (zG (k := 17) (x := []) (b := 0) (zk (k := 2) (x := []) (b := 0) hu) (List.mem_singleton.2 rfl : nd 2 [] c ∈ [nd 2 [] c])) (by simp)) (gk (gk g3 (u := nd 2 [] c) (by simp)) hu)).2.1 (i u hu)
        exact vR ⟨rfl, rfl, (by show (zw [67, 256, 512] [64, 768] || zw [67, 256, 512] [64, 256, 512]) = true; decide), fun e => absurd e (by decide)⟩ b1 (one ⟨by have := (gh g2).2.2.1 (by decide); unfold yB; simpa using this, rfl, (by show zw [67] [64] = true; decide), fun e => absurd e (by decide)⟩ b2) (one ⟨rfl, rfl, (by show zw [67] [64] = true; decide), fun e => absurd e (by decide)⟩ b3)
    refine ⟨hE, hS, fun h => ?_⟩;cases h with
    | st _ h => exact hS h
    | named x hx ps bd h =>
      refine fn 18 (.inl rfl) x ps bd hg ?_ h fun u hu => (IH u (zG (zk (k := 20) (x := []) (b := 0) hu) (by simp [yJ])) (gk (gk hg (u := nd 20 [] bd) (by simp [yJ])) hu)).2.2 (h u hu)
      have := (gh hg).2.2.1 (by decide); unfold yB; simpa using this
theorem zkY {kids : List Tr} (h : ∀ u ∈ kids, El u) (g : ∀ u ∈ kids, gdN u) : okT (nd 1 [] kids) :=
 xz ⟨rfl, rfl, uo fun t ht => zfh (h t ht), fun e => absurd e (by decide)⟩ fun u hu => (zkq _ u (Nat.lt_succ_self _) (g u hu)).2.2 (h u hu)
end Go.Proofs.YtfcgpphodacdmaaGreatDoor
