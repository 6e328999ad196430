/- Parse: a source's tree, or where there is none. -/
import Derived.Test.YtnkfodelgpidkaaGreatDoorKd
import Derived.Test.YtnkfodelgpidkaaGreatDoorLe
import Derived.Test.YtnkfodelgpidkaaGreatDoorSz
import Derived.Defers
import Derived.Recover
import Derived.RegionTactic
namespace Go.Proofs.YtnkfodelgpidkaaGreatDoor
open Go.RowKit
set_option linter.unusedVariables false
set_option linter.unusedSimpArgs false

set_option maxRecDepth 100000 in
set_option maxHeartbeats 1000000 in
theorem scatch_idle (pl pa pe : Nat) (w : World) :
    CallsD Tryz.prog 25 #[.pointer (some ⟨pl, 0, none⟩), .pointer (some ⟨pa, 0, none⟩), .pointer (some ⟨pe, 0, none⟩)] .returning w fun e u' w' =>
      e = .returned (.tuple #[]) ∧ u' = .returning ∧ w' = w := by
  refine callsD_of_wpS Tryz.func25 rfl fun c₀ cs hu => ?_
  rw [show ((#[.pointer (some ⟨pl, 0, none⟩), .pointer (some ⟨pa, 0, none⟩), .pointer (some ⟨pe, 0, none⟩)] : Array Value) ++ Array.replicate (Tryz.f25.ntmps - (#[.pointer (some ⟨pl, 0, none⟩), .pointer (some ⟨pa, 0, none⟩), .pointer (some ⟨pe, 0, none⟩)] : Array Value).size) undef) = #[.pointer (some ⟨pl, 0, none⟩), .pointer (some ⟨pa, 0, none⟩), .pointer (some ⟨pe, 0, none⟩), undef, undef, undef, undef, undef, undef, undef, undef, undef, undef, undef] from rfl]
  apply wpS_seq
  apply wpS_region
  simp [wpOpsS, go_sem, recoverD, hu, Exit.thenS]
  have hq : ∀ w, (binOp .eql 20 .nilIface .nilIface).run Tryz.prog w = .ok (.bool true) w := fun _ => rfl
  refine wpS_of_wp ?_
  go_wp2_with fail
  refine ⟨rfl, .returning, ?_, _, results_none rfl _ _ _, rfl, rfl, rfl⟩
  rw [← hu]

set_option maxRecDepth 100000 in
set_option maxHeartbeats 1000000 in
theorem scatch_fault (N : Nat) (x0 x1 x2 : Value) (a : Int) (w : World) (h0 : B1 w N 22 x0) (h1 : B1 w (N + 1) 3 x1) (h2 : B1 w (N + 2) 23 x2) :
    CallsD Tryz.prog 25 #[.pointer (some ⟨N, 0, none⟩), .pointer (some ⟨N + 1, 0, none⟩), .pointer (some ⟨N + 2, 0, none⟩)] (.panicking [{ v := .iface 56 (.agg #[.int .i64 a]), recovered := false }]) w fun e u' w' =>
      e = .returned (.tuple #[]) ∧ u' = .panicking [{ v := .iface 56 (.agg #[.int .i64 a]), recovered := true }] ∧
        B1 w' N 22 (.slice none 0 0) ∧ B1 w' (N + 1) 3 (.int .i64 a) ∧ B1 w' (N + 2) 23 (.int .i64 7) ∧ Below N w w' := by
  have H0 := Lib.hid h0
  have H1 := Lib.hid h1
  have H2 := Lib.hid h2
  have hlt := h2.lt
  clear h0 h1 h2
  refine callsD_of_wpS Tryz.func25 rfl fun c₀ cs hu => ?_
  rw [show ((#[.pointer (some ⟨N, 0, none⟩), .pointer (some ⟨N + 1, 0, none⟩), .pointer (some ⟨N + 2, 0, none⟩)] : Array Value) ++ Array.replicate (Tryz.f25.ntmps - (#[.pointer (some ⟨N, 0, none⟩), .pointer (some ⟨N + 1, 0, none⟩), .pointer (some ⟨N + 2, 0, none⟩)] : Array Value).size) undef) = #[.pointer (some ⟨N, 0, none⟩), .pointer (some ⟨N + 1, 0, none⟩), .pointer (some ⟨N + 2, 0, none⟩), undef, undef, undef, undef, undef, undef, undef, undef, undef, undef, undef] from rfl]
  apply wpS_seq
  apply wpS_region
  simp [wpOpsS, go_sem, recoverD, hu, Exit.thenS]
  have hq : ∀ w, (binOp .eql 20 (.iface 56 (.agg #[.int .i64 a])) .nilIface).run Tryz.prog w = .ok (.bool false) w := fun _ => rfl
  have hta : ∀ w, (Instr.typeAssert (.iface 56 (.agg #[.int .i64 a])) 20 56 true).run Tryz.prog w = .ok (.tuple #[.agg #[.int .i64 a], .bool true]) w := fun _ => by kernel_rfl
  have HU := Lib.hid hu
  clear hu
  refine wpS_of_wp ?_
  go_wp2_with fail
  obtain ⟨wq, hwq⟩ : ∃ wq, wq = (w.alloc (.cells #[.int .i64 a] 56)) := ⟨_, rfl⟩
  rw [← hwq]
  have Q0 := Lib.hid (hwq ▸ (H0.out.alloc _))
  have Q1 := Lib.hid (hwq ▸ (H1.out.alloc _))
  have Q2 := Lib.hid (hwq ▸ (H2.out.alloc _))
  have QB : Hid (Below N w wq) := hwq ▸ ((Below.refl N w).alloc (by omega) _)
  have g0 : wq.cell? ⟨w.heap.size, 0, none⟩ = some (.int .i64 a) := by rw [hwq]; simp [go_sem]
  clear hwq hq hta
  have a0 := Q0.out.c
  have a1 := Q1.out.c
  have a2 := Q2.out.c
  have z0 := Q0.out.fz
  have z1 := Q1.out.fz
  have z2 := Q2.out.fz
  have n0 : ¬ w.heap.size = N := by omega
  have n1 : ¬ w.heap.size = N + 1 := by omega
  have n2 : ¬ w.heap.size = N + 2 := by omega
  go_region
  have e01 : N ≠ N + 1 := by omega
  have e02 : N ≠ N + 2 := by omega
  have e12 : N + 1 ≠ N + 2 := by omega
  refine ⟨rfl, _, rfl, _, results_none rfl _ _ _, rfl, rfl, ?_, ?_, ?_, ?_⟩
  · exact (((Q0.out.s _).far (p := ⟨N + 1, 0, none⟩) e01 _).far (p := ⟨N + 2, 0, none⟩) e02 _).drew
  · exact (((Q1.out.far (p := ⟨N, 0, none⟩) e01.symm _).s _).far (p := ⟨N + 2, 0, none⟩) e12 _).drew
  · exact (((Q2.out.far (p := ⟨N, 0, none⟩) e02.symm _).far (p := ⟨N + 1, 0, none⟩) e12.symm _).s _).drew
  · exact (((QB.out.setCell (p := ⟨N, 0, none⟩) (Nat.le_refl _) _).setCell (p := ⟨N + 1, 0, none⟩) (by simp) _).setCell (p := ⟨N + 2, 0, none⟩) (by simp) _).drew


theorem sface_res {wf : World} {N : Nat} {v0 v1 v2 : Value} (h0 : B1 wf N 22 v0) (h1 : B1 wf (N + 1) 3 v1) (h2 : B1 wf (N + 2) 23 v2) (tmps : Array Value) (t0 : tmps[2]?.getD undef = .pointer (some ⟨N, 0, none⟩)) (t1 : tmps[3]?.getD undef = .pointer (some ⟨N + 1, 0, none⟩)) (t2 : tmps[4]?.getD undef = .pointer (some ⟨N + 2, 0, none⟩)) :
    (results Tryz.f11 tmps).run Tryz.prog wf = .ok (.tuple #[v0, v1, v2]) wf := by
  have e0 := h0.c
  have e1 := h1.c
  have e2 := h2.c
  simp [results, Tryz.results11, go_sem, t0, t1, t2, e0, e1, e2]
theorem sthree (w : World) (x0 x1 x2 : Value) :
    B1 (((w.alloc (.cells #[x0] 22)).alloc (.cells #[x1] 3)).alloc (.cells #[x2] 23)) w.heap.size 22 x0 ∧
    B1 (((w.alloc (.cells #[x0] 22)).alloc (.cells #[x1] 3)).alloc (.cells #[x2] 23)) (w.heap.size + 1) 3 x1 ∧
    B1 (((w.alloc (.cells #[x0] 22)).alloc (.cells #[x1] 3)).alloc (.cells #[x2] 23)) (w.heap.size + 2) 23 x2 ∧
    Below w.heap.size w (((w.alloc (.cells #[x0] 22)).alloc (.cells #[x1] 3)).alloc (.cells #[x2] 23)) := by
  refine ⟨((B1.new w _ x0).alloc _).alloc _, ?_, ?_, (((Below.refl _ w).alloc (Nat.le_refl _) _).alloc (by simp) _).alloc (by simp; omega) _⟩
  · have := (B1.new (w.alloc (.cells #[x0] 22)) 3 x1).alloc (.cells #[x2] 23)
    simpa using this
  · have := B1.new ((w.alloc (.cells #[x0] 22)).alloc (.cells #[x1] 3)) 23 x2
    simpa using this
theorem sput {w : World} {N : Nat} {T0 T1 T2 : TypeId} {x0 x1 x2 : Value} (P0 : B1 w N T0 x0) (P1 : B1 w (N + 1) T1 x1) (P2 : B1 w (N + 2) T2 x2) (v0 v1 v2 : Value) {M : Nat} {u : World} (hM : M ≤ N) (hb : Below M u w) :
    B1 (((w.setCell ⟨N, 0, none⟩ v0).setCell ⟨N + 1, 0, none⟩ v1).setCell ⟨N + 1 + 1, 0, none⟩ v2) N T0 v0 ∧ B1 (((w.setCell ⟨N, 0, none⟩ v0).setCell ⟨N + 1, 0, none⟩ v1).setCell ⟨N + 1 + 1, 0, none⟩ v2) (N + 1) T1 v1 ∧ B1 (((w.setCell ⟨N, 0, none⟩ v0).setCell ⟨N + 1, 0, none⟩ v1).setCell ⟨N + 1 + 1, 0, none⟩ v2) (N + 2) T2 v2 ∧ Below M u (((w.setCell ⟨N, 0, none⟩ v0).setCell ⟨N + 1, 0, none⟩ v1).setCell ⟨N + 1 + 1, 0, none⟩ v2) := by
  have e01 : N ≠ N + 1 := by omega
  have e02 : N ≠ N + 2 := by omega
  have e12 : N + 1 ≠ N + 2 := by omega
  exact ⟨((P0.s _).far (p := ⟨N + 1, 0, none⟩) e01 _).far (p := ⟨N + 2, 0, none⟩) e02 _, ((P1.far (p := ⟨N, 0, none⟩) e01.symm _).s _).far (p := ⟨N + 2, 0, none⟩) e12 _, ((P2.far (p := ⟨N, 0, none⟩) e02.symm _).far (p := ⟨N + 1, 0, none⟩) e12.symm _).s _,
    ((hb.setCell (p := ⟨N, 0, none⟩) hM _).setCell (p := ⟨N + 1, 0, none⟩) (by simp; omega) _).setCell (p := ⟨N + 1 + 1, 0, none⟩) (by simp; omega) _⟩
set_option maxRecDepth 100000 in
set_option maxHeartbeats 4000000 in
theorem parse_lex (s : ByteArray) (hs : s.size ≤ 100000) (w : World) (hm : MLw w) (a c : Int) (hx : lexL s.data.toList = .error (a, c)) :
    Calls Tryz.prog 11 #[.string s] w fun e w' => e = .returned (.tuple #[.slice none 0 0, .int .i64 a, .int .i64 c]) ∧ Below w.heap.size w w' := by
  have hce := lex_err hx
  have hc0 : ¬ c = 0 := by omega
  have hc1 : (c != 0) = true := bne_iff_ne.2 hc0
  obtain ⟨t0, t1, t2, tb⟩ := sthree w (.slice none 0 0) (.int .i64 0) (.int .i64 0)
  have HT := Lib.hid (Tokens_any s hs _ (hm.below tb))
  rw [hx] at HT
  have T0 := Lib.hid t0
  have T1 := Lib.hid t1
  have T2 := Lib.hid t2
  have TB := Lib.hid tb
  have hz : (((w.alloc (.cells #[.slice none 0 0] 22)).alloc (.cells #[.int .i64 0] 3)).alloc (.cells #[.int .i64 0] 23)).heap.size = w.heap.size + 1 + 1 + 1 := by simp
  have HZ := Lib.hid hz
  clear t0 t1 t2 tb hm hx hce hz
  go_enter_defers Tryz.func11, Tryz.ntmps11
  go_wp2_with fail
  generalize ((w.alloc (.cells #[.slice none 0 0] 22)).alloc (.cells #[.int .i64 0] 3)).alloc (.cells #[.int .i64 0] 23) = w3 at *
  refine HT.out.mono ?_; rintro e w4 hp
  obtain ⟨rfl, hB⟩ := hp
  have P0 := Lib.hid (T0.out.below hB (by rw [HZ.out]; omega))
  have P1 := Lib.hid (T1.out.below hB (by rw [HZ.out]; omega))
  have P2 := Lib.hid (T2.out.below hB (by rw [HZ.out]; omega))
  have PB := Lib.hid (below_trans TB.out hB TB.out.size)
  have a0 := P0.out.c
  have a1 := P1.out.c
  have a2 := P2.out.c
  have z0 := P0.out.fz
  have z1 := P1.out.fz
  have z2 := P2.out.fz
  have a2' : w4.cell? ⟨w.heap.size + 1 + 1, 0, none⟩ = _ := a2
  have z2' : w4.frozen? ⟨w.heap.size + 1 + 1, 0, none⟩ = _ := z2
  clear hB
  have e01 : w.heap.size ≠ w.heap.size + 1 := by omega
  have e02 : w.heap.size ≠ w.heap.size + 2 := by omega
  have e12 : w.heap.size + 1 ≠ w.heap.size + 2 := by omega
  go_wp2_with fail
  have R0 := (P0.out.far (p := ⟨w.heap.size + 1, 0, none⟩) e01 (.int .i64 a)).far (p := ⟨w.heap.size + 1 + 1, 0, none⟩) e02 (.int .i64 c)
  have R1 := (P1.out.s (.int .i64 a)).far (p := ⟨w.heap.size + 1 + 1, 0, none⟩) e12 (.int .i64 c)
  have R2 := (P2.out.far (p := ⟨w.heap.size + 1, 0, none⟩) e12.symm (.int .i64 a)).s (.int .i64 c)
  have RB := Lib.hid ((PB.out.setCell (p := ⟨w.heap.size + 1, 0, none⟩) (by simp) (.int .i64 a)).setCell (p := ⟨w.heap.size + 1 + 1, 0, none⟩) (by simp; omega) (.int .i64 c))
  clear a0 a1 a2 z0 z1 z2 a2' z2' P0 P1 P2 PB T0 T1 T2 TB HT
  generalize (w4.setCell ⟨w.heap.size + 1, 0, none⟩ (.int .i64 a)).setCell ⟨w.heap.size + 1 + 1, 0, none⟩ (.int .i64 c) = w5 at *
  have a0 := R0.c
  have a1 := R1.c
  have a2 := R2.c
  have z0 := R0.fz
  have z1 := R1.fz
  have z2 := R2.fz
  have a2' : w5.cell? ⟨w.heap.size + 1 + 1, 0, none⟩ = _ := a2
  have z2' : w5.frozen? ⟨w.heap.size + 1 + 1, 0, none⟩ = _ := z2
  have P0 := Lib.hid R0
  have P1 := Lib.hid R1
  have P2 := Lib.hid R2
  clear R0 R1 R2
  have n01 : ¬ w.heap.size = w.heap.size + 1 := by omega
  have n02 : ¬ w.heap.size = w.heap.size + 2 := by omega
  have n03 : ¬ w.heap.size = w.heap.size + 1 + 1 := by omega
  go_wp2_with fail
  go_region
  go_wp2_with fail
  obtain ⟨q0, q1, q2, qb⟩ := sput P0.out P1.out P2.out (.slice none 0 0) (.int .i64 a) (.int .i64 c) (Nat.le_refl _) RB.out
  exact ⟨_, sface_res q0.drew q1.drew q2.drew _ rfl rfl rfl, rfl, qb.drew⟩
theorem tok_new (u : World) {N : Nat} (hN : N = u.heap.size) (a b c d : Value) (T : TypeId) : ∀ j x, [a, b, c, d][j]? = some x → (u.alloc (.cells #[a, b, c, d] T)).cell? ((⟨N, 0, none⟩ : Addr).add j) = some x := by
  subst hN
  intro j x hj
  match j, hj with
  | 0, hj => simp at hj; subst hj; simp [Addr.add]
  | 1, hj => simp at hj; subst hj; simp [Addr.add]
  | 2, hj => simp at hj; subst hj; simp [Addr.add]
  | 3, hj => simp at hj; subst hj; simp [Addr.add]
/-- A reader that has just been made stands at a source's front. -/
theorem reader_in {w6 : World} {B g cap : Nat} {l : List Tk} {E : Int} (hrow : w6.ownsRow B 42 4 (.slice (some ⟨g, 0, none⟩) (l.length + 1) cap) (l.length + 1) (cellsOf (l ++ [⟨0, E, [], 0⟩])))
    (hl : l.length ≤ 5000) (hb : ∀ t ∈ l, 0 ≤ t.bits ∧ t.bits < 18446744073709551616) (ht : Bt.tab w6) :
    ∃ o, In (Cx.mk w6.heap.size g cap o l E w6) (w6.alloc (.cells #[.slice (some ⟨g, 0, none⟩) (l.length + 1) cap, .int .i64 0] 58)) 0 := by
  obtain ⟨h1, h2⟩ := hrow
  rcases h2 with ⟨h, _⟩ | ⟨g', cap', cur, hv, hg, hh, hn, hm, hz, htk⟩
  · cases h
  injection hv with hv1 _ hv2
  injection hv1 with hv1; injection hv1 with hv1 _ _
  subst hv1; subst hv2
  have hlt := lt_of_get hh
  refine ⟨_, ⟨heap_alloc_new w6 _, (Below.heap_alloc w6 _ g hlt).trans hh, Nat.zero_le _, ⟨by show w6.heap.size ≠ g; omega, hl, ?_, hb, Nat.le_refl _, ht⟩, (Below.refl _ _).alloc (Nat.le_refl _) _⟩⟩
  intro w' hw' k hk
  have hk : k ≤ l.length := hk
  have ho : w'.ownsRow 0 42 4 (.slice (some ⟨g, 0, none⟩) (l ++ [(⟨0, E, [], 0⟩ : Tk)]).length cap) (l ++ [(⟨0, E, [], 0⟩ : Tk)]).length (cellsOf (l ++ [⟨0, E, [], 0⟩])) := by
    rw [List.length_append]
    exact ⟨h1, .inr ⟨g, cap, cur, rfl, Nat.zero_le _, hw', hn, hm, hz, htk⟩⟩
  have hlen : (l ++ [(⟨0, E, [], 0⟩ : Tk)]).length = l.length + 1 := by rw [List.length_append]; rfl
  have := tok_at ho k (by omega)
  have hT : (l ++ [(⟨0, E, [], 0⟩ : Tk)])[k]'(by omega) = hd E (l.drop k) := by
    rcases Nat.lt_or_ge k l.length with h | h
    · rw [List.getElem_append_left h, List.drop_eq_getElem_cons h]; rfl
    · have e : k = l.length := by omega
      subst e
      rw [List.getElem_append_right (Nat.le_refl _), List.drop_length]
      simp [hd]
  rw [hT] at this
  exact this
/-- What tokens come to: a tree, or where there is none. -/
def Syn1 (E : Int) (l : List Tk) (r : Except (Int × Int) Tr) : Prop := ∃ q, D E .program l q ∧ match q with
  | .error p => r = .error (p, 7)
  | .ok (t, R) => R = [] ∧ r = if 60 < htT (nd 1 [] t.kids) then .error (0, 6) else .ok (nd 1 [] t.kids)
/-- What a source comes to. -/
def Out (L : List UInt8) (r : Except (Int × Int) Tr) : Prop := match lexL L with
  | .error x => r = .error x
  | .ok l => Syn1 L.length l r
/-- What comes out of Parse. -/
def TreePost (w : World) (r : Except (Int × Int) Tr) (e : Ending) (w' : World) : Prop := match r with
  | .error (a, c) => e = .returned (.tuple #[.slice none 0 0, .int .i64 a, .int .i64 c]) ∧ Below w.heap.size w w'
  | .ok t => ∃ v, e = .returned (.tuple #[v, .int .i64 0, .int .i64 0]) ∧ w'.ownsRow w.heap.size 33 5 v (layT t).length (cellsL (layT t)) ∧ (layT t).length ≤ 4097 ∧ Below w.heap.size w w'
theorem Syn1.det {E : Int} {l : List Tk} {r r' : Except (Int × Int) Tr} (h : Syn1 E l r) (h' : Syn1 E l r') : r = r' := by
  obtain ⟨q, hd, h⟩ := h
  obtain ⟨q', hd', h'⟩ := h'
  have := hd.det hd'
  subst this
  rcases q with p | ⟨t, R⟩
  · exact h.trans h'.symm
  · exact h.2.trans h'.2.symm
theorem Out.det {L : List UInt8} {r r' : Except (Int × Int) Tr} (h : Out L r) (h' : Out L r') : r = r' := by
  unfold Out at h h'
  cases hx : lexL L with
  | error x => rw [hx] at h h'; exact h.trans h'.symm
  | ok l => rw [hx] at h h'; exact Syn1.det h h'
theorem tp_err {w w' : World} {r : Except (Int × Int) Tr} {a c : Int} {e : Ending} (h : r = .error (a, c)) (he : e = .returned (.tuple #[.slice none 0 0, .int .i64 a, .int .i64 c])) (hb : Below w.heap.size w w') : TreePost w r e w' := by subst h; exact ⟨he, hb⟩
theorem tp_ok {w w' : World} {r : Except (Int × Int) Tr} {t : Tr} {v : Value} {e : Ending} (h : r = .ok t) (he : e = .returned (.tuple #[v, .int .i64 0, .int .i64 0])) (ho : w'.ownsRow w.heap.size 33 5 v (layT t).length (cellsL (layT t))) (hl : (layT t).length ≤ 4097) (hb : Below w.heap.size w w') : TreePost w r e w' := by subst h; exact ⟨v, he, ho, hl, hb⟩
set_option maxRecDepth 100000 in
set_option maxHeartbeats 4000000 in
theorem parse_good (s : ByteArray) (hs : s.size ≤ 100000) (w : World) (hm : MLw w) (ht : Bt.tab w) (l : List Tk) (hx : lexL s.data.toList = .ok l) :
    Calls Tryz.prog 11 #[.string s] w fun e w' => ∃ r, Syn1 s.size l r ∧ TreePost w r e w' := by
  have hl := (lex_lens hx).1
  have hl2 := (lex_parts hx).1
  rw [list_size'] at hl hl2
  obtain ⟨t0, t1, t2, tb⟩ := sthree w (.slice none 0 0) (.int .i64 0) (.int .i64 0)
  have HT := Lib.hid (Tokens_any s hs _ (hm.below tb))
  rw [hx] at HT
  have T0 := Lib.hid t0
  have T1 := Lib.hid t1
  have T2 := Lib.hid t2
  have TB := Lib.hid tb
  have hz : (((w.alloc (.cells #[.slice none 0 0] 22)).alloc (.cells #[.int .i64 0] 3)).alloc (.cells #[.int .i64 0] 23)).heap.size = w.heap.size + 1 + 1 + 1 := by simp
  have HZ := Lib.hid hz
  have HX := Lib.hid hx
  have HTAB := Lib.hid ht
  have HBITS := Lib.hid (fun t h => gd_bits ((lexL_parts hx).2.1 t h))
  clear ht
  clear t0 t1 t2 tb hm hx hz
  have hmf : ∀ (fn : Fn) (first cap : Array Value) (w : World), (Instr.makeFunc fn first cap).run Tryz.prog w = .ok (.func fn first cap) w := fun _ _ _ _ => rfl
  go_enter_defers Tryz.func11, Tryz.ntmps11
  go_wp2_with fail
  generalize ((w.alloc (.cells #[.slice none 0 0] 22)).alloc (.cells #[.int .i64 0] 3)).alloc (.cells #[.int .i64 0] 23) = w3 at *
  refine HT.out.mono ?_; rintro e w4 hp
  obtain ⟨v, rfl, hw, hB⟩ := hp
  obtain ⟨ao, cp, rfl⟩ := own_slice hw
  have hlt3 : w.heap.size + 2 < w3.heap.size := by rw [HZ.out]; omega
  have P0 := Lib.hid (T0.out.below hB (by omega))
  have P1 := Lib.hid (T1.out.below hB (by omega))
  have P2 := Lib.hid (T2.out.below hB (by omega))
  have PB := Lib.hid (below_trans TB.out hB TB.out.size)
  have HW := Lib.hid hw
  have hsz4 : w3.heap.size ≤ w4.heap.size := hB.size
  have a0 := P0.out.c
  have a1 := P1.out.c
  have a2 := P2.out.c
  have z0 := P0.out.fz
  have z1 := P1.out.fz
  have z2 := P2.out.fz
  have a2' : w4.cell? ⟨w.heap.size + 1 + 1, 0, none⟩ = _ := a2
  have z2' : w4.frozen? ⟨w.heap.size + 1 + 1, 0, none⟩ = _ := z2
  clear hB hw
  have e01 : w.heap.size ≠ w.heap.size + 1 := by omega
  have e02 : w.heap.size ≠ w.heap.size + 2 := by omega
  have e12 : w.heap.size + 1 ≠ w.heap.size + 2 := by omega
  have hown := own_far (own_far HW.out (p := ⟨w.heap.size + 1, 0, none⟩) (by simp; omega) (.int .i64 0)) (p := ⟨w.heap.size + 1 + 1, 0, none⟩) (by simp; omega) (.int .i64 0)
  obtain ⟨i0, hi, hz0, hz1, hz2⟩ := info_parts tinfo
  go_wp2_with (at_builtin; refine wpList_append_own _ rfl _ _ 37 rfl w3.heap.size 42 i0 _ 4 40 Tryz.underlying37 hi hz0 hz1 hz2 rfl (by decide) _ _ _ rfl (hown.alloc _) ⟨w4.heap.size, 0, none⟩ 1 1 [.int .i64 0, .int .i64 (s.size : Int), .string ⟨#[]⟩, .int .u64 0] rfl rfl ?c1 ?c2 ?c3 ?c4 ?c5 ?_)
  case c1 => exact tok_new _ (by simp) _ _ _ _ _
  case c2 => intro u hu; simp at hu; rcases hu with rfl | rfl | rfl | rfl <;> rfl
  case c3 => unfold maxLen; omega
  case c4 => omega
  case c5 => simp; omega
  intro v' w6 hown' hgrow _
  have hbel : Below w3.heap.size ((w4.setCell ⟨w.heap.size + 1, 0, none⟩ (.int .i64 0)).setCell ⟨w.heap.size + 1 + 1, 0, none⟩ (.int .i64 0)) w6 := ((Below.refl _ _).alloc (by simp; omega) _).grown hgrow (by simp; omega) (fun k hk => (hown.lt k hk).1)
  have Q0 := Lib.hid (((P0.out.far (p := ⟨w.heap.size + 1, 0, none⟩) e01 (.int .i64 0)).far (p := ⟨w.heap.size + 1 + 1, 0, none⟩) e02 (.int .i64 0)).below hbel (by omega))
  have Q1 := Lib.hid (((P1.out.s (.int .i64 0)).far (p := ⟨w.heap.size + 1 + 1, 0, none⟩) e12 (.int .i64 0)).below hbel (by omega))
  have Q2 := Lib.hid (((P2.out.far (p := ⟨w.heap.size + 1, 0, none⟩) e12.symm (.int .i64 0)).s (.int .i64 0)).below hbel (by omega))
  have QB := Lib.hid (((PB.out.setCell (p := ⟨w.heap.size + 1, 0, none⟩) (by simp) (.int .i64 0)).setCell (p := ⟨w.heap.size + 1 + 1, 0, none⟩) (by simp; omega) (.int .i64 0)).trans (hbel.mono (by omega)))
  have hc : cellsOf (l ++ [(⟨0, (s.size : Int), [], 0⟩ : Tk)]) = cellsOf l ++ [.int .i64 0, .int .i64 (s.size : Int), .string ⟨#[]⟩, .int .u64 0] := cellsOf_snoc l _
  rw [← hc] at hown'
  obtain ⟨g6, cp6, rfl, hg61, hg62⟩ := hown'.form (by omega)
  have hsz6 : w.heap.size + 2 < w6.heap.size := by have := hbel.size; simp at this; omega
  obtain ⟨o6, hin⟩ := reader_in hown' (by omega) HBITS.out (Bt.tab_below HTAB.out QB.out)
  have HIN := Lib.hid hin
  clear hin hown' hgrow hbel hown hi hz0 hz1 hz2 hc P0 P1 P2 PB a0 a1 a2 z0 z1 z2 a2' z2' HW T0 T1 T2 TB HT
  have a0 := Q0.out.c
  have a1 := Q1.out.c
  have a2 := Q2.out.c
  have z0 := Q0.out.fz
  have z1 := Q1.out.fz
  have z2 := Q2.out.fz
  have a2' : w6.cell? ⟨w.heap.size + 1 + 1, 0, none⟩ = _ := a2
  have z2' : w6.frozen? ⟨w.heap.size + 1 + 1, 0, none⟩ = _ := z2
  go_wp2_with fail
  have HSZ6 := Lib.hid hsz6
  refine (program_at _ _ HIN.out).mono ?_; rintro e w7 ⟨r, hD, hr⟩
  have hD : D (s.size : Int) .program l r := hD
  have HD := Lib.hid hD
  clear hD
  rcases r with p | ⟨t, R1⟩
  · obtain ⟨rfl, hO⟩ := hr
    have U0 := Lib.hid ((Q0.out.alloc (.cells #[.slice (some ⟨g6, 0, none⟩) (l.length + 1) cp6, .int .i64 0] 58)).off hO (by show w.heap.size ≠ w6.heap.size; omega))
    have U1 := Lib.hid ((Q1.out.alloc (.cells #[.slice (some ⟨g6, 0, none⟩) (l.length + 1) cp6, .int .i64 0] 58)).off hO (by show w.heap.size + 1 ≠ w6.heap.size; omega))
    have U2 := Lib.hid ((Q2.out.alloc (.cells #[.slice (some ⟨g6, 0, none⟩) (l.length + 1) cp6, .int .i64 0] 58)).off hO (by show w.heap.size + 2 ≠ w6.heap.size; omega))
    have UB := Lib.hid ((QB.out.alloc (by omega) (.cells #[.slice (some ⟨g6, 0, none⟩) (l.length + 1) cp6, .int .i64 0] 58)).trans (hO.toBelow (B := w.heap.size) (by show w.heap.size ≤ w6.heap.size; omega) (by simp; omega)))
    clear hO a0 a1 a2 z0 z1 z2 a2' z2' Q0 Q1 Q2 QB HIN
    unfold sflt
    go_wp2_with fail
    refine leaves_cons (f := 25) (args := #[.pointer (some ⟨w.heap.size, 0, none⟩), .pointer (some ⟨w.heap.size + 1, 0, none⟩), .pointer (some ⟨w.heap.size + 2, 0, none⟩)]) (by simp) (by simp [go_sem]) ?_
    refine (scatch_fault w.heap.size _ _ _ p _ U0.out U1.out U2.out).mono ?_
    rintro e u' w'' ⟨rfl, rfl, q0, q1, q2, qb⟩
    exact ⟨_, sface_res q0 q1 q2 _ rfl rfl rfl, _, ⟨_, HD.out, rfl⟩, tp_err rfl rfl (UB.out.trans qb)⟩
  · obtain ⟨v, rfl, rfl, hG, hT⟩ := hr
    obtain ⟨a7, rfl⟩ := hT.ptr
    have hO := hG.2
    have U0 := Lib.hid ((Q0.out.alloc (.cells #[.slice (some ⟨g6, 0, none⟩) (l.length + 1) cp6, .int .i64 0] 58)).off hO (by show w.heap.size ≠ w6.heap.size; omega))
    have U1 := Lib.hid ((Q1.out.alloc (.cells #[.slice (some ⟨g6, 0, none⟩) (l.length + 1) cp6, .int .i64 0] 58)).off hO (by show w.heap.size + 1 ≠ w6.heap.size; omega))
    have U2 := Lib.hid ((Q2.out.alloc (.cells #[.slice (some ⟨g6, 0, none⟩) (l.length + 1) cp6, .int .i64 0] 58)).off hO (by show w.heap.size + 2 ≠ w6.heap.size; omega))
    have UB := Lib.hid ((QB.out.alloc (by omega) (.cells #[.slice (some ⟨g6, 0, none⟩) (l.length + 1) cp6, .int .i64 0] 58)).trans (hO.toBelow (B := w.heap.size) (by show w.heap.size ≤ w6.heap.size; omega) (by simp; omega)))
    have hsz7 : w.heap.size + 2 < w7.heap.size := by have h := hO.size; simp at h; omega
    have hcnt := prog_cnt HD.out
    have HS1 : Hid (Syn1 (s.size : Int) l (if 60 < htT (nd 1 [] t.kids) then .error (0, 6) else .ok (nd 1 [] t.kids))) := ⟨_, HD.out, rfl, rfl⟩
    generalize nd 1 [] t.kids = T at *
    have HLA := Lib.hid (layOk T w7 _ w7.heap.size a7 hT (fun i hi => hi.2) (Nat.le_refl _) (.slice none 0 0) 0 [] (by omega) (World.ownsRow_nil _ _ _ _))
    rw [Nat.zero_add, List.nil_append] at HLA
    clear hT hG hO HD a0 a1 a2 z0 z1 z2 a2' z2' Q0 Q1 Q2 QB HIN
    go_wp2_with fail
    refine HLA.out.mono ?_; rintro e w8 ⟨row, rfl, hR8, hB8⟩
    obtain ⟨ao8, cp8, rfl⟩ := own_slice hR8
    have V0 := Lib.hid (U0.out.below hB8 (by omega))
    have V1 := Lib.hid (U1.out.below hB8 (by omega))
    have V2 := Lib.hid (U2.out.below hB8 (by omega))
    have VB := Lib.hid (UB.out.trans (hB8.mono (by omega)))
    have VW := Lib.hid hR8
    have a0 := V0.out.c
    have z0 := V0.out.fz
    clear hB8 hR8 U0 U1 U2 UB HLA
    go_wp2_with fail
    have hW := own_far VW.out (p := ⟨w.heap.size, 0, none⟩) (by show w.heap.size < _; omega) (.slice ao8 (layT T).length cp8)
    have W0 := V0.out.s (.slice ao8 (layT T).length cp8)
    have W1 := V1.out.far (p := ⟨w.heap.size, 0, none⟩) e01.symm (.slice ao8 (layT T).length cp8)
    have W2 := V2.out.far (p := ⟨w.heap.size, 0, none⟩) e02.symm (.slice ao8 (layT T).length cp8)
    have WB := VB.out.setCell (p := ⟨w.heap.size, 0, none⟩) (Nat.le_refl _) (.slice ao8 (layT T).length cp8)
    clear V0 V1 V2 VB VW a0 z0
    generalize w8.setCell ⟨w.heap.size, 0, none⟩ (.slice ao8 (layT T).length cp8) = w9 at *
    have hsz9 := W2.lt
    refine (Height_tree w9 _ T (NRow.own hW) (by omega)).mono ?_; rintro e w10 ⟨rfl, hB⟩
    have X0 := Lib.hid (W0.below hB (by omega))
    have X1 := Lib.hid (W1.below hB (by omega))
    have X2 := Lib.hid (W2.below hB (by omega))
    have XB := Lib.hid (below_trans WB hB (by omega))
    have XW := Lib.hid (own_below hW hB)
    clear hB hW W0 W1 W2 WB
    have a0 := X0.out.c
    have a1 := X1.out.c
    have a2 := X2.out.c
    have z0 := X0.out.fz
    have z1 := X1.out.fz
    have z2 := X2.out.fz
    have a2' : w10.cell? ⟨w.heap.size + 1 + 1, 0, none⟩ = _ := a2
    have z2' : w10.frozen? ⟨w.heap.size + 1 + 1, 0, none⟩ = _ := z2
    have n01 : ¬ w.heap.size = w.heap.size + 1 := by omega
    have n02 : ¬ w.heap.size = w.heap.size + 2 := by omega
    have n03 : ¬ w.heap.size = w.heap.size + 1 + 1 := by omega
    by_cases hh : 60 < htT T
    · rw [if_pos hh] at HS1
      have hh2 : (60 : Int) < ((htT T : Nat) : Int) := by omega
      generalize htT T = H at *
      go_wp2_with fail
      obtain ⟨q0, q1, q2, qb⟩ := sput X0.out X1.out X2.out (.slice none 0 0) (.int .i64 0) (.int .i64 6) (Nat.le_refl _) XB.out
      refine leaves_cons (f := 25) (args := #[.pointer (some ⟨w.heap.size, 0, none⟩), .pointer (some ⟨w.heap.size + 1, 0, none⟩), .pointer (some ⟨w.heap.size + 2, 0, none⟩)]) (by simp) (by simp [go_sem]) ?_
      refine (scatch_idle _ _ _ _).mono ?_
      rintro e u' w'' ⟨rfl, rfl, rfl⟩
      exact ⟨_, sface_res q0 q1 q2 _ rfl rfl rfl, _, HS1.out, tp_err rfl rfl qb⟩
    · rw [if_neg hh] at HS1
      have hh2 : ¬ (60 : Int) < ((htT T : Nat) : Int) := by omega
      generalize htT T = H at *
      go_wp2_with fail
      obtain ⟨q0, q1, q2, qb⟩ := sput X0.out X1.out X2.out (.slice ao8 (layT T).length cp8) (.int .i64 0) (.int .i64 0) (Nat.le_refl _) XB.out
      refine leaves_cons (f := 25) (args := #[.pointer (some ⟨w.heap.size, 0, none⟩), .pointer (some ⟨w.heap.size + 1, 0, none⟩), .pointer (some ⟨w.heap.size + 2, 0, none⟩)]) (by simp) (by simp [go_sem]) ?_
      refine (scatch_idle _ _ _ _).mono ?_
      rintro e u' w'' ⟨rfl, rfl, rfl⟩
      exact ⟨_, sface_res q0 q1 q2 _ rfl rfl rfl, _, HS1.out, tp_ok rfl rfl (own_mono (own_far (own_far (own_far XW.out (p := ⟨w.heap.size, 0, none⟩) (by show w.heap.size < _; omega) _) (p := ⟨w.heap.size + 1, 0, none⟩) (by show w.heap.size + 1 < _; omega) _) (p := ⟨w.heap.size + 1 + 1, 0, none⟩) (by show w.heap.size + 1 + 1 < _; omega) _) (by omega)) (by omega) qb⟩
/-- Parse, of any source. -/
theorem Parse_any (s : ByteArray) (hs : s.size ≤ 100000) (w : World) (hm : MLw w) (ht : Bt.tab w) : Calls Tryz.prog 11 #[.string s] w fun e w' => ∃ r, Out s.data.toList r ∧ TreePost w r e w' := by
  cases hx : lexL s.data.toList with
  | error x =>
    obtain ⟨a, c⟩ := x
    refine (parse_lex s hs w hm a c hx).mono ?_
    rintro e w' ⟨rfl, hB⟩
    exact ⟨.error (a, c), by unfold Out; rw [hx], tp_err rfl rfl hB⟩
  | ok l =>
    refine (parse_good s hs w hm ht l hx).mono ?_
    rintro e w' ⟨r, h1, h2⟩
    exact ⟨r, by unfold Out; rw [hx, list_size']; exact h1, h2⟩
end Go.Proofs.YtnkfodelgpidkaaGreatDoor
