/- SynWraps: a program may stand in a function's body. -/
import Derived.Test.YtnkfodelgpidkaaGreatDoorNb
import Derived.Test.YtnkfodelgpidkaaGreatDoorLq
namespace Go.Proofs.YtnkfodelgpidkaaGreatDoor
open Go.RowKit
set_option linter.unusedVariables false
set_option linter.unusedSimpArgs false

theorem bs_of (s : ByteArray) : bs s.data.toList = s := (bs_eq rfl).symm
theorem wrap_cat (x nm : ByteArray) : ((⟨#[102, 117, 110, 99, 116, 105, 111, 110, 32]⟩ : ByteArray) ++ nm ++ ⟨#[40, 97, 44, 32, 98, 41, 32, 123]⟩ ++ x ++ ⟨#[10, 125]⟩).data.toList = headB nm.data.toList ++ (x.data.toList ++ [10, 125]) := by
  unfold headB fnB; simp
theorem wrap_size (x nm : ByteArray) (hx : x.size ≤ 1000) (hn : nm.size ≤ 50) : ((⟨#[102, 117, 110, 99, 116, 105, 111, 110, 32]⟩ : ByteArray) ++ nm ++ ⟨#[40, 97, 44, 32, 98, 41, 32, 123]⟩ ++ x ++ ⟨#[10, 125]⟩).size ≤ 100000 := by
  simp only [ByteArray.size_append]
  have e1 : (⟨#[102, 117, 110, 99, 116, 105, 111, 110, 32]⟩ : ByteArray).size = 9 := rfl
  have e2 : (⟨#[40, 97, 44, 32, 98, 41, 32, 123]⟩ : ByteArray).size = 8 := rfl
  have e3 : (⟨#[10, 125]⟩ : ByteArray).size = 2 := rfl
  omega
theorem wrap_lay (nm : List UInt8) (k : List Tr) : layT (nd 1 [] (wrapK nm k)) = ⟨1, 1, (layTs k).length + 5, [], 0⟩ :: ⟨18, 3, (layTs k).length + 4, nm, 0⟩ :: ⟨19, 0, 1, [97], 0⟩ :: ⟨19, 0, 1, [98], 0⟩ :: ⟨20, k.length, (layTs k).length + 1, [], 0⟩ :: layTs k := by
  unfold wrapK
  simp [layT, layTs]
set_option maxRecDepth 100000 in
set_option maxHeartbeats 4000000 in
theorem law_SynWraps (s : ByteArray) (hs : s.size ≤ 9223372036854775807) (name : ByteArray) (hname : name.size ≤ 9223372036854775807) (w : World) (hm : MLw w) (ht : Bt.tab w) :
    Calls Tryz.prog 7 #[.string s, .string name] w fun e w' => e = .returned (.bool true) ∧ Below w.heap.size w w' := by
  have hza := cut_size s 1000
  have HNM := Lib.hid (lname_big name hname w)
  have WK := Lib.hid (fun w' (hb : Below w.heap.size w w') => swork_any w' (hm.below hb) (Bt.tab_below ht hb))
  have T0 := Lib.hid (fun (x : ByteArray) (hx : x.size ≤ 100000) w' (hb : Below w.heap.size w w') => Parse_any x hx w' (hm.below hb) (Bt.tab_below ht hb))
  clear hm ht
  by_cases hc : nameB name.data.toList = true ∧ name.size ≤ 50
  · obtain ⟨hc1, hc2⟩ := hc
    rw [hc1] at HNM
    have hc3 : ¬ (50 : Int) < (name.size : Int) := by omega
    have HN1 := Lib.hid hc1
    have HN2 := Lib.hid hc2
    clear hc1
    go_enter Tryz.func7, Tryz.ntmps7
    go_wp2_with fail
    refine HNM.out.mono ?_; rintro e w0 ⟨rfl, rfl⟩
    clear HNM
    go_wp2_with fail
    generalize name = nm at *
    generalize s.extract 0 (min (s.size : Int) 1000).toNat = x at *
    have hx : x.size ≤ 1000 := hza
    clear hza
    have T1 := Lib.hid (T0.out x (by omega))
    have T2 := Lib.hid (T0.out _ (wrap_size x nm hx HN2.out))
    rw [wrap_cat] at T2
    have OW := Lib.hid (fun t h => out_wrap (S := x.data.toList) (nm := nm.data.toList) (t := t) h HN1.out (by rw [list_size']; exact hx) (by rw [list_size']; exact HN2.out))
    clear T0
    refine (T1.out _ (Below.refl _ _)).mono ?_; rintro e w1 ⟨r1, h1, F1⟩
    have HB1 := Lib.hid (tp_below F1)
    rcases r1 with ⟨a1, c1⟩ | t
    · obtain ⟨rfl, _⟩ := F1
      have hc1 : (c1 != 0) = true := bne_iff_ne.2 (by have := out_err h1; omega)
      clear h1
      go_wp2_with fail
      refine (T2.out _ HB1.out).mono ?_; rintro e w2 ⟨r2, h2, F2⟩
      have HB2 := Lib.hid (below_trans HB1.out (tp_below F2) HB1.out.size)
      clear h2
      rcases r2 with ⟨a2, c2⟩ | y
      · obtain ⟨rfl, _⟩ := F2
        go_wp2_with fail
        refine (WK.out _ HB2.out).mono ?_; rintro e w9 ⟨rfl, hB⟩
        have HB9 := Lib.hid hB
        clear hB
        go_wp2_with fail
        go_ret
        exact ⟨rfl, below_trans HB2.out HB9.out HB2.out.size⟩
      · obtain ⟨v2, rfl, _⟩ := F2
        go_wp2_with fail
        refine (WK.out _ HB2.out).mono ?_; rintro e w9 ⟨rfl, hB⟩
        have HB9 := Lib.hid hB
        clear hB
        go_wp2_with fail
        go_ret
        exact ⟨rfl, below_trans HB2.out HB9.out HB2.out.size⟩
    · obtain ⟨v1, rfl, W1, hl1, _⟩ := F1
      have HW1 := Lib.hid W1
      have O1 := Lib.hid h1
      clear W1 h1
      go_wp2_with fail
      refine (T2.out _ HB1.out).mono ?_; rintro e w2 ⟨r2, h2, F2⟩
      have HB12 := Lib.hid (tp_below F2)
      have HB2 := Lib.hid (below_trans HB1.out (tp_below F2) HB1.out.size)
      rcases OW.out t O1.out with hw | ⟨p, hw⟩
      · have hr := h2.det hw
        subst hr
        obtain ⟨v2, rfl, M2, hl2, _⟩ := F2
        obtain ⟨_, u, _, _, et, _⟩ := out_ok O1.out
        subst et
        generalize u.kids = kx at *
        have M1 := own_below HW1.out HB12.out
        have HT2 := ht_wrap nm.data.toList kx
        have hN1' := NRow.own M1
        have hN2' := NRow.own M2
        have HH1 := Lib.hid (fun w' (hb : Below w2.heap.size w2 w') => Height_tree w' v1 (nd 1 [] kx) (hN1'.below hb) (by omega))
        have HH2 := Lib.hid (fun w' (hb : Below w2.heap.size w2 w') => Height_tree w' v2 (nd 1 [] (wrapK nm.data.toList kx)) (hN2'.below hb) (by have h := hl2; simp only [Tr.kids] at h; omega))
        have hh60 : htT (nd 1 [] kx) ≤ 60 := by assumption
        clear hN1' hN2' h2 hw OW T1 T2 HW1 HB12 O1
        simp only [Tr.kids] at M2 hl2
        rw [layT_nd] at M1 hl1
        rw [wrap_lay] at M2 hl2
        have hpx := layTs_ge kx
        rw [HT2] at HH2
        generalize htT (nd 1 [] kx) = hgt at *
        rw [show (((hgt + 2 : Nat)) : Int) = (hgt : Int) + 2 by omega] at HH2
        have hq1 : IntKind.i64.wrap ((hgt : Int) + 2) = (hgt : Int) + 2 := IntWalk.i64_in _ (by omega)
        generalize layTs kx = A at *
        generalize kx.length = p at *
        simp only [List.length_cons] at M1 M2 hl1 hl2
        rw [show A.length + 1 + 1 + 1 + 1 + 1 = A.length + 5 from rfl] at M2 hl2
        obtain ⟨g1, cp1, rfl, _, hg1⟩ := M1.form (by omega)
        obtain ⟨g2, cp2, rfl, _, hg2⟩ := M2.form (by omega)
        have hcap1 := own_cap M1
        have hcap2 := own_cap M2
        have N1 := NRow.own (L := ⟨1, p, A.length + 1, [], 0⟩ :: A) (by rw [List.length_cons]; exact M1)
        have N2 := NRow.own (L := ⟨1, 1, A.length + 5, [], 0⟩ :: ⟨18, 3, A.length + 4, nm.data.toList, 0⟩ :: ⟨19, 0, 1, [97], 0⟩ :: ⟨19, 0, 1, [98], 0⟩ :: ⟨20, p, A.length + 1, [], 0⟩ :: A) (by simp only [List.length_cons]; exact M2)
        have d1 : w2.cell? ⟨g1, 1, none⟩ = some (.int .i64 (p : Int)) := (M1.cellAt 1 (by omega)).trans rfl
        have d2 : w2.cell? ⟨g1, 2, none⟩ = some (.int .i64 ((A.length : Int) + 1)) := (M1.cellAt 2 (by omega)).trans rfl
        have x1 : w2.cell? ⟨g2, 1, none⟩ = some (.int .i64 1) := (M2.cellAt 1 (by omega)).trans rfl
        have x5 : w2.cell? ⟨g2, 5, none⟩ = some (.int .i64 18) := (M2.cellAt 5 (by omega)).trans rfl
        have x6 : w2.cell? ⟨g2, 6, none⟩ = some (.int .i64 3) := (M2.cellAt 6 (by omega)).trans rfl
        have x8 : w2.cell? ⟨g2, 8, none⟩ = some (.string nm) := (M2.cellAt 8 (by omega)).trans (by rw [← bs_of nm]; rfl)
        have x20 : w2.cell? ⟨g2, 20, none⟩ = some (.int .i64 20) := (M2.cellAt 20 (by omega)).trans rfl
        have x21 : w2.cell? ⟨g2, 21, none⟩ = some (.int .i64 (p : Int)) := (M2.cellAt 21 (by omega)).trans rfl
        have x22 : w2.cell? ⟨g2, 22, none⟩ = some (.int .i64 ((A.length : Int) + 1)) := (M2.cellAt 22 (by omega)).trans rfl
        have s1 := N1.cut rfl hcap1 1 A.length (cp1 - 1) (by simp only [List.length_cons]; omega)
        have s2 := N2.cut rfl hcap2 5 A.length (cp2 - 5) (by simp only [List.length_cons]; omega)
        rw [List.drop_succ_cons, List.drop_zero, List.take_length] at s1
        simp only [List.drop_succ_cons, List.drop_zero, List.take_length] at s2
        obtain ⟨y1, hy1⟩ : ∃ y : Option Addr, (if cp1 = 1 then some (⟨g1, 0, none⟩ : Addr) else some ⟨g1, 5, none⟩) = y := ⟨_, rfl⟩
        obtain ⟨y2, hy2⟩ : ∃ y : Option Addr, (if cp2 = 5 then some (⟨g2, 0, none⟩ : Addr) else some ⟨g2, 25, none⟩) = y := ⟨_, rfl⟩
        rw [show 1 * 5 = 5 from rfl, hy1] at s1
        rw [show 5 * 5 = 25 from rfl, hy2] at s2
        have SA := Lib.hid (fun w' (hb : Below w2.heap.size w2 w') => same_yes w' _ _ _ (s2.below hb) (s1.below hb) (by omega))
        have f0 : (A.length : Int) + 1 + 4 = (A.length : Int) + 5 := by omega
        have f1 : (1 : Int) ≤ (A.length : Int) + 1 := by omega
        have f2 : (A.length : Int) + 1 ≤ (cp1 : Int) := by omega
        have f3 : (5 : Int) ≤ (A.length : Int) + 5 := by omega
        have f4 : (A.length : Int) + 5 ≤ (cp2 : Int) := by omega
        have hnn : (nm.toList == nm.toList) = true := beq_self_eq_true _
        clear M1 M2 N1 N2 s1 s2 HT2
        go_wp2_with fail
        go_quiet (fail)
        go_wp2_with fail
        have hS0 : Below w2.heap.size w2 (w2.drewN nq) := below_drewN (Below.refl _ _) _
        have HB2D := Lib.hid (fun w' (hb : Below w2.heap.size w2 w') => below_trans HB2.out hb HB2.out.size)
        go_region_held3 (fun w' => Below w2.heap.size w2 w') (first | assumption | exact Below.drew (by assumption)) (first
          | (go_at_call 13; refine (SA.out _ (by assumption)).mono ?_; rintro e wq ⟨rfl, hBq⟩; have hSq := bt3 (w := w2) (by assumption) hBq; clear hBq)
          | (go_at_call 19; (with_reducible show Calls _ _ #[Value.slice (some (Addr.mk g1 0 none)) _ _] _ _); refine (HH1.out _ (by assumption)).mono ?_; rintro e wq ⟨rfl, hBq⟩; have hSq := bt3 (w := w2) (by assumption) hBq; clear hBq)
          | (go_at_call 19; (with_reducible show Calls _ _ #[Value.slice (some (Addr.mk g2 0 none)) _ _] _ _); refine (HH2.out _ (by assumption)).mono ?_; rintro e wq ⟨rfl, hBq⟩; have hSq := bt3 (w := w2) (by assumption) hBq; clear hBq)
          | (go_at_call 14; refine (WK.out _ (HB2D.out _ (by assumption))).mono ?_; rintro e wq ⟨rfl, hBq⟩; have hSq := bt3 (w := w2) (by assumption) hBq; clear hBq))
        all_goals
          go_wp2_with fail
          go_ret
          exact ⟨rfl, HB2D.out _ (by assumption)⟩
      · have hr := h2.det hw
        subst hr
        obtain ⟨rfl, _⟩ := F2
        clear h2 hw
        go_wp2_with fail
        refine (WK.out _ HB2.out).mono ?_; rintro e w9 ⟨rfl, hB⟩
        have HB9 := Lib.hid hB
        clear hB
        go_wp2_with fail
        go_ret
        exact ⟨rfl, below_trans HB2.out HB9.out HB2.out.size⟩
  · by_cases hc1 : nameB name.data.toList = true
    · have hc2 : 50 < name.size := Nat.lt_of_not_le fun h => hc ⟨hc1, h⟩
      rw [hc1] at HNM
      have hc3 : (50 : Int) < (name.size : Int) := by omega
      have hnm : ∃ nm : ByteArray, nm = ⟨#[102]⟩ := ⟨_, rfl⟩
      obtain ⟨nm, hnm⟩ := hnm
      have HN1 : Hid (nameB nm.data.toList = true) := by subst hnm; show _ = _; decide
      have HN2 : Hid (nm.size ≤ 50) := by subst hnm; show _ ≤ _; decide
      clear hc1 hc hc2
      go_enter Tryz.func7, Tryz.ntmps7
      go_wp2_with fail
      refine HNM.out.mono ?_; rintro e w0 ⟨rfl, rfl⟩
      clear HNM
      go_wp2_with fail
      rw [← hnm]
      clear hnm
      have hnm50 : nm.size ≤ 50 := HN2.out
      generalize s.extract 0 (min (s.size : Int) 1000).toNat = x at *
      have hx : x.size ≤ 1000 := hza
      clear hza
      have T1 := Lib.hid (T0.out x (by omega))
      have T2 := Lib.hid (T0.out _ (wrap_size x nm hx HN2.out))
      rw [wrap_cat] at T2
      have OW := Lib.hid (fun t h => out_wrap (S := x.data.toList) (nm := nm.data.toList) (t := t) h HN1.out (by rw [list_size']; exact hx) (by rw [list_size']; exact HN2.out))
      clear T0
      refine (T1.out _ (Below.refl _ _)).mono ?_; rintro e w1 ⟨r1, h1, F1⟩
      have HB1 := Lib.hid (tp_below F1)
      rcases r1 with ⟨a1, c1⟩ | t
      · obtain ⟨rfl, _⟩ := F1
        have hc1 : (c1 != 0) = true := bne_iff_ne.2 (by have := out_err h1; omega)
        clear h1
        go_wp2_with fail
        refine (T2.out _ HB1.out).mono ?_; rintro e w2 ⟨r2, h2, F2⟩
        have HB2 := Lib.hid (below_trans HB1.out (tp_below F2) HB1.out.size)
        clear h2
        rcases r2 with ⟨a2, c2⟩ | y
        · obtain ⟨rfl, _⟩ := F2
          go_wp2_with fail
          refine (WK.out _ HB2.out).mono ?_; rintro e w9 ⟨rfl, hB⟩
          have HB9 := Lib.hid hB
          clear hB
          go_wp2_with fail
          go_ret
          exact ⟨rfl, below_trans HB2.out HB9.out HB2.out.size⟩
        · obtain ⟨v2, rfl, _⟩ := F2
          go_wp2_with fail
          refine (WK.out _ HB2.out).mono ?_; rintro e w9 ⟨rfl, hB⟩
          have HB9 := Lib.hid hB
          clear hB
          go_wp2_with fail
          go_ret
          exact ⟨rfl, below_trans HB2.out HB9.out HB2.out.size⟩
      · obtain ⟨v1, rfl, W1, hl1, _⟩ := F1
        have HW1 := Lib.hid W1
        have O1 := Lib.hid h1
        clear W1 h1
        go_wp2_with fail
        refine (T2.out _ HB1.out).mono ?_; rintro e w2 ⟨r2, h2, F2⟩
        have HB12 := Lib.hid (tp_below F2)
        have HB2 := Lib.hid (below_trans HB1.out (tp_below F2) HB1.out.size)
        rcases OW.out t O1.out with hw | ⟨p, hw⟩
        · have hr := h2.det hw
          subst hr
          obtain ⟨v2, rfl, M2, hl2, _⟩ := F2
          obtain ⟨_, u, _, _, et, _⟩ := out_ok O1.out
          subst et
          generalize u.kids = kx at *
          have M1 := own_below HW1.out HB12.out
          have HT2 := ht_wrap nm.data.toList kx
          have hN1' := NRow.own M1
          have hN2' := NRow.own M2
          have HH1 := Lib.hid (fun w' (hb : Below w2.heap.size w2 w') => Height_tree w' v1 (nd 1 [] kx) (hN1'.below hb) (by omega))
          have HH2 := Lib.hid (fun w' (hb : Below w2.heap.size w2 w') => Height_tree w' v2 (nd 1 [] (wrapK nm.data.toList kx)) (hN2'.below hb) (by have h := hl2; simp only [Tr.kids] at h; omega))
          have hh60 : htT (nd 1 [] kx) ≤ 60 := by assumption
          clear hN1' hN2' h2 hw OW T1 T2 HW1 HB12 O1
          simp only [Tr.kids] at M2 hl2
          rw [layT_nd] at M1 hl1
          rw [wrap_lay] at M2 hl2
          have hpx := layTs_ge kx
          rw [HT2] at HH2
          generalize htT (nd 1 [] kx) = hgt at *
          rw [show (((hgt + 2 : Nat)) : Int) = (hgt : Int) + 2 by omega] at HH2
          have hq1 : IntKind.i64.wrap ((hgt : Int) + 2) = (hgt : Int) + 2 := IntWalk.i64_in _ (by omega)
          generalize layTs kx = A at *
          generalize kx.length = p at *
          simp only [List.length_cons] at M1 M2 hl1 hl2
          rw [show A.length + 1 + 1 + 1 + 1 + 1 = A.length + 5 from rfl] at M2 hl2
          obtain ⟨g1, cp1, rfl, _, hg1⟩ := M1.form (by omega)
          obtain ⟨g2, cp2, rfl, _, hg2⟩ := M2.form (by omega)
          have hcap1 := own_cap M1
          have hcap2 := own_cap M2
          have N1 := NRow.own (L := ⟨1, p, A.length + 1, [], 0⟩ :: A) (by rw [List.length_cons]; exact M1)
          have N2 := NRow.own (L := ⟨1, 1, A.length + 5, [], 0⟩ :: ⟨18, 3, A.length + 4, nm.data.toList, 0⟩ :: ⟨19, 0, 1, [97], 0⟩ :: ⟨19, 0, 1, [98], 0⟩ :: ⟨20, p, A.length + 1, [], 0⟩ :: A) (by simp only [List.length_cons]; exact M2)
          have d1 : w2.cell? ⟨g1, 1, none⟩ = some (.int .i64 (p : Int)) := (M1.cellAt 1 (by omega)).trans rfl
          have d2 : w2.cell? ⟨g1, 2, none⟩ = some (.int .i64 ((A.length : Int) + 1)) := (M1.cellAt 2 (by omega)).trans rfl
          have x1 : w2.cell? ⟨g2, 1, none⟩ = some (.int .i64 1) := (M2.cellAt 1 (by omega)).trans rfl
          have x5 : w2.cell? ⟨g2, 5, none⟩ = some (.int .i64 18) := (M2.cellAt 5 (by omega)).trans rfl
          have x6 : w2.cell? ⟨g2, 6, none⟩ = some (.int .i64 3) := (M2.cellAt 6 (by omega)).trans rfl
          have x8 : w2.cell? ⟨g2, 8, none⟩ = some (.string nm) := (M2.cellAt 8 (by omega)).trans (by rw [← bs_of nm]; rfl)
          have x20 : w2.cell? ⟨g2, 20, none⟩ = some (.int .i64 20) := (M2.cellAt 20 (by omega)).trans rfl
          have x21 : w2.cell? ⟨g2, 21, none⟩ = some (.int .i64 (p : Int)) := (M2.cellAt 21 (by omega)).trans rfl
          have x22 : w2.cell? ⟨g2, 22, none⟩ = some (.int .i64 ((A.length : Int) + 1)) := (M2.cellAt 22 (by omega)).trans rfl
          have s1 := N1.cut rfl hcap1 1 A.length (cp1 - 1) (by simp only [List.length_cons]; omega)
          have s2 := N2.cut rfl hcap2 5 A.length (cp2 - 5) (by simp only [List.length_cons]; omega)
          rw [List.drop_succ_cons, List.drop_zero, List.take_length] at s1
          simp only [List.drop_succ_cons, List.drop_zero, List.take_length] at s2
          obtain ⟨y1, hy1⟩ : ∃ y : Option Addr, (if cp1 = 1 then some (⟨g1, 0, none⟩ : Addr) else some ⟨g1, 5, none⟩) = y := ⟨_, rfl⟩
          obtain ⟨y2, hy2⟩ : ∃ y : Option Addr, (if cp2 = 5 then some (⟨g2, 0, none⟩ : Addr) else some ⟨g2, 25, none⟩) = y := ⟨_, rfl⟩
          rw [show 1 * 5 = 5 from rfl, hy1] at s1
          rw [show 5 * 5 = 25 from rfl, hy2] at s2
          have SA := Lib.hid (fun w' (hb : Below w2.heap.size w2 w') => same_yes w' _ _ _ (s2.below hb) (s1.below hb) (by omega))
          have f0 : (A.length : Int) + 1 + 4 = (A.length : Int) + 5 := by omega
          have f1 : (1 : Int) ≤ (A.length : Int) + 1 := by omega
          have f2 : (A.length : Int) + 1 ≤ (cp1 : Int) := by omega
          have f3 : (5 : Int) ≤ (A.length : Int) + 5 := by omega
          have f4 : (A.length : Int) + 5 ≤ (cp2 : Int) := by omega
          have hnn : (nm.toList == nm.toList) = true := beq_self_eq_true _
          clear M1 M2 N1 N2 s1 s2 HT2
          go_wp2_with fail
          go_quiet (fail)
          go_wp2_with fail
          have hS0 : Below w2.heap.size w2 (w2.drewN nq) := below_drewN (Below.refl _ _) _
          have HB2D := Lib.hid (fun w' (hb : Below w2.heap.size w2 w') => below_trans HB2.out hb HB2.out.size)
          go_region_held3 (fun w' => Below w2.heap.size w2 w') (first | assumption | exact Below.drew (by assumption)) (first
            | (go_at_call 13; refine (SA.out _ (by assumption)).mono ?_; rintro e wq ⟨rfl, hBq⟩; have hSq := bt3 (w := w2) (by assumption) hBq; clear hBq)
            | (go_at_call 19; (with_reducible show Calls _ _ #[Value.slice (some (Addr.mk g1 0 none)) _ _] _ _); refine (HH1.out _ (by assumption)).mono ?_; rintro e wq ⟨rfl, hBq⟩; have hSq := bt3 (w := w2) (by assumption) hBq; clear hBq)
            | (go_at_call 19; (with_reducible show Calls _ _ #[Value.slice (some (Addr.mk g2 0 none)) _ _] _ _); refine (HH2.out _ (by assumption)).mono ?_; rintro e wq ⟨rfl, hBq⟩; have hSq := bt3 (w := w2) (by assumption) hBq; clear hBq)
            | (go_at_call 14; refine (WK.out _ (HB2D.out _ (by assumption))).mono ?_; rintro e wq ⟨rfl, hBq⟩; have hSq := bt3 (w := w2) (by assumption) hBq; clear hBq))
          all_goals
            go_wp2_with fail
            go_ret
            exact ⟨rfl, HB2D.out _ (by assumption)⟩
        · have hr := h2.det hw
          subst hr
          obtain ⟨rfl, _⟩ := F2
          clear h2 hw
          go_wp2_with fail
          refine (WK.out _ HB2.out).mono ?_; rintro e w9 ⟨rfl, hB⟩
          have HB9 := Lib.hid hB
          clear hB
          go_wp2_with fail
          go_ret
          exact ⟨rfl, below_trans HB2.out HB9.out HB2.out.size⟩
    · rw [Bool.not_eq_true] at hc1
      rw [hc1] at HNM
      have hnm : ∃ nm : ByteArray, nm = ⟨#[102]⟩ := ⟨_, rfl⟩
      obtain ⟨nm, hnm⟩ := hnm
      have HN1 : Hid (nameB nm.data.toList = true) := by subst hnm; show _ = _; decide
      have HN2 : Hid (nm.size ≤ 50) := by subst hnm; show _ ≤ _; decide
      clear hc1 hc
      go_enter Tryz.func7, Tryz.ntmps7
      go_wp2_with fail
      refine HNM.out.mono ?_; rintro e w0 ⟨rfl, rfl⟩
      clear HNM
      go_wp2_with fail
      rw [← hnm]
      clear hnm
      have hnm50 : nm.size ≤ 50 := HN2.out
      generalize s.extract 0 (min (s.size : Int) 1000).toNat = x at *
      have hx : x.size ≤ 1000 := hza
      clear hza
      have T1 := Lib.hid (T0.out x (by omega))
      have T2 := Lib.hid (T0.out _ (wrap_size x nm hx HN2.out))
      rw [wrap_cat] at T2
      have OW := Lib.hid (fun t h => out_wrap (S := x.data.toList) (nm := nm.data.toList) (t := t) h HN1.out (by rw [list_size']; exact hx) (by rw [list_size']; exact HN2.out))
      clear T0
      refine (T1.out _ (Below.refl _ _)).mono ?_; rintro e w1 ⟨r1, h1, F1⟩
      have HB1 := Lib.hid (tp_below F1)
      rcases r1 with ⟨a1, c1⟩ | t
      · obtain ⟨rfl, _⟩ := F1
        have hc1 : (c1 != 0) = true := bne_iff_ne.2 (by have := out_err h1; omega)
        clear h1
        go_wp2_with fail
        refine (T2.out _ HB1.out).mono ?_; rintro e w2 ⟨r2, h2, F2⟩
        have HB2 := Lib.hid (below_trans HB1.out (tp_below F2) HB1.out.size)
        clear h2
        rcases r2 with ⟨a2, c2⟩ | y
        · obtain ⟨rfl, _⟩ := F2
          go_wp2_with fail
          refine (WK.out _ HB2.out).mono ?_; rintro e w9 ⟨rfl, hB⟩
          have HB9 := Lib.hid hB
          clear hB
          go_wp2_with fail
          go_ret
          exact ⟨rfl, below_trans HB2.out HB9.out HB2.out.size⟩
        · obtain ⟨v2, rfl, _⟩ := F2
          go_wp2_with fail
          refine (WK.out _ HB2.out).mono ?_; rintro e w9 ⟨rfl, hB⟩
          have HB9 := Lib.hid hB
          clear hB
          go_wp2_with fail
          go_ret
          exact ⟨rfl, below_trans HB2.out HB9.out HB2.out.size⟩
      · obtain ⟨v1, rfl, W1, hl1, _⟩ := F1
        have HW1 := Lib.hid W1
        have O1 := Lib.hid h1
        clear W1 h1
        go_wp2_with fail
        refine (T2.out _ HB1.out).mono ?_; rintro e w2 ⟨r2, h2, F2⟩
        have HB12 := Lib.hid (tp_below F2)
        have HB2 := Lib.hid (below_trans HB1.out (tp_below F2) HB1.out.size)
        rcases OW.out t O1.out with hw | ⟨p, hw⟩
        · have hr := h2.det hw
          subst hr
          obtain ⟨v2, rfl, M2, hl2, _⟩ := F2
          obtain ⟨_, u, _, _, et, _⟩ := out_ok O1.out
          subst et
          generalize u.kids = kx at *
          have M1 := own_below HW1.out HB12.out
          have HT2 := ht_wrap nm.data.toList kx
          have hN1' := NRow.own M1
          have hN2' := NRow.own M2
          have HH1 := Lib.hid (fun w' (hb : Below w2.heap.size w2 w') => Height_tree w' v1 (nd 1 [] kx) (hN1'.below hb) (by omega))
          have HH2 := Lib.hid (fun w' (hb : Below w2.heap.size w2 w') => Height_tree w' v2 (nd 1 [] (wrapK nm.data.toList kx)) (hN2'.below hb) (by have h := hl2; simp only [Tr.kids] at h; omega))
          have hh60 : htT (nd 1 [] kx) ≤ 60 := by assumption
          clear hN1' hN2' h2 hw OW T1 T2 HW1 HB12 O1
          simp only [Tr.kids] at M2 hl2
          rw [layT_nd] at M1 hl1
          rw [wrap_lay] at M2 hl2
          have hpx := layTs_ge kx
          rw [HT2] at HH2
          generalize htT (nd 1 [] kx) = hgt at *
          rw [show (((hgt + 2 : Nat)) : Int) = (hgt : Int) + 2 by omega] at HH2
          have hq1 : IntKind.i64.wrap ((hgt : Int) + 2) = (hgt : Int) + 2 := IntWalk.i64_in _ (by omega)
          generalize layTs kx = A at *
          generalize kx.length = p at *
          simp only [List.length_cons] at M1 M2 hl1 hl2
          rw [show A.length + 1 + 1 + 1 + 1 + 1 = A.length + 5 from rfl] at M2 hl2
          obtain ⟨g1, cp1, rfl, _, hg1⟩ := M1.form (by omega)
          obtain ⟨g2, cp2, rfl, _, hg2⟩ := M2.form (by omega)
          have hcap1 := own_cap M1
          have hcap2 := own_cap M2
          have N1 := NRow.own (L := ⟨1, p, A.length + 1, [], 0⟩ :: A) (by rw [List.length_cons]; exact M1)
          have N2 := NRow.own (L := ⟨1, 1, A.length + 5, [], 0⟩ :: ⟨18, 3, A.length + 4, nm.data.toList, 0⟩ :: ⟨19, 0, 1, [97], 0⟩ :: ⟨19, 0, 1, [98], 0⟩ :: ⟨20, p, A.length + 1, [], 0⟩ :: A) (by simp only [List.length_cons]; exact M2)
          have d1 : w2.cell? ⟨g1, 1, none⟩ = some (.int .i64 (p : Int)) := (M1.cellAt 1 (by omega)).trans rfl
          have d2 : w2.cell? ⟨g1, 2, none⟩ = some (.int .i64 ((A.length : Int) + 1)) := (M1.cellAt 2 (by omega)).trans rfl
          have x1 : w2.cell? ⟨g2, 1, none⟩ = some (.int .i64 1) := (M2.cellAt 1 (by omega)).trans rfl
          have x5 : w2.cell? ⟨g2, 5, none⟩ = some (.int .i64 18) := (M2.cellAt 5 (by omega)).trans rfl
          have x6 : w2.cell? ⟨g2, 6, none⟩ = some (.int .i64 3) := (M2.cellAt 6 (by omega)).trans rfl
          have x8 : w2.cell? ⟨g2, 8, none⟩ = some (.string nm) := (M2.cellAt 8 (by omega)).trans (by rw [← bs_of nm]; rfl)
          have x20 : w2.cell? ⟨g2, 20, none⟩ = some (.int .i64 20) := (M2.cellAt 20 (by omega)).trans rfl
          have x21 : w2.cell? ⟨g2, 21, none⟩ = some (.int .i64 (p : Int)) := (M2.cellAt 21 (by omega)).trans rfl
          have x22 : w2.cell? ⟨g2, 22, none⟩ = some (.int .i64 ((A.length : Int) + 1)) := (M2.cellAt 22 (by omega)).trans rfl
          have s1 := N1.cut rfl hcap1 1 A.length (cp1 - 1) (by simp only [List.length_cons]; omega)
          have s2 := N2.cut rfl hcap2 5 A.length (cp2 - 5) (by simp only [List.length_cons]; omega)
          rw [List.drop_succ_cons, List.drop_zero, List.take_length] at s1
          simp only [List.drop_succ_cons, List.drop_zero, List.take_length] at s2
          obtain ⟨y1, hy1⟩ : ∃ y : Option Addr, (if cp1 = 1 then some (⟨g1, 0, none⟩ : Addr) else some ⟨g1, 5, none⟩) = y := ⟨_, rfl⟩
          obtain ⟨y2, hy2⟩ : ∃ y : Option Addr, (if cp2 = 5 then some (⟨g2, 0, none⟩ : Addr) else some ⟨g2, 25, none⟩) = y := ⟨_, rfl⟩
          rw [show 1 * 5 = 5 from rfl, hy1] at s1
          rw [show 5 * 5 = 25 from rfl, hy2] at s2
          have SA := Lib.hid (fun w' (hb : Below w2.heap.size w2 w') => same_yes w' _ _ _ (s2.below hb) (s1.below hb) (by omega))
          have f0 : (A.length : Int) + 1 + 4 = (A.length : Int) + 5 := by omega
          have f1 : (1 : Int) ≤ (A.length : Int) + 1 := by omega
          have f2 : (A.length : Int) + 1 ≤ (cp1 : Int) := by omega
          have f3 : (5 : Int) ≤ (A.length : Int) + 5 := by omega
          have f4 : (A.length : Int) + 5 ≤ (cp2 : Int) := by omega
          have hnn : (nm.toList == nm.toList) = true := beq_self_eq_true _
          clear M1 M2 N1 N2 s1 s2 HT2
          go_wp2_with fail
          go_quiet (fail)
          go_wp2_with fail
          have hS0 : Below w2.heap.size w2 (w2.drewN nq) := below_drewN (Below.refl _ _) _
          have HB2D := Lib.hid (fun w' (hb : Below w2.heap.size w2 w') => below_trans HB2.out hb HB2.out.size)
          go_region_held3 (fun w' => Below w2.heap.size w2 w') (first | assumption | exact Below.drew (by assumption)) (first
            | (go_at_call 13; refine (SA.out _ (by assumption)).mono ?_; rintro e wq ⟨rfl, hBq⟩; have hSq := bt3 (w := w2) (by assumption) hBq; clear hBq)
            | (go_at_call 19; (with_reducible show Calls _ _ #[Value.slice (some (Addr.mk g1 0 none)) _ _] _ _); refine (HH1.out _ (by assumption)).mono ?_; rintro e wq ⟨rfl, hBq⟩; have hSq := bt3 (w := w2) (by assumption) hBq; clear hBq)
            | (go_at_call 19; (with_reducible show Calls _ _ #[Value.slice (some (Addr.mk g2 0 none)) _ _] _ _); refine (HH2.out _ (by assumption)).mono ?_; rintro e wq ⟨rfl, hBq⟩; have hSq := bt3 (w := w2) (by assumption) hBq; clear hBq)
            | (go_at_call 14; refine (WK.out _ (HB2D.out _ (by assumption))).mono ?_; rintro e wq ⟨rfl, hBq⟩; have hSq := bt3 (w := w2) (by assumption) hBq; clear hBq))
          all_goals
            go_wp2_with fail
            go_ret
            exact ⟨rfl, HB2D.out _ (by assumption)⟩
        · have hr := h2.det hw
          subst hr
          obtain ⟨rfl, _⟩ := F2
          clear h2 hw
          go_wp2_with fail
          refine (WK.out _ HB2.out).mono ?_; rintro e w9 ⟨rfl, hB⟩
          have HB9 := Lib.hid hB
          clear hB
          go_wp2_with fail
          go_ret
          exact ⟨rfl, below_trans HB2.out HB9.out HB2.out.size⟩
end Go.Proofs.YtnkfodelgpidkaaGreatDoor
