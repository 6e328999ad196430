/- SynJoins: two programs, one behind the other. -/
import Derived.Test.YtnkfodelgpidkaaGreatDoorSm
import Derived.Deep.RegionHeld3
namespace Go.Proofs.YtnkfodelgpidkaaGreatDoor
open Go.RowKit
set_option linter.unusedVariables false
set_option linter.unusedSimpArgs false

theorem layT_nd (k : Int) (x : List UInt8) (kids : List Tr) : layT (nd k x kids) = ⟨k, kids.length, (layTs kids).length + 1, x, 0⟩ :: layTs kids := by rw [layT]
theorem NRow.cut {w : World} {g cap n0 : Nat} {L : List LN} (h : NRow w (.slice (some ⟨g, 0, none⟩) n0 cap) L) (hn : n0 = L.length) (hc : n0 ≤ cap) (k n c : Nat) (hk : k + n ≤ L.length) : NRo w (.slice (if cap = k then some ⟨g, 0, none⟩ else some ⟨g, k * 5, none⟩) n c) ((L.drop k).take n) := by
  subst hn
  split
  · have : n = 0 := by omega
    subst this; exact .inl ⟨by simp, _, _, rfl⟩
  · exact h.part k n c hk
theorem bt3 {w a b : World} (h : Below w.heap.size w a) (k : Below a.heap.size a b) : Below w.heap.size w b := h.trans (k.mono h.size)
set_option maxRecDepth 100000 in
set_option maxHeartbeats 1000000 in
theorem law_SynJoins (a : ByteArray) (ha : a.size ≤ 9223372036854775807) (b : ByteArray) (hb : b.size ≤ 9223372036854775807) (w : World) (hm : MLw w) (ht : Bt.tab w) :
    Calls Tryz.prog 6 #[.string a, .string b] w fun e w' => e = .returned (.bool true) ∧ Below w.heap.size w w' := by
  have hza := cut_size a 1000
  have hzb := cut_size b 1000
  go_enter Tryz.func6, Tryz.ntmps6
  go_wp2_with fail
  go_quiet (fail)
  go_wp2_with fail
  generalize a.extract 0 (min (a.size : Int) 1000).toNat = s at *
  generalize b.extract 0 (min (b.size : Int) 1000).toNat = t at *
  have hza' : s.size ≤ 1000 := hza
  have hzb' : t.size ≤ 1000 := hzb
  clear hza hzb
  have WK := Lib.hid (fun w' (hb : Below w.heap.size w w') => swork_any w' (hm.below hb) (Bt.tab_below ht hb))
  have T1 := Lib.hid (fun w' (hb : Below w.heap.size w w') => Parse_any s (by omega) w' (hm.below hb) (Bt.tab_below ht hb))
  have T2 := Lib.hid (fun w' (hb : Below w.heap.size w w') => Parse_any t (by omega) w' (hm.below hb) (Bt.tab_below ht hb))
  have T3 := Lib.hid (fun w' (hb : Below w.heap.size w w') => Parse_any (s ++ ⟨#[10]⟩ ++ t) (by simp only [ByteArray.size_append]; show _ + 1 + _ ≤ _; omega) w' (hm.below hb) (Bt.tab_below ht hb))
  have hcat : (s ++ ⟨#[10]⟩ ++ t : ByteArray).data.toList = s.data.toList ++ 10 :: t.data.toList := by simp
  rw [hcat] at T3
  have JN := Lib.hid (fun x y h1 h2 => out_join (A := s.data.toList) (B := t.data.toList) (t := x) (u := y) h1 h2 (by rw [list_size', list_size']; omega))
  clear hcat hm ht
  have HB0 := Lib.hid (below_drewN (Below.refl w.heap.size w) nq)
  generalize w.drewN nq = w0 at *
  refine (T1.out _ HB0.out).mono ?_; rintro e w1 ⟨r1, h1, F1⟩
  have HB01 := Lib.hid (tp_below F1)
  have HB1 := Lib.hid (below_trans HB0.out (tp_below F1) HB0.out.size)
  have O1 := Lib.hid h1
  clear h1
  rcases r1 with ⟨a1, c1⟩ | x
  · obtain ⟨rfl, _⟩ := F1
    have hc1 : (c1 != 0) = true := bne_iff_ne.2 (by have := out_err O1.out; omega)
    go_wp2_with fail
    refine (T2.out _ HB1.out).mono ?_; rintro e w2 ⟨r2, h2, F2⟩
    have HB2 := Lib.hid (below_trans HB1.out (tp_below F2) HB1.out.size)
    rcases r2 with ⟨a2, c2⟩ | y
    · obtain ⟨rfl, _⟩ := F2
      go_wp2_with fail
      refine (WK.out _ HB2.out).mono ?_; rintro e w9 ⟨rfl, hB⟩
      have HB9 := Lib.hid hB
      clear hB
      go_wp2_with fail
      go_ret
      exact ⟨rfl, below_trans HB2.out HB9.out HB2.out.size⟩
    · obtain ⟨v2, rfl, _⟩ := F2
      go_wp2_with fail
      refine (WK.out _ HB2.out).mono ?_; rintro e w9 ⟨rfl, hB⟩
      have HB9 := Lib.hid hB
      clear hB
      go_wp2_with fail
      go_ret
      exact ⟨rfl, below_trans HB2.out HB9.out HB2.out.size⟩
  · obtain ⟨v1, rfl, W1, hl1, _⟩ := F1
    have HW1 := Lib.hid W1
    clear W1
    go_wp2_with fail
    refine (T2.out _ HB1.out).mono ?_; rintro e w2 ⟨r2, h2, F2⟩
    have HB12 := Lib.hid (tp_below F2)
    have HB2 := Lib.hid (below_trans HB1.out (tp_below F2) HB1.out.size)
    rcases r2 with ⟨a2, c2⟩ | y
    · obtain ⟨rfl, _⟩ := F2
      have hc2 : (c2 != 0) = true := bne_iff_ne.2 (by have := out_err h2; omega)
      go_wp2_with fail
      refine (WK.out _ HB2.out).mono ?_; rintro e w9 ⟨rfl, hB⟩
      have HB9 := Lib.hid hB
      clear hB
      go_wp2_with fail
      go_ret
      exact ⟨rfl, below_trans HB2.out HB9.out HB2.out.size⟩
    · obtain ⟨v2, rfl, W2, hl2, _⟩ := F2
      have HW2 := Lib.hid W2
      have O3 := Lib.hid (JN.out _ _ O1.out h2)
      obtain ⟨_, ux, _, _, ex, _⟩ := out_ok O1.out
      obtain ⟨_, uy, _, _, ey, _⟩ := out_ok h2
      subst ex; subst ey
      generalize ux.kids = kx at *
      generalize uy.kids = ky at *
      clear W2
      go_wp2_with fail
      refine (T3.out _ HB2.out).mono ?_; rintro e w3 ⟨r3, h3, F3⟩
      have hr := h3.det O3.out
      subst hr
      obtain ⟨v3, rfl, W3, hl3, HB23⟩ := F3
      have HB3 := Lib.hid (below_trans HB2.out HB23 HB2.out.size)
      have M1 := own_below (own_below HW1.out HB12.out) HB23
      have M2 := own_below HW2.out HB23
      have M3 := W3
      clear h3 O3 JN T1 T2 T3 HW1 HW2 W3 h2 O1 HB23 HB12 HB01
      simp only [Tr.kids, layT_nd, layTs_append, List.length_cons, List.length_append] at M1 M2 M3 hl1 hl2 hl3
      have hpx := layTs_ge kx
      have hpy := layTs_ge ky
      generalize layTs kx = A at *
      generalize layTs ky = B at *
      generalize kx.length = p at *
      generalize ky.length = q at *
      obtain ⟨g1, cp1, rfl, _, hg1⟩ := M1.form (by omega)
      obtain ⟨g2, cp2, rfl, _, hg2⟩ := M2.form (by omega)
      obtain ⟨g3, cp3, rfl, _, hg3⟩ := M3.form (by omega)
      have hcap1 := own_cap M1
      have hcap2 := own_cap M2
      have hcap3 := own_cap M3
      have N1 := NRow.own (L := ⟨1, p, A.length + 1, [], 0⟩ :: A) (by rw [List.length_cons]; exact M1)
      have N2 := NRow.own (L := ⟨1, q, B.length + 1, [], 0⟩ :: B) (by rw [List.length_cons]; exact M2)
      have N3 := NRow.own (L := ⟨1, p + q, A.length + B.length + 1, [], 0⟩ :: (A ++ B)) (by rw [List.length_cons, List.length_append]; exact M3)
      have d1 : w3.cell? ⟨g1, 1, none⟩ = some (.int .i64 (p : Int)) := (M1.cellAt 1 (by omega)).trans rfl
      have d2 : w3.cell? ⟨g2, 1, none⟩ = some (.int .i64 (q : Int)) := (M2.cellAt 1 (by omega)).trans rfl
      have d3 : w3.cell? ⟨g3, 1, none⟩ = some (.int .i64 ((p : Int) + (q : Int))) := (M3.cellAt 1 (by omega)).trans (by rw [← Int.natCast_add]; rfl)
      have s1 := N1.cut rfl hcap1 1 A.length (cp1 - 1) (by simp only [List.length_cons]; omega)
      have s2 := N2.cut rfl hcap2 1 B.length (cp2 - 1) (by simp only [List.length_cons]; omega)
      have s3 := N3.cut (by simp only [List.length_cons, List.length_append]) hcap3 1 A.length (cp3 - 1) (by simp only [List.length_cons, List.length_append]; omega)
      have s4 := N3.cut (by simp only [List.length_cons, List.length_append]) hcap3 (A.length + 1) B.length (cp3 - (A.length + 1)) (by simp only [List.length_cons, List.length_append]; omega)
      rw [List.drop_succ_cons, List.drop_zero, List.take_length] at s1 s2
      rw [List.drop_succ_cons, List.drop_zero, List.take_append_of_le_length (Nat.le_refl _), List.take_length] at s3
      rw [List.drop_succ_cons, List.drop_append_of_le_length (Nat.le_refl _), List.drop_length, List.nil_append, List.take_length] at s4
      obtain ⟨y1, hy1⟩ : ∃ y : Option Addr, (if cp1 = 1 then some (⟨g1, 0, none⟩ : Addr) else some ⟨g1, 5, none⟩) = y := ⟨_, rfl⟩
      obtain ⟨y2, hy2⟩ : ∃ y : Option Addr, (if cp2 = 1 then some (⟨g2, 0, none⟩ : Addr) else some ⟨g2, 5, none⟩) = y := ⟨_, rfl⟩
      obtain ⟨y3, hy3⟩ : ∃ y : Option Addr, (if cp3 = 1 then some (⟨g3, 0, none⟩ : Addr) else some ⟨g3, 5, none⟩) = y := ⟨_, rfl⟩
      obtain ⟨y4, hy4⟩ : ∃ y : Option Addr, (if cp3 = A.length + 1 then some (⟨g3, 0, none⟩ : Addr) else some ⟨g3, (A.length + 1) * 5, none⟩) = y := ⟨_, rfl⟩
      rw [show 1 * 5 = 5 from rfl, hy1] at s1
      rw [show 1 * 5 = 5 from rfl, hy2] at s2
      rw [show 1 * 5 = 5 from rfl, hy3] at s3
      rw [hy4] at s4
      have S1 := Lib.hid s1
      have S2 := Lib.hid s2
      have S3 := Lib.hid s3
      have S4 := Lib.hid s4
      clear s1 s2 s3 s4
      clear M1 M2 M3 N1 N2 N3
      go_wp2_with fail
      have hq1 : IntKind.i64.wrap ((A.length : Int) + 1 + ((B.length : Int) + 1)) = (A.length : Int) + B.length + 2 := (IntWalk.i64_in _ (by omega)).trans (by omega)
      have hq2 : IntKind.i64.wrap ((A.length : Int) + B.length + 2 - 1) = (A.length : Int) + B.length + 1 := (IntWalk.i64_in _ (by omega)).trans (by omega)
      have hq3 : IntKind.i64.wrap ((p : Int) + (q : Int)) = (p : Int) + (q : Int) := IntWalk.i64_in _ (by omega)
      go_quiet (fail)
      go_wp2_with fail
      have f0 : (0 : Int) ≤ (A.length : Int) + 1 := by omega
      have f9 : (A.length : Int) ≤ (A.length : Int) + (B.length : Int) := by omega
      have f10 : ((A.length : Int) + 1).toNat = A.length + 1 := by omega
      have f1 : (1 : Int) ≤ (A.length : Int) + 1 := by omega
      have f2 : (A.length : Int) + 1 ≤ (cp3 : Int) := by omega
      have f3 : (A.length : Int) + 1 ≤ (cp1 : Int) := by omega
      have f4 : (1 : Int) ≤ (B.length : Int) + 1 := by omega
      have f5 : (B.length : Int) + 1 ≤ (cp2 : Int) := by omega
      have f6 : (A.length : Int) + 1 ≤ (A.length : Int) + (B.length : Int) + 1 := by omega
      have f7 : (A.length : Int) + (B.length : Int) + 1 ≤ (cp3 : Int) := by omega
      have f8 : A.length + B.length + 1 - (A.length + 1) = B.length := by omega
      have hS0 : Below w3.heap.size w3 (w3.drewN nq) := below_drewN (Below.refl _ _) _
      have SA := Lib.hid (fun w' (hb : Below w3.heap.size w3 w') => same_yes w' _ _ _ (S3.out.below hb) (S1.out.below hb) (by omega))
      have SB := Lib.hid (fun w' (hb : Below w3.heap.size w3 w') => same_yes w' _ _ _ (S4.out.below hb) (S2.out.below hb) (by omega))
      have HB3D := Lib.hid (fun w' (hb : Below w3.heap.size w3 w') => below_trans HB3.out hb HB3.out.size)
      go_region_held3 (fun w' => Below w3.heap.size w3 w') (first | assumption | exact Below.drew (by assumption)) (first
        | (go_at_call 13; (with_reducible show Calls _ _ #[Value.slice y3 _ _, _] _ _); refine (SA.out _ (by assumption)).mono ?_; rintro e wq ⟨rfl, hBq⟩; have hSq := bt3 (w := w3) (by assumption) hBq; clear hBq)
        | (go_at_call 13; (with_reducible show Calls _ _ #[Value.slice y4 _ _, _] _ _); refine (SB.out _ (by assumption)).mono ?_; rintro e wq ⟨rfl, hBq⟩; have hSq := bt3 (w := w3) (by assumption) hBq; clear hBq)
        | (go_at_call 14; refine (WK.out _ (HB3D.out _ (by assumption))).mono ?_; rintro e wq ⟨rfl, hBq⟩; have hSq := bt3 (w := w3) (by assumption) hBq; clear hBq))
      go_wp2_with fail
      go_ret
      exact ⟨rfl, HB3D.out _ (by assumption)⟩
end Go.Proofs.YtnkfodelgpidkaaGreatDoor
