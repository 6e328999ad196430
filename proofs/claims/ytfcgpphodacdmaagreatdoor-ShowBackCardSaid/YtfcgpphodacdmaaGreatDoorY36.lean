/- Part of a proof: contracts of functions. -/
import Derived.Test.YtfcgpphodacdmaaGreatDoorY35
import Derived.Test.YtfcgpphodacdmaaGreatDoorY15
import Derived.Deep.RegionHeld3
set_option maxRecDepth 100000
set_option maxHeartbeats 4000000
set_option linter.all false
namespace Go.Proofs.YtfcgpphodacdmaaGreatDoor
open Go.RowKit
theorem zdQ {T e : TypeId} {B b : Nat} {p : Value} {bs : List Value} {w w' : World} (h : Lib.BuilderAt T e B b p bs w) (o : Below w.heap.size w w') : Lib.BuilderAt T e B b p bs w' := by
 have hlt := h.lt;obtain ⟨hB, v, hb, hown, hne⟩ := h;exact ⟨hB, v, (o.block b hlt).trans hb, qq hown o, hne⟩
theorem Bld.below {w w' : World} {B b : Nat} {l : List UInt8} (h : Bld w B b l) (o : Below w.heap.size w w') : Bld w' B b l := by
 rcases h with h | h
 ·exact .inl (zdQ h o)
 ·exact .inr (zdQ h o)
theorem zdR (B b : Nat) (bs : List Value) (s : ByteArray) (w : World) (h : Lib.IsBuilder 112 5 B b bs w) (hl : bs.length ≤ 2000000000) (hs : s.size ≤ 2000000000) (hBw : B ≤ w.heap.size) :
  Calls Tryz.prog 69 #[.pointer (some ⟨b, 0, none⟩), .string s] w fun e w' => e = .returned (.tuple #[.int .i64 s.size, .nilIface]) ∧ Lib.BuilderAt 112 5 B b (.pointer (some ⟨b, 0, none⟩)) (bs ++ Lib.strCells s) w' ∧ Below B w w' := by
 obtain ⟨i0, hi, hz0, hz1, hz2⟩ := info_parts zgb
 go_enter Tryz.func69, Tryz.ntmps69
 go_wp2_with fail;refine (uw B b bs _ h).mono ?_;rintro e w1 ⟨rfl, h1, hb1⟩;obtain ⟨hB, v, hbk, hown, hne⟩ := h1;have c1 : w1.cell? ⟨b, 1, none⟩ = some v := by rw [Lib.cell_of_heap hbk]; rfl
 go_wp2_with (at_builtin; refine Lib.wpList_append_own_string _ rfl _ _ 110 9 rfl B 5 i0 Tryz.underlying110 Tryz.underlying9 hi hz0 hz1 hz2 _ _ _ rfl hown s rfl ?c3 ?c4 ?c5 ?_)
 case c3 => unfold maxLen; omega
 case c4 => omega
 case c5 => have := hb1.size; omega
 intro v' w2 hown' hgrow _;have hlt : b < w1.heap.size := Lib.BuilderAt.lt ⟨hB, v, hbk, hown, hne⟩;have hb2 : w2.heap[b]? = some (.cells #[.pointer (some ⟨b, 0, none⟩), v] 112 (0, 0)) := by
  rw [hgrow.block b hlt (fun e => hne e.symm)];exact hbk
 have d1 : w2.cell? ⟨b, 1, none⟩ = some v := by rw [Lib.cell_of_heap hb2]; rfl
 have f1 : w2.frozen? ⟨b, 1, none⟩ = false := Lib.frozen_of_heap hb2 1;obtain ⟨ao, n', cap, rfl⟩ : ∃ ao n' cap, v' = .slice ao n' cap := by
  rcases hown'.2 with ⟨hv, _⟩ | ⟨g, cap, cur, hv, _⟩ <;> exact ⟨_, _, _, hv⟩
 go_wp2
 go_ret2;refine ⟨rfl, ?_, ?_⟩
 ·exact Lib.BuilderAt.put (T := 112) (e := 5) hB hb2 (bs' := bs ++ Lib.strCells s) (by simpa [Lib.strCells_length] using hown') (by decide)
 ·exact (hb1.grown hgrow (by have := hb1.size; omega) (fun k hk => (hown.lt k hk).1)).setCell (p := ⟨b, 1, none⟩) hB _
theorem zaZ (B b : Nat) (l : List UInt8) (s : List UInt8) (w : World) (h : Bld w B b l) (hl : l.length ≤ 2000000000) (hs : s.length ≤ 2000000000) (hBw : B ≤ w.heap.size) :
  Calls Tryz.prog 69 #[.pointer (some ⟨b, 0, none⟩), .string (bs s)] w fun e w' => (∃ v, e = .returned v) ∧ Bld w' B b (l ++ s) ∧ Below B w w' :=
 (zdR B b _ (bs s) w h (by rw [Lib.byteCells_length]; exact hl) hs hBw).mono fun e w' ⟨h1, h2, h3⟩ => ⟨⟨_, h1⟩, .inr (by rw [vx]; exact h2), h3⟩
theorem zgx (s : List UInt8) (l : List (List UInt8)) (x : List UInt8) : yw s (l ++ [x]) = yw s l ++ x ++ s := by
 unfold yw; rw [List.flatMap_append]; simp
theorem zcV (s : List UInt8) (l : List (List UInt8)) (j : Nat) : (yw s (l.take j)).length ≤ (yw s l).length := by
 conv => rhs; rw [← List.take_append_drop j l]
 unfold yw;rw [List.flatMap_append, List.length_append]; omega
theorem zdS (kv v : Value) (sep : List UInt8) (L : List (Int × List UInt8)) (w : World) (hk : IRo w kv (L.map (·.1))) (hf : ∀ q ∈ L, CtF w 28 v q.1 q.2) (hl : L.length ≤ 100000) (hb : (yw sep (L.map (·.2))).length ≤ 1000000000) :
    Calls Tryz.prog 41 #[v, kv, .string (bs sep)] w (zS w (yw sep (L.map (·.2)))) := by
  have HK := za hk;have HF := za hf;have HBB := za hb;obtain ⟨ao, cp, rfl⟩ := hk.slice;obtain ⟨ss, hss⟩ : ∃ ss, ss = L.map (·.2) := ⟨_, rfl⟩;have hl1 : (L.map (·.1)).length = ss.length := by rw [hss]; simp
  have hl2 : L.length = ss.length := by rw [hss]; simp
  rw [← hss] at HBB ⊢;have HSS := za hss;rw [hl1];rw [hl2] at hl;have HL1 := za hl1;have HL2 := za hl2;have HBN := za (Bld.new w);have hA : Below w.heap.size w (w.alloc (.cells #[.pointer none, .slice none 0 0] 112)) := (ze _ _).alloc (zd _) _;have HA := za hA;clear hk hf hb hss hl1 hl2 hA
  go_enter Tryz.func41, Tryz.ntmps41
  go_wp2_with fail
  go_loopg [9, 12] ss.length (fun gg x9 jj wr => ∃ j : Nat, jj = .int .i64 (j : Int) ∧ gg = ss.length - j ∧ j ≤ ss.length ∧ Hid (Below w.heap.size w wr) ∧ Hid (Bld wr w.heap.size w.heap.size (yw sep (ss.take j))))
  case atStart => exact ⟨0, rfl, rfl, Nat.zero_le _, HA.out, HBN.out⟩
  case round =>
    obtain ⟨j, rfl, rfl, hj, HB, HRW⟩ := hrel;by_cases hjl : j < ss.length
    · have hkr2 : ∃ g o, ao = some ⟨g, o, none⟩ ∧ g < wr.heap.size ∧ ss.length ≤ cp ∧ ∀ (h : j < L.length), wr.cell? ⟨g, o + j, none⟩ = some (.int .i64 L[j].1) := by
        have h1 := HL1.out;rcases HK.out.below HB.out with ⟨h, _⟩ | ⟨g, o, cap, hg, hcap, hv, hc⟩
        · rw [h] at h1; simp at h1; omega
        · injection hv with hv1 hv2 hv3;subst hv3;refine ⟨g, o, hv1, hg, by omega, fun h => ?_⟩;have := hc j (by simpa using h);rw [List.getElem_map] at this; exact this
      obtain ⟨g, o, rfl, hg, hcap, hc⟩ := hkr2;have hjL : j < L.length := by rw [HL2.out]; exact hjl
      have cj := hc hjL;have FC := za (HF.out _ (List.getElem_mem hjL) wr HB.out);have hsj : L[j].2 = ss[j] := by
        have := HSS.out;subst this;rw [List.getElem_map]
      rw [hsj] at FC;have hstep := zgx sep (ss.take j) ss[j];rw [← List.take_succ_eq_append_getElem hjl] at hstep;have hle1 := zcV sep ss (j + 1);rw [hstep, List.length_append, List.length_append] at hle1;have hbb := HBB.out;have HST := za hstep;have HLE := za hle1;have HBS := za hbb;clear hc hsj hstep hle1 hbb;generalize L[j].1 = pj at *;generalize ss[j] = sj at *;go_wp2_with fail;refine FC.out.mono ?_;rintro e w2 ⟨rfl, hB2⟩;have HRW2 := za (HRW.out.below hB2);have HB2 := za (HB.out.trans (hB2.mono HB.out.size));clear hB2;go_wp2_with fail;refine (zaZ _ _ _ sj w2 HRW2.out (by have := HLE.out; have := HBS.out; omega) (by have := HLE.out; have := HBS.out; omega) HB2.out.size).mono ?_;rintro e w3 ⟨⟨v3, rfl⟩, hR3, hB3⟩;have HRW3 := za hR3;have HB3 := za (HB2.out.trans hB3);clear hR3 hB3;go_wp2_with fail;refine (zaZ _ _ _ sep w3 HRW3.out (by have := HLE.out; have := HBS.out; rw [List.length_append]; omega) (by have := HLE.out; have := HBS.out; omega) HB3.out.size).mono ?_;rintro e w4 ⟨⟨v4, rfl⟩, hR4, hB4⟩;have HRW4 := za hR4;have HB4 := za (HB3.out.trans hB4);clear hR4 hB4;go_wp2_with fail
      go_roundg (ss.length - (j + 1))
      case measure => omega
      case rel => exact ⟨j + 1, by simp, rfl, hjl, HB4.out, by
        show Bld _ _ _ _
        rw [HST.out]; exact HRW4.out⟩
    · have hje : j = ss.length := by omega
      subst hje;have hro := HRW.out;rw [List.take_length] at hro;have BS := za (ju _ _ _ wr hro HB.out.size);clear hro;go_wp2_with fail;refine BS.out.mono ?_;rintro e w2 ⟨rfl, hB2⟩;have HB2 := za (HB.out.trans hB2);clear hB2;go_wp2_with fail;go_ret;exact ⟨rfl, HB2.out⟩
section
theorem zpW (w : World) (v : Value) (L : List LN) (hrow : xf w v L) (i : Nat) (u : Tr) (hs : Sub L i u) (hF : CtF w 28 v (i : Int) (fB u)) (hb : (bs (fB u)).size ≤ 1000000000) (hk : u.kind = 28) : CtF w 44 v (i : Int) (pB u) := by
 intro w1 hb1;have hlt : i < L.length := by have := hs.lt; have := yk u; omega
 have hat := hs.at;rw [List.getElem?_eq_getElem hlt] at hat;injection hat with hat;obtain ⟨ao, cp, rfl⟩ := hrow.slice;obtain ⟨g, rfl, hg, hc⟩ := (hrow.below hb1).get (by omega);have HC := za (hc i hlt);rw [hat] at HC;have FF := za (hF w1 hb1);have hi0 : ¬ (i : Int) < 0 := by omega
 have hi1 : ¬ (L.length : Int) ≤ (i : Int) := by omega
 have hz := hb1.size;have hl : yP u = true := by unfold yP; rw [hk]; simp
 have hp : pB u = fB u := by unfold pB brB; rw [if_pos hl]
 rw [hp];rw [hk] at HC;generalize u.kids.length = kn at *;clear hl hp;generalize fB u = s at *;generalize (zs u.kids).length + 1 = sz at *;generalize u.text = x at *;generalize u.bits = b at *;clear hrow hs hF hat hc hb1
 go_enter Tryz.func44, Tryz.ntmps44
 go_wp2_with fail;refine FF.out.mono ?_;rintro e w2 ⟨rfl, hB2⟩;obtain ⟨c0, c1, c2, c3, c4⟩ := HC.out;have d0 := (hB2.cell (p := ⟨g, i * 5, none⟩) hg).trans c0;have d1 := (hB2.cell (p := ⟨g, i * 5 + 1, none⟩) hg).trans c1;have d2 := (hB2.cell (p := ⟨g, i * 5 + 2, none⟩) hg).trans c2;have d3 := (hB2.cell (p := ⟨g, i * 5 + 3, none⟩) hg).trans c3;have d4 := (hB2.cell (p := ⟨g, i * 5 + 4, none⟩) hg).trans c4;have HB2 := za (hB2.alloc hB2.size (.cells #[.int .i64 28, .int .i64 (kn : Int), .int .i64 (sz : Int), .string (bs x), .int .u64 b] 40));clear hB2 c0 c1 c2 c3 c4;go_wp2_with fail;go_ret;exact ⟨rfl, HB2.out⟩
theorem zpX (w : World) (v : Value) (L : List LN) (hrow : xf w v L) (i : Nat) (u : Tr) (hs : Sub L i u) (hF : CtF w 28 v (i : Int) (fB u)) (hb : (bs (fB u)).size ≤ 1000000000) (hk : u.kind = 29) : CtF w 44 v (i : Int) (pB u) := by
 intro w1 hb1;have hlt : i < L.length := by have := hs.lt; have := yk u; omega
 have hat := hs.at;rw [List.getElem?_eq_getElem hlt] at hat;injection hat with hat;obtain ⟨ao, cp, rfl⟩ := hrow.slice;obtain ⟨g, rfl, hg, hc⟩ := (hrow.below hb1).get (by omega);have HC := za (hc i hlt);rw [hat] at HC;have FF := za (hF w1 hb1);have hi0 : ¬ (i : Int) < 0 := by omega
 have hi1 : ¬ (L.length : Int) ≤ (i : Int) := by omega
 have hz := hb1.size;have hl : yP u = true := by unfold yP; rw [hk]; simp
 have hp : pB u = fB u := by unfold pB brB; rw [if_pos hl]
 rw [hp];rw [hk] at HC;generalize u.kids.length = kn at *;clear hl hp;generalize fB u = s at *;generalize (zs u.kids).length + 1 = sz at *;generalize u.text = x at *;generalize u.bits = b at *;clear hrow hs hF hat hc hb1
 go_enter Tryz.func44, Tryz.ntmps44
 go_wp2_with fail;refine FF.out.mono ?_;rintro e w2 ⟨rfl, hB2⟩;obtain ⟨c0, c1, c2, c3, c4⟩ := HC.out;have d0 := (hB2.cell (p := ⟨g, i * 5, none⟩) hg).trans c0;have d1 := (hB2.cell (p := ⟨g, i * 5 + 1, none⟩) hg).trans c1;have d2 := (hB2.cell (p := ⟨g, i * 5 + 2, none⟩) hg).trans c2;have d3 := (hB2.cell (p := ⟨g, i * 5 + 3, none⟩) hg).trans c3;have d4 := (hB2.cell (p := ⟨g, i * 5 + 4, none⟩) hg).trans c4;have HB2 := za (hB2.alloc hB2.size (.cells #[.int .i64 29, .int .i64 (kn : Int), .int .i64 (sz : Int), .string (bs x), .int .u64 b] 40));clear hB2 c0 c1 c2 c3 c4;go_wp2_with fail;go_ret;exact ⟨rfl, HB2.out⟩
theorem zpY (w : World) (v : Value) (L : List LN) (hrow : xf w v L) (i : Nat) (u : Tr) (hs : Sub L i u) (hF : CtF w 28 v (i : Int) (fB u)) (hb : (bs (fB u)).size ≤ 1000000000) (hk : u.kind = 31) : CtF w 44 v (i : Int) (pB u) := by
 intro w1 hb1;have hlt : i < L.length := by have := hs.lt; have := yk u; omega
 have hat := hs.at;rw [List.getElem?_eq_getElem hlt] at hat;injection hat with hat;obtain ⟨ao, cp, rfl⟩ := hrow.slice;obtain ⟨g, rfl, hg, hc⟩ := (hrow.below hb1).get (by omega);have HC := za (hc i hlt);rw [hat] at HC;have FF := za (hF w1 hb1);have hi0 : ¬ (i : Int) < 0 := by omega
 have hi1 : ¬ (L.length : Int) ≤ (i : Int) := by omega
 have hz := hb1.size;have hl : yP u = true := by unfold yP; rw [hk]; simp
 have hp : pB u = fB u := by unfold pB brB; rw [if_pos hl]
 rw [hp];rw [hk] at HC;generalize u.kids.length = kn at *;clear hl hp;generalize fB u = s at *;generalize (zs u.kids).length + 1 = sz at *;generalize u.text = x at *;generalize u.bits = b at *;clear hrow hs hF hat hc hb1
 go_enter Tryz.func44, Tryz.ntmps44
 go_wp2_with fail;refine FF.out.mono ?_;rintro e w2 ⟨rfl, hB2⟩;obtain ⟨c0, c1, c2, c3, c4⟩ := HC.out;have d0 := (hB2.cell (p := ⟨g, i * 5, none⟩) hg).trans c0;have d1 := (hB2.cell (p := ⟨g, i * 5 + 1, none⟩) hg).trans c1;have d2 := (hB2.cell (p := ⟨g, i * 5 + 2, none⟩) hg).trans c2;have d3 := (hB2.cell (p := ⟨g, i * 5 + 3, none⟩) hg).trans c3;have d4 := (hB2.cell (p := ⟨g, i * 5 + 4, none⟩) hg).trans c4;have HB2 := za (hB2.alloc hB2.size (.cells #[.int .i64 31, .int .i64 (kn : Int), .int .i64 (sz : Int), .string (bs x), .int .u64 b] 40));clear hB2 c0 c1 c2 c3 c4;go_wp2_with fail;go_ret;exact ⟨rfl, HB2.out⟩
theorem zlQ (w : World) (v : Value) (L : List LN) (hrow : xf w v L) (i : Nat) (u : Tr) (hs : Sub L i u) (hF : CtF w 28 v (i : Int) (fB u)) (hb : (bs (fB u)).size ≤ 1000000000) (h28 : u.kind ≠ 28) (h29 : u.kind ≠ 29) (h31 : u.kind ≠ 31) (hn : u.kids = []) : CtF w 44 v (i : Int) (pB u) := by
 intro w1 hb1;have hlt : i < L.length := by have := hs.lt; have := yk u; omega
 have hat := hs.at;rw [List.getElem?_eq_getElem hlt] at hat;injection hat with hat;obtain ⟨ao, cp, rfl⟩ := hrow.slice;obtain ⟨g, rfl, hg, hc⟩ := (hrow.below hb1).get (by omega);have HC := za (hc i hlt);rw [hat] at HC;have FF := za (hF w1 hb1);have hi0 : ¬ (i : Int) < 0 := by omega
 have hi1 : ¬ (L.length : Int) ≤ (i : Int) := by omega
 have hz := hb1.size;have e28 : (u.kind == 28) = false := beq_eq_false_iff_ne.2 h28;have e29 : (u.kind == 29) = false := beq_eq_false_iff_ne.2 h29;have e31 : (u.kind == 31) = false := beq_eq_false_iff_ne.2 h31;have hl : yP u = true := by unfold yP; rw [hn]; rfl
 have hp : pB u = fB u := by unfold pB brB; rw [if_pos hl]
 rw [hp];have hn0 : u.kids.length = 0 := by rw [hn]; rfl
 clear hp hl hn h28 h29 h31;generalize u.kids.length = kn at *;subst hn0;generalize u.kind = kk at *;generalize fB u = s at *;generalize (zs u.kids).length + 1 = sz at *;generalize u.text = x at *;generalize u.bits = b at *;clear hrow hs hF hat hc hb1
 go_enter Tryz.func44, Tryz.ntmps44
 go_wp2_with fail;refine FF.out.mono ?_;rintro e w2 ⟨rfl, hB2⟩;obtain ⟨c0, c1, c2, c3, c4⟩ := HC.out;have d0 := (hB2.cell (p := ⟨g, i * 5, none⟩) hg).trans c0;have d1 := (hB2.cell (p := ⟨g, i * 5 + 1, none⟩) hg).trans c1;have d2 := (hB2.cell (p := ⟨g, i * 5 + 2, none⟩) hg).trans c2;have d3 := (hB2.cell (p := ⟨g, i * 5 + 3, none⟩) hg).trans c3;have d4 := (hB2.cell (p := ⟨g, i * 5 + 4, none⟩) hg).trans c4;have HB2 := za (hB2.alloc hB2.size (.cells #[.int .i64 kk, .int .i64 ((0 : Nat) : Int), .int .i64 (sz : Int), .string (bs x), .int .u64 b] 40));clear hB2 c0 c1 c2 c3 c4;go_wp2_with fail;go_ret;exact ⟨rfl, HB2.out⟩
theorem zlR (w : World) (v : Value) (L : List LN) (hrow : xf w v L) (i : Nat) (u : Tr) (hs : Sub L i u) (hF : CtF w 28 v (i : Int) (fB u)) (hb : (bs (fB u)).size ≤ 1000000000) (h28 : u.kind ≠ 28) (h29 : u.kind ≠ 29) (h31 : u.kind ≠ 31) (hn : u.kids ≠ []) : CtF w 44 v (i : Int) (pB u) := by
 intro w1 hb1;have hlt : i < L.length := by have := hs.lt; have := yk u; omega
 have hat := hs.at;rw [List.getElem?_eq_getElem hlt] at hat;injection hat with hat;obtain ⟨ao, cp, rfl⟩ := hrow.slice;obtain ⟨g, rfl, hg, hc⟩ := (hrow.below hb1).get (by omega);have HC := za (hc i hlt);rw [hat] at HC;have FF := za (hF w1 hb1);have hi0 : ¬ (i : Int) < 0 := by omega
 have hi1 : ¬ (L.length : Int) ≤ (i : Int) := by omega
 have hz := hb1.size;have e28 : (u.kind == 28) = false := beq_eq_false_iff_ne.2 h28;have e29 : (u.kind == 29) = false := beq_eq_false_iff_ne.2 h29;have e31 : (u.kind == 31) = false := beq_eq_false_iff_ne.2 h31;have hl : yP u = false := by
  unfold yP;have h0 : u.kids.isEmpty = false := by cases hq : u.kids; exact absurd hq hn; rfl
  rw [h0, e28, e29, e31]; rfl
 have hp : pB u = [40] ++ fB u ++ [41] := by unfold pB brB; rw [hl]; rfl
 rw [hp];obtain ⟨T, hT⟩ : ∃ T, T = [40] ++ fB u ++ [41] := ⟨_, rfl⟩;rw [← hT];have HTT := za hT;clear hT;have hn0 : u.kids.length ≠ 0 := fun h => hn (List.eq_nil_of_length_eq_zero h)
 clear hp hl hn h28 h29 h31;generalize u.kids.length = kn at *;have hkn : ((kn : Int) == 0) = false := beq_eq_false_iff_ne.2 (by omega);have hsum : (⟨#[40]⟩ : ByteArray).size = 1 := rfl;generalize u.kind = kk at *;generalize fB u = s at *;generalize (zs u.kids).length + 1 = sz at *;generalize u.text = x at *;generalize u.bits = b at *;clear hrow hs hF hat hc hb1
 go_enter Tryz.func44, Tryz.ntmps44
 go_wp2_with fail;refine FF.out.mono ?_;rintro e w2 ⟨rfl, hB2⟩;obtain ⟨c0, c1, c2, c3, c4⟩ := HC.out;have d0 := (hB2.cell (p := ⟨g, i * 5, none⟩) hg).trans c0;have d1 := (hB2.cell (p := ⟨g, i * 5 + 1, none⟩) hg).trans c1;have d2 := (hB2.cell (p := ⟨g, i * 5 + 2, none⟩) hg).trans c2;have d3 := (hB2.cell (p := ⟨g, i * 5 + 3, none⟩) hg).trans c3;have d4 := (hB2.cell (p := ⟨g, i * 5 + 4, none⟩) hg).trans c4;have HB2 := za (hB2.alloc hB2.size (.cells #[.int .i64 kk, .int .i64 (kn : Int), .int .i64 (sz : Int), .string (bs x), .int .u64 b] 40));clear hB2 c0 c1 c2 c3 c4;go_wp2_with fail;go_ret;exact ⟨by rw [HTT.out, z7, z7]; first | done | rfl, HB2.out⟩
theorem zpZ (w : World) (v : Value) (L : List LN) (hrow : xf w v L) (i : Nat) (u : Tr) (hs : Sub L i u) (hF : CtF w 28 v (i : Int) (fB u)) (hb : (bs (fB u)).size ≤ 1000000000) : CtF w 44 v (i : Int) (pB u) := by
 by_cases h28 : u.kind = 28
 ·exact zpW w v L hrow i u hs hF hb h28
 by_cases h29 : u.kind = 29
 ·exact zpX w v L hrow i u hs hF hb h29
 by_cases h31 : u.kind = 31
 ·exact zpY w v L hrow i u hs hF hb h31
 by_cases hn : u.kids = []
 ·exact zlQ w v L hrow i u hs hF hb h28 h29 h31 hn
 ·exact zlR w v L hrow i u hs hF hb h28 h29 h31 hn
theorem zlS (w : World) (v : Value) (L : List LN) (hrow : xf w v L) (i : Nat) (u : Tr) (hs : Sub L i u) (hF : CtF w 28 v (i : Int) (fB u)) (hb : (bs (fB u)).size ≤ 1000000000) : CtF w 73 v (i : Int) (eB u) := by
 intro w1 hb1;have hlt : i < L.length := by have := hs.lt; have := yk u; omega
 have hat := hs.at;rw [List.getElem?_eq_getElem hlt] at hat;injection hat with hat;obtain ⟨ao, cp, rfl⟩ := hrow.slice;obtain ⟨g, rfl, hg, hc⟩ := (hrow.below hb1).get (by omega);obtain ⟨c0, _⟩ := hc i hlt;rw [hat] at c0;simp only at c0;have FF := za (hF w1 hb1);have hi0 : ¬ (i : Int) < 0 := by omega
 have hi1 : ¬ (L.length : Int) ≤ (i : Int) := by omega
 by_cases h5 : u.kind = 5
 ·have e : eB u = [] := by unfold eB; rw [if_pos h5]
  rw [e];rw [h5] at c0;clear hrow hs hF hat hc hb1 h5 e
  go_enter Tryz.func73, Tryz.ntmps73
  go_wp2_with fail;go_ret;exact ⟨rfl, ze _ _⟩
 ·have e : eB u = [32] ++ fB u := by unfold eB; rw [if_neg h5]; rfl
  rw [e];obtain ⟨T, hT⟩ : ∃ T, T = [32] ++ fB u := ⟨_, rfl⟩;rw [← hT];have HTT := za hT;clear hT;have e5 : (u.kind == 5) = false := beq_eq_false_iff_ne.2 h5;generalize fB u = s at *;generalize u.kind = kk at *;have hsum : (⟨#[32]⟩ : ByteArray).size = 1 := rfl;clear hrow hs hF hat hc hb1 h5 e
  go_enter Tryz.func73, Tryz.ntmps73
  go_wp2_with fail;refine FF.out.mono ?_;rintro e w2 ⟨rfl, hB2⟩;have HB2 := za hB2;clear hB2;go_wp2_with fail;go_ret;exact ⟨by rw [HTT.out, z7]; first | done | rfl, HB2.out⟩
theorem za2 (x : List UInt8) (hx : x.length ≤ 100000) (w : World) (ht : Bt.tab w) :
  Calls Tryz.prog 45 #[.string (bs x)] w (zS w (yf x)) := by
 have P := za (fun w ht => zhw 4 0 0 (bs x) hx (by decide) (by decide) w ht);have HT := za ht;have e : prS 4 (bs x) 0 = bs (yf x) := rfl;rw [e] at P;generalize yf x = q at *;clear ht e
 go_enter Tryz.func45, Tryz.ntmps45
 go_wp2_with fail;refine (P.out _ HT.out).mono ?_;rintro e w2 ⟨rfl, hB2⟩;have HB2 := za hB2;clear hB2;go_wp2_with fail;go_ret;exact ⟨rfl, HB2.out⟩
section
variable {w wc w2 : World} {a0 a1 a2 a3 a4 : Addr} {v0 v1 v2 v3 v4 : Value}
abbrev Kp (w wc : World) (a0 : Addr) (v0 : Value) (a1 : Addr) (v1 : Value) (a2 : Addr) (v2 : Value) (a3 : Addr) (v3 : Value) (a4 : Addr) (v4 : Value) : Prop := wc.cell? a0 = some v0 ∧ wc.cell? a1 = some v1 ∧ wc.cell? a2 = some v2 ∧ wc.cell? a3 = some v3 ∧ wc.cell? a4 = some v4 ∧ Below w.heap.size w wc
theorem zm {p : Addr} {v : Value} (hB : Below wc.heap.size wc w2) (h : wc.cell? p = some v) : w2.cell? p = some v := by
 have hlt : p.block < wc.heap.size := by
  rcases Nat.lt_or_ge p.block wc.heap.size with h1 | h1
  ·exact h1
  ·simp [World.cell?, Array.getElem?_eq_none h1] at h
 exact (hB.cell hlt).trans h
theorem yW (h : Kp w wc a0 v0 a1 v1 a2 v2 a3 v3 a4 v4) : Kp w wc.drew a0 v0 a1 v1 a2 v2 a3 v3 a4 v4 := ⟨h.1, h.2.1, h.2.2.1, h.2.2.2.1, h.2.2.2.2.1, h.2.2.2.2.2.drew⟩
theorem zU (h : Kp w wc a0 v0 a1 v1 a2 v2 a3 v3 a4 v4) (hB : Below wc.heap.size wc w2) : Kp w w2 a0 v0 a1 v1 a2 v2 a3 v3 a4 v4 := ⟨zm hB h.1, zm hB h.2.1, zm hB h.2.2.1, zm hB h.2.2.2.1, zm hB h.2.2.2.2.1, yc h.2.2.2.2.2 hB⟩
theorem z8 (h : Kp w wc a0 v0 a1 v1 a2 v2 a3 v3 a4 v4) : Below w.heap.size w wc := h.2.2.2.2.2
end
theorem za3 (kv v : Value) (p : Int) (s : List UInt8) (L : List (Int × List UInt8)) (w : World) (hk : IRo w kv (p :: L.map (·.1))) (h0 : CtF w 44 v p s) (hf : ∀ q ∈ L, CtF w 44 v q.1 q.2) (hl : L.length ≤ 100000) (hs : (bs s).size ≤ 1000000000) (hb : (zE (L.map (·.2))).length ≤ 1000000000) :
    Calls Tryz.prog 75 #[v, kv] w (zS w (s ++ [40] ++ zE (L.map (·.2)) ++ [41])) := by
  obtain ⟨ao, cp, rfl⟩ := hk.slice;obtain ⟨g, o, rfl, hg, hcap, hc⟩ := hk.get (by simp);have c0 : w.cell? ⟨g, o, none⟩ = some (.int .i64 p) := hc 0 (by simp);have e1 : (p :: L.map (·.1)).length = L.length + 1 := by simp
  obtain ⟨y, hy⟩ : ∃ y : Option Addr, (if cp = 1 then some (⟨g, o, none⟩ : Addr) else some ⟨g, o + 1, none⟩) = y := ⟨_, rfl⟩;have hp1 : IRo w (.slice y L.length (cp - 1)) (((p :: L.map (·.1)).drop 1).take L.length) := by
    rw [← hy];by_cases hc1 : cp = 1
    · have hl0 : L.length = 0 := by omega
      rw [if_pos hc1, hl0];exact .inl ⟨by simp, _, _, rfl⟩
    · rw [if_neg hc1];exact hk.part 1 L.length (cp - 1) (by rw [e1]; omega) (by omega)
  have hd : (((p :: L.map (·.1)).drop 1).take L.length) = L.map (·.1) := by
    show (L.map (·.1)).take L.length = _
    rw [List.take_of_length_le (by simp)]
  rw [hd] at hp1;have OPC := za (fun (w1 : World) (hb1 : Below w.heap.size w w1) => h0 w1 hb1);have RWC := za (fun (w1 : World) (hb1 : Below w.heap.size w w1) => jA _ v L w1 (hp1.below hb1) (fun q hq => (hf q hq).below hb1) hl hb);obtain ⟨T, hT⟩ : ∃ T, T = s ++ [40] ++ zE (L.map (·.2)) ++ [41] := ⟨_, rfl⟩;rw [← hT];have HTT := za hT;have hb2 : (bs (zE (L.map (·.2)))).size ≤ 1000000000 := hb;rw [e1] at hcap ⊢;have hcap1 : (1 : Int) ≤ (cp : Int) := by omega
  have hcap2 : ((L.length : Int) + 1) ≤ (cp : Int) := by omega
  clear hk hc h0 hf hT hb hd hp1 e1;generalize zE (L.map (·.2)) = t at *;generalize L.length = n at *;have z1 : (9223372036854775807 < (bs s).size + 1) = False := eq_false (by omega);have z2 : (9223372036854775807 < (bs s).size + 1 + (bs t).size) = False := eq_false (by omega);have z3 : (9223372036854775807 < (bs s).size + 1 + (bs t).size + 1) = False := eq_false (by omega);have hn0 : (0 : Int) ≤ (n : Int) := by omega
  have hn1 : (1 : Int) ≤ (n : Int) + 1 := by omega
  have hn2 : ((1 : Int) ≤ ((n + 1 : Nat) : Int)) = True := eq_true (by omega);have HK0 : Kp w w ⟨g, o, none⟩ (.int .i64 p) ⟨g, o, none⟩ (.int .i64 p) ⟨g, o, none⟩ (.int .i64 p) ⟨g, o, none⟩ (.int .i64 p) ⟨g, o, none⟩ (.int .i64 p) := ⟨c0, c0, c0, c0, c0, ze _ _⟩
  go_enter Tryz.func75, Tryz.ntmps75
  go_wp2_with fail
  go_region_held3 (fun wc => Kp w wc ⟨g, o, none⟩ (.int .i64 p) ⟨g, o, none⟩ (.int .i64 p) ⟨g, o, none⟩ (.int .i64 p) ⟨g, o, none⟩ (.int .i64 p) ⟨g, o, none⟩ (.int .i64 p)) (first | assumption | exact yW (by assumption)) (first
    | (go_at_call 44; refine (OPC.out _ (z8 (by assumption))).mono ?_; rintro e wq ⟨rfl, hBq⟩; have hSq := zU (w := w) (a0 := ⟨g, o, none⟩) (a1 := ⟨g, o, none⟩) (a2 := ⟨g, o, none⟩) (a3 := ⟨g, o, none⟩) (a4 := ⟨g, o, none⟩) (by assumption) hBq; clear hBq)
    | (go_at_call 42; refine (RWC.out _ (z8 (by assumption))).mono ?_; rintro e wq ⟨rfl, hBq⟩; have hSq := zU (w := w) (a0 := ⟨g, o, none⟩) (a1 := ⟨g, o, none⟩) (a2 := ⟨g, o, none⟩) (a3 := ⟨g, o, none⟩) (a4 := ⟨g, o, none⟩) (by assumption) hBq; clear hBq))
  all_goals
    go_wp2_with fail;go_ret;exact ⟨by rw [HTT.out, z7, z7, z7]; first | done | rfl, z8 (by assumption)⟩
end
theorem zrs (n z : Int) (x : List UInt8) (b : Int) (kv v : Value) (w : World) : Calls Tryz.prog 47 #[v, .agg #[.int .i64 5, .int .i64 n, .int .i64 z, .string (bs x), .int .u64 b], kv] w (zS w ([59])) := by
 have HA : Hid (Below w.heap.size w (w.alloc (.cells #[.int .i64 5, .int .i64 n, .int .i64 z, .string (bs x), .int .u64 b] 40))) := (ze _ _).alloc (zd _) _
 go_enter Tryz.func47, Tryz.ntmps47
 go_wp2_with fail;go_ret;exact ⟨rfl, HA.out⟩
theorem zqf (n z : Int) (x : List UInt8) (b : Int) (kv v : Value) (w : World) : Calls Tryz.prog 47 #[v, .agg #[.int .i64 11, .int .i64 n, .int .i64 z, .string (bs x), .int .u64 b], kv] w (zS w ([98, 114, 101, 97, 107, 59])) := by
 have HA : Hid (Below w.heap.size w (w.alloc (.cells #[.int .i64 11, .int .i64 n, .int .i64 z, .string (bs x), .int .u64 b] 40))) := (ze _ _).alloc (zd _) _
 go_enter Tryz.func47, Tryz.ntmps47
 go_wp2_with fail;go_ret;exact ⟨rfl, HA.out⟩
theorem zqg (n z : Int) (x : List UInt8) (b : Int) (kv v : Value) (w : World) : Calls Tryz.prog 47 #[v, .agg #[.int .i64 12, .int .i64 n, .int .i64 z, .string (bs x), .int .u64 b], kv] w (zS w ([99, 111, 110, 116, 105, 110, 117, 101, 59])) := by
 have HA : Hid (Below w.heap.size w (w.alloc (.cells #[.int .i64 12, .int .i64 n, .int .i64 z, .string (bs x), .int .u64 b] 40))) := (ze _ _).alloc (zd _) _
 go_enter Tryz.func47, Tryz.ntmps47
 go_wp2_with fail;go_ret;exact ⟨rfl, HA.out⟩
theorem zrt (n z : Int) (x : List UInt8) (b : Int)  (kv v : Value) (p0 : Int) (s0 : List UInt8) (w : World) (hk : IRo w kv [p0]) (h0 : CtF w 28 v p0 s0) (b0 : (bs s0).size ≤ 1000000000) (bx : (bs x).size ≤ 1000000000) :
  Calls Tryz.prog 47 #[v, .agg #[.int .i64 6, .int .i64 n, .int .i64 z, .string (bs x), .int .u64 b], kv] w (zS w ([40] ++ s0 ++ [41, 59])) := by
 obtain ⟨ao, cp, rfl⟩ := hk.slice;obtain ⟨g, o, rfl, hg, hcap, hc⟩ := hk.get (by simp);have c0 : w.cell? ⟨g, o, none⟩ = some (.int .i64 p0) := hc 0 (by simp);have H0 := za h0;obtain ⟨T, hT⟩ : ∃ T : List UInt8, T = [40] ++ s0 ++ [41, 59] := ⟨_, rfl⟩;rw [← hT];have HTT := za hT;have zf0 : (9223372036854775807 < 1 + (bs s0).size) = False := eq_false (by omega);have zf1 : (9223372036854775807 < 1 + (bs s0).size + 2) = False := eq_false (by omega);have HK0 : Kp w (w.alloc (.cells #[.int .i64 6, .int .i64 n, .int .i64 z, .string (bs x), .int .u64 b] 40)) ⟨g, o, none⟩ (.int .i64 p0) ⟨g, o, none⟩ (.int .i64 p0) ⟨g, o, none⟩ (.int .i64 p0) ⟨g, o, none⟩ (.int .i64 p0) ⟨w.heap.size, 3, none⟩ (.string (bs x)) := ⟨zi c0 _, zi c0 _, zi c0 _, zi c0 _, zR _ _ _ 3, (ze _ _).alloc (zd _) _⟩;clear hk hc hT h0;show Calls _ _ #[v, .agg #[.int .i64 6, .int .i64 n, .int .i64 z, .string (bs x), .int .u64 b], .slice (some ⟨g, o, none⟩) 1 cp] _ _
 go_enter Tryz.func47, Tryz.ntmps47
 go_wp2_with fail;generalize w.alloc (.cells #[.int .i64 6, .int .i64 n, .int .i64 z, .string (bs x), .int .u64 b] 40) = wb at *;refine (H0.out wb (z8 HK0)).mono ?_;rintro e w2 ⟨rfl, hB2⟩;have HW := za (yc (z8 HK0) hB2);clear hB2;go_wp2_with fail;go_ret;exact ⟨by rw [HTT.out]; simp only [z7]; first | done | rfl, HW.out⟩
theorem zru (n z : Int) (x : List UInt8) (b : Int)  (kv v : Value) (p0 p1 : Int) (s0 s1 : List UInt8) (w : World) (hk : IRo w kv [p0, p1]) (h0 : CtF w 28 v p0 s0) (b0 : (bs s0).size ≤ 1000000000) (h1 : CtF w 28 v p1 s1) (b1 : (bs s1).size ≤ 1000000000) (bx : (bs x).size ≤ 1000000000) :
    Calls Tryz.prog 47 #[v, .agg #[.int .i64 8, .int .i64 n, .int .i64 z, .string (bs x), .int .u64 b], kv] w (zS w ([119, 104, 105, 108, 101, 32, 40] ++ s0 ++ [41, 32] ++ s1)) := by
  obtain ⟨ao, cp, rfl⟩ := hk.slice;obtain ⟨g, o, rfl, hg, hcap, hc⟩ := hk.get (by simp);have c0 : w.cell? ⟨g, o, none⟩ = some (.int .i64 p0) := hc 0 (by simp);have c1 : w.cell? ⟨g, o + 1, none⟩ = some (.int .i64 p1) := hc 1 (by simp);have H0 := za h0;have H1 := za h1;obtain ⟨T, hT⟩ : ∃ T : List UInt8, T = [119, 104, 105, 108, 101, 32, 40] ++ s0 ++ [41, 32] ++ s1 := ⟨_, rfl⟩;rw [← hT];have HTT := za hT;have zf0 : (9223372036854775807 < 7 + (bs s0).size) = False := eq_false (by omega);have zf1 : (9223372036854775807 < 7 + (bs s0).size + 2) = False := eq_false (by omega);have zf2 : (9223372036854775807 < 7 + (bs s0).size + 2 + (bs s1).size) = False := eq_false (by omega);have HK0 : Kp w (w.alloc (.cells #[.int .i64 8, .int .i64 n, .int .i64 z, .string (bs x), .int .u64 b] 40)) ⟨g, o, none⟩ (.int .i64 p0) ⟨g, o + 1, none⟩ (.int .i64 p1) ⟨g, o, none⟩ (.int .i64 p0) ⟨g, o, none⟩ (.int .i64 p0) ⟨w.heap.size, 3, none⟩ (.string (bs x)) := ⟨zi c0 _, zi c1 _, zi c0 _, zi c0 _, zR _ _ _ 3, (ze _ _).alloc (zd _) _⟩;clear hk hc hT h0 h1;show Calls _ _ #[v, .agg #[.int .i64 8, .int .i64 n, .int .i64 z, .string (bs x), .int .u64 b], .slice (some ⟨g, o, none⟩) 2 cp] _ _
  go_enter Tryz.func47, Tryz.ntmps47
  go_wp2_with fail;generalize w.alloc (.cells #[.int .i64 8, .int .i64 n, .int .i64 z, .string (bs x), .int .u64 b] 40) = wb at *
  go_region_held3 (fun wc => Kp w wc ⟨g, o, none⟩ (.int .i64 p0) ⟨g, o + 1, none⟩ (.int .i64 p1) ⟨g, o, none⟩ (.int .i64 p0) ⟨g, o, none⟩ (.int .i64 p0) ⟨w.heap.size, 3, none⟩ (.string (bs x))) (first | assumption | exact yW (by assumption)) (first
    | (go_at_call 28; (with_reducible show Calls _ _ #[_, .int .i64 p0] _ _); refine (H0.out _ (z8 (by assumption))).mono ?_; rintro e wq ⟨rfl, hBq⟩; have hSq := zU (w := w) (a0 := ⟨g, o, none⟩) (a1 := ⟨g, o + 1, none⟩) (a2 := ⟨g, o, none⟩) (a3 := ⟨g, o, none⟩) (a4 := ⟨w.heap.size, 3, none⟩) (by assumption) hBq; clear hBq)
    | (go_at_call 28; (with_reducible show Calls _ _ #[_, .int .i64 p1] _ _); refine (H1.out _ (z8 (by assumption))).mono ?_; rintro e wq ⟨rfl, hBq⟩; have hSq := zU (w := w) (a0 := ⟨g, o, none⟩) (a1 := ⟨g, o + 1, none⟩) (a2 := ⟨g, o, none⟩) (a3 := ⟨g, o, none⟩) (a4 := ⟨w.heap.size, 3, none⟩) (by assumption) hBq; clear hBq))
  all_goals
    go_wp2_with fail;go_ret;exact ⟨by rw [HTT.out]; simp only [z7]; first | done | rfl, z8 (by assumption)⟩
theorem zrv (n z : Int) (x : List UInt8) (b : Int)  (kv v : Value) (p0 p1 : Int) (s0 s1 : List UInt8) (w : World) (hk : IRo w kv [p0, p1]) (h0 : CtF w 28 v p0 s0) (b0 : (bs s0).size ≤ 1000000000) (h1 : CtF w 28 v p1 s1) (b1 : (bs s1).size ≤ 1000000000) (bx : (bs x).size ≤ 1000000000) :
    Calls Tryz.prog 47 #[v, .agg #[.int .i64 9, .int .i64 n, .int .i64 z, .string (bs x), .int .u64 b], kv] w (zS w ([100, 111, 32] ++ s0 ++ [32, 119, 104, 105, 108, 101, 32, 40] ++ s1 ++ [41, 59])) := by
  obtain ⟨ao, cp, rfl⟩ := hk.slice;obtain ⟨g, o, rfl, hg, hcap, hc⟩ := hk.get (by simp);have c0 : w.cell? ⟨g, o, none⟩ = some (.int .i64 p0) := hc 0 (by simp);have c1 : w.cell? ⟨g, o + 1, none⟩ = some (.int .i64 p1) := hc 1 (by simp);have H0 := za h0;have H1 := za h1;obtain ⟨T, hT⟩ : ∃ T : List UInt8, T = [100, 111, 32] ++ s0 ++ [32, 119, 104, 105, 108, 101, 32, 40] ++ s1 ++ [41, 59] := ⟨_, rfl⟩;rw [← hT];have HTT := za hT;have zf0 : (9223372036854775807 < 3 + (bs s0).size) = False := eq_false (by omega);have zf1 : (9223372036854775807 < 3 + (bs s0).size + 8) = False := eq_false (by omega);have zf2 : (9223372036854775807 < 3 + (bs s0).size + 8 + (bs s1).size) = False := eq_false (by omega);have zf3 : (9223372036854775807 < 3 + (bs s0).size + 8 + (bs s1).size + 2) = False := eq_false (by omega);have HK0 : Kp w (w.alloc (.cells #[.int .i64 9, .int .i64 n, .int .i64 z, .string (bs x), .int .u64 b] 40)) ⟨g, o, none⟩ (.int .i64 p0) ⟨g, o + 1, none⟩ (.int .i64 p1) ⟨g, o, none⟩ (.int .i64 p0) ⟨g, o, none⟩ (.int .i64 p0) ⟨w.heap.size, 3, none⟩ (.string (bs x)) := ⟨zi c0 _, zi c1 _, zi c0 _, zi c0 _, zR _ _ _ 3, (ze _ _).alloc (zd _) _⟩;clear hk hc hT h0 h1;show Calls _ _ #[v, .agg #[.int .i64 9, .int .i64 n, .int .i64 z, .string (bs x), .int .u64 b], .slice (some ⟨g, o, none⟩) 2 cp] _ _
  go_enter Tryz.func47, Tryz.ntmps47
  go_wp2_with fail;generalize w.alloc (.cells #[.int .i64 9, .int .i64 n, .int .i64 z, .string (bs x), .int .u64 b] 40) = wb at *
  go_region_held3 (fun wc => Kp w wc ⟨g, o, none⟩ (.int .i64 p0) ⟨g, o + 1, none⟩ (.int .i64 p1) ⟨g, o, none⟩ (.int .i64 p0) ⟨g, o, none⟩ (.int .i64 p0) ⟨w.heap.size, 3, none⟩ (.string (bs x))) (first | assumption | exact yW (by assumption)) (first
    | (go_at_call 28; (with_reducible show Calls _ _ #[_, .int .i64 p0] _ _); refine (H0.out _ (z8 (by assumption))).mono ?_; rintro e wq ⟨rfl, hBq⟩; have hSq := zU (w := w) (a0 := ⟨g, o, none⟩) (a1 := ⟨g, o + 1, none⟩) (a2 := ⟨g, o, none⟩) (a3 := ⟨g, o, none⟩) (a4 := ⟨w.heap.size, 3, none⟩) (by assumption) hBq; clear hBq)
    | (go_at_call 28; (with_reducible show Calls _ _ #[_, .int .i64 p1] _ _); refine (H1.out _ (z8 (by assumption))).mono ?_; rintro e wq ⟨rfl, hBq⟩; have hSq := zU (w := w) (a0 := ⟨g, o, none⟩) (a1 := ⟨g, o + 1, none⟩) (a2 := ⟨g, o, none⟩) (a3 := ⟨g, o, none⟩) (a4 := ⟨w.heap.size, 3, none⟩) (by assumption) hBq; clear hBq))
  all_goals
    go_wp2_with fail;go_ret;exact ⟨by rw [HTT.out]; simp only [z7]; first | done | rfl, z8 (by assumption)⟩
theorem zqh (n z : Int) (x : List UInt8) (b : Int)  (kv v : Value) (p0 p1 p2 p3 : Int) (s0 s1 s2 s3 : List UInt8) (w : World) (hk : IRo w kv [p0, p1, p2, p3]) (h0 : CtF w 28 v p0 s0) (b0 : (bs s0).size ≤ 1000000000) (h1 : CtF w 73 v p1 s1) (b1 : (bs s1).size ≤ 1000000000) (h2 : CtF w 73 v p2 s2) (b2 : (bs s2).size ≤ 1000000000) (h3 : CtF w 28 v p3 s3) (b3 : (bs s3).size ≤ 1000000000) (bx : (bs x).size ≤ 1000000000) :
    Calls Tryz.prog 47 #[v, .agg #[.int .i64 10, .int .i64 n, .int .i64 z, .string (bs x), .int .u64 b], kv] w (zS w ([102, 111, 114, 32, 40] ++ s0 ++ s1 ++ [59] ++ s2 ++ [41, 32] ++ s3)) := by
  obtain ⟨ao, cp, rfl⟩ := hk.slice;obtain ⟨g, o, rfl, hg, hcap, hc⟩ := hk.get (by simp);have c0 : w.cell? ⟨g, o, none⟩ = some (.int .i64 p0) := hc 0 (by simp);have c1 : w.cell? ⟨g, o + 1, none⟩ = some (.int .i64 p1) := hc 1 (by simp);have c2 : w.cell? ⟨g, o + 2, none⟩ = some (.int .i64 p2) := hc 2 (by simp);have c3 : w.cell? ⟨g, o + 3, none⟩ = some (.int .i64 p3) := hc 3 (by simp);have H0 := za h0;have H1 := za h1;have H2 := za h2;have H3 := za h3;obtain ⟨T, hT⟩ : ∃ T : List UInt8, T = [102, 111, 114, 32, 40] ++ s0 ++ s1 ++ [59] ++ s2 ++ [41, 32] ++ s3 := ⟨_, rfl⟩;rw [← hT];have HTT := za hT;have zf0 : (9223372036854775807 < 5 + (bs s0).size) = False := eq_false (by omega);have zf1 : (9223372036854775807 < 5 + (bs s0).size + (bs s1).size) = False := eq_false (by omega);have zf2 : (9223372036854775807 < 5 + (bs s0).size + (bs s1).size + 1) = False := eq_false (by omega);have zf3 : (9223372036854775807 < 5 + (bs s0).size + (bs s1).size + 1 + (bs s2).size) = False := eq_false (by omega);have zf4 : (9223372036854775807 < 5 + (bs s0).size + (bs s1).size + 1 + (bs s2).size + 2) = False := eq_false (by omega);have zf5 : (9223372036854775807 < 5 + (bs s0).size + (bs s1).size + 1 + (bs s2).size + 2 + (bs s3).size) = False := eq_false (by omega);have HK0 : Kp w (w.alloc (.cells #[.int .i64 10, .int .i64 n, .int .i64 z, .string (bs x), .int .u64 b] 40)) ⟨g, o, none⟩ (.int .i64 p0) ⟨g, o + 1, none⟩ (.int .i64 p1) ⟨g, o + 2, none⟩ (.int .i64 p2) ⟨g, o + 3, none⟩ (.int .i64 p3) ⟨w.heap.size, 3, none⟩ (.string (bs x)) := ⟨zi c0 _, zi c1 _, zi c2 _, zi c3 _, zR _ _ _ 3, (ze _ _).alloc (zd _) _⟩;clear hk hc hT h0 h1 h2 h3;show Calls _ _ #[v, .agg #[.int .i64 10, .int .i64 n, .int .i64 z, .string (bs x), .int .u64 b], .slice (some ⟨g, o, none⟩) 4 cp] _ _
  go_enter Tryz.func47, Tryz.ntmps47
  go_wp2_with fail;generalize w.alloc (.cells #[.int .i64 10, .int .i64 n, .int .i64 z, .string (bs x), .int .u64 b] 40) = wb at *
  go_region_held3 (fun wc => Kp w wc ⟨g, o, none⟩ (.int .i64 p0) ⟨g, o + 1, none⟩ (.int .i64 p1) ⟨g, o + 2, none⟩ (.int .i64 p2) ⟨g, o + 3, none⟩ (.int .i64 p3) ⟨w.heap.size, 3, none⟩ (.string (bs x))) (first | assumption | exact yW (by assumption)) (first
    | (go_at_call 28; (with_reducible show Calls _ _ #[_, .int .i64 p0] _ _); refine (H0.out _ (z8 (by assumption))).mono ?_; rintro e wq ⟨rfl, hBq⟩; have hSq := zU (w := w) (a0 := ⟨g, o, none⟩) (a1 := ⟨g, o + 1, none⟩) (a2 := ⟨g, o + 2, none⟩) (a3 := ⟨g, o + 3, none⟩) (a4 := ⟨w.heap.size, 3, none⟩) (by assumption) hBq; clear hBq)
    | (go_at_call 73; (with_reducible show Calls _ _ #[_, .int .i64 p1] _ _); refine (H1.out _ (z8 (by assumption))).mono ?_; rintro e wq ⟨rfl, hBq⟩; have hSq := zU (w := w) (a0 := ⟨g, o, none⟩) (a1 := ⟨g, o + 1, none⟩) (a2 := ⟨g, o + 2, none⟩) (a3 := ⟨g, o + 3, none⟩) (a4 := ⟨w.heap.size, 3, none⟩) (by assumption) hBq; clear hBq)
    | (go_at_call 73; (with_reducible show Calls _ _ #[_, .int .i64 p2] _ _); refine (H2.out _ (z8 (by assumption))).mono ?_; rintro e wq ⟨rfl, hBq⟩; have hSq := zU (w := w) (a0 := ⟨g, o, none⟩) (a1 := ⟨g, o + 1, none⟩) (a2 := ⟨g, o + 2, none⟩) (a3 := ⟨g, o + 3, none⟩) (a4 := ⟨w.heap.size, 3, none⟩) (by assumption) hBq; clear hBq)
    | (go_at_call 28; (with_reducible show Calls _ _ #[_, .int .i64 p3] _ _); refine (H3.out _ (z8 (by assumption))).mono ?_; rintro e wq ⟨rfl, hBq⟩; have hSq := zU (w := w) (a0 := ⟨g, o, none⟩) (a1 := ⟨g, o + 1, none⟩) (a2 := ⟨g, o + 2, none⟩) (a3 := ⟨g, o + 3, none⟩) (a4 := ⟨w.heap.size, 3, none⟩) (by assumption) hBq; clear hBq))
  all_goals
    go_wp2_with fail;go_ret;exact ⟨by rw [HTT.out]; simp only [z7]; first | done | rfl, z8 (by assumption)⟩
theorem zqi (n z : Int) (x : List UInt8) (b : Int)  (kv v : Value) (p0 : Int) (s0 : List UInt8) (w : World) (hk : IRo w kv [p0]) (h0 : CtF w 44 v p0 s0) (b0 : (bs s0).size ≤ 1000000000) (bx : (bs x).size ≤ 1000000000) :
  Calls Tryz.prog 47 #[v, .agg #[.int .i64 14, .int .i64 n, .int .i64 z, .string (bs x), .int .u64 b], kv] w (zS w ([116, 104, 114, 111, 119, 32] ++ s0 ++ [59])) := by
 obtain ⟨ao, cp, rfl⟩ := hk.slice;obtain ⟨g, o, rfl, hg, hcap, hc⟩ := hk.get (by simp);have c0 : w.cell? ⟨g, o, none⟩ = some (.int .i64 p0) := hc 0 (by simp);have H0 := za h0;obtain ⟨T, hT⟩ : ∃ T : List UInt8, T = [116, 104, 114, 111, 119, 32] ++ s0 ++ [59] := ⟨_, rfl⟩;rw [← hT];have HTT := za hT;have zf0 : (9223372036854775807 < 6 + (bs s0).size) = False := eq_false (by omega);have zf1 : (9223372036854775807 < 6 + (bs s0).size + 1) = False := eq_false (by omega);have HK0 : Kp w (w.alloc (.cells #[.int .i64 14, .int .i64 n, .int .i64 z, .string (bs x), .int .u64 b] 40)) ⟨g, o, none⟩ (.int .i64 p0) ⟨g, o, none⟩ (.int .i64 p0) ⟨g, o, none⟩ (.int .i64 p0) ⟨g, o, none⟩ (.int .i64 p0) ⟨w.heap.size, 3, none⟩ (.string (bs x)) := ⟨zi c0 _, zi c0 _, zi c0 _, zi c0 _, zR _ _ _ 3, (ze _ _).alloc (zd _) _⟩;clear hk hc hT h0;show Calls _ _ #[v, .agg #[.int .i64 14, .int .i64 n, .int .i64 z, .string (bs x), .int .u64 b], .slice (some ⟨g, o, none⟩) 1 cp] _ _
 go_enter Tryz.func47, Tryz.ntmps47
 go_wp2_with fail;generalize w.alloc (.cells #[.int .i64 14, .int .i64 n, .int .i64 z, .string (bs x), .int .u64 b] 40) = wb at *;refine (H0.out wb (z8 HK0)).mono ?_;rintro e w2 ⟨rfl, hB2⟩;have HW := za (yc (z8 HK0) hB2);clear hB2;go_wp2_with fail;go_ret;exact ⟨by rw [HTT.out]; simp only [z7]; first | done | rfl, HW.out⟩
theorem znM (n z : Int) (x : List UInt8) (b : Int) (kv v : Value)  (w : World) (hk : IRo w kv [])  :
  Calls Tryz.prog 47 #[v, .agg #[.int .i64 13, .int .i64 n, .int .i64 z, .string (bs x), .int .u64 b], kv] w (zS w ([114, 101, 116, 117, 114, 110] ++ [] ++ [59])) := by
 have HA : Hid (Below w.heap.size w (w.alloc (.cells #[.int .i64 13, .int .i64 n, .int .i64 z, .string (bs x), .int .u64 b] 40))) := (ze _ _).alloc (zd _) _;obtain ⟨T, hT⟩ : ∃ T : List UInt8, T = [114, 101, 116, 117, 114, 110] ++ [] ++ [59] := ⟨_, rfl⟩;rw [← hT];have HTT := za hT;have hb1 : (bs ([])).size ≤ 600000000 := by
  have e : (bs ([] : List UInt8)).size = 0 := rfl;omega
 obtain ⟨T1, hT1⟩ : ∃ T1 : List UInt8, T1 = [] := ⟨_, rfl⟩;have OC : Hid (∀ w1 (hb : Below w.heap.size w w1), Calls Tryz.prog 43 #[.string ⟨#[32]⟩, kv, .func (.func 44) #[v] #[]] w1 (zS w1 T1)) := fun w1 hb => by rw [hT1]; exact zbz [32] kv (.func (.func 44) #[v] #[]) w1 (hk.below hb)
 replace hb1 : (bs T1).size ≤ 600000000 := by rw [hT1]; exact hb1
 have HT1 := za hT1;have zf0 : (9223372036854775807 < 6 + (bs T1).size) = False := eq_false (by omega);have zf1 : (9223372036854775807 < 6 + (bs T1).size + 1) = False := eq_false (by omega);have hmf := hmf;clear hk hT hT1 
 go_enter Tryz.func47, Tryz.ntmps47
 go_wp2_with fail;generalize w.alloc (.cells #[.int .i64 13, .int .i64 n, .int .i64 z, .string (bs x), .int .u64 b] 40) = wb at *;refine (OC.out wb HA.out).mono ?_;rintro e w2 ⟨rfl, hB2⟩;have HW := za (yc HA.out hB2);clear hB2;go_wp2_with fail;go_ret;exact ⟨by rw [HTT.out, HT1.out]; simp only [z7]; first | done | rfl, HW.out⟩
theorem znN (n z : Int) (x : List UInt8) (b : Int) (kv v : Value) (p0 : Int) (s0 : List UInt8) (w : World) (hk : IRo w kv [p0]) (h0 : CtF w 44 v p0 s0) (b0 : (bs s0).size ≤ 500000000) :
  Calls Tryz.prog 47 #[v, .agg #[.int .i64 13, .int .i64 n, .int .i64 z, .string (bs x), .int .u64 b], kv] w (zS w ([114, 101, 116, 117, 114, 110] ++ ([32] ++ s0) ++ [59])) := by
 have HA : Hid (Below w.heap.size w (w.alloc (.cells #[.int .i64 13, .int .i64 n, .int .i64 z, .string (bs x), .int .u64 b] 40))) := (ze _ _).alloc (zd _) _;obtain ⟨T, hT⟩ : ∃ T : List UInt8, T = [114, 101, 116, 117, 114, 110] ++ ([32] ++ s0) ++ [59] := ⟨_, rfl⟩;rw [← hT];have HTT := za hT;have hb1 : (bs ([32] ++ s0)).size ≤ 600000000 := by
  have e : (bs ([32] ++ s0)).size = 1 + (bs s0).size := by rw [z7, ByteArray.size_append]; rfl
  omega
 obtain ⟨T1, hT1⟩ : ∃ T1 : List UInt8, T1 = [32] ++ s0 := ⟨_, rfl⟩;have OC : Hid (∀ w1 (hb : Below w.heap.size w w1), Calls Tryz.prog 43 #[.string ⟨#[32]⟩, kv, .func (.func 44) #[v] #[]] w1 (zS w1 T1)) := fun w1 hb => by rw [hT1]; exact za5 [32] kv v p0 [] s0 w1 (hk.below hb) (h0.below hb) (by decide) (by omega)
 replace hb1 : (bs T1).size ≤ 600000000 := by rw [hT1]; exact hb1
 have HT1 := za hT1;have zf0 : (9223372036854775807 < 6 + (bs T1).size) = False := eq_false (by omega);have zf1 : (9223372036854775807 < 6 + (bs T1).size + 1) = False := eq_false (by omega);have hmf := hmf;clear hk hT hT1 h0
 go_enter Tryz.func47, Tryz.ntmps47
 go_wp2_with fail;generalize w.alloc (.cells #[.int .i64 13, .int .i64 n, .int .i64 z, .string (bs x), .int .u64 b] 40) = wb at *;refine (OC.out wb HA.out).mono ?_;rintro e w2 ⟨rfl, hB2⟩;have HW := za (yc HA.out hB2);clear hB2;go_wp2_with fail;go_ret;exact ⟨by rw [HTT.out, HT1.out]; simp only [z7]; first | done | rfl, HW.out⟩
theorem zqj (n z : Int) (x : List UInt8) (b : Int) (kv v : Value) (L : List (Int × List UInt8)) (w : World) (hk : IRo w kv (L.map (·.1))) (hf : ∀ q ∈ L, CtF w 28 v q.1 q.2) (hl : L.length ≤ 100000) (hj : (yw [] (L.map (·.2))).length ≤ 1000000000) :
  Calls Tryz.prog 47 #[v, .agg #[.int .i64 15, .int .i64 n, .int .i64 z, .string (bs x), .int .u64 b], kv] w (zS w ([116, 114, 121, 32] ++ yw [] (L.map (·.2)))) := by
 have OC := za (fun (w1 : World) (hb : Below w.heap.size w w1) => zdS kv v [] L w1 (hk.below hb) (fun q hq => (hf q hq).below hb) hl hj);have HA : Hid (Below w.heap.size w (w.alloc (.cells #[.int .i64 15, .int .i64 n, .int .i64 z, .string (bs x), .int .u64 b] 40))) := (ze _ _).alloc (zd _) _;have hb1 : (bs (yw [] (L.map (·.2)))).size ≤ 1000000000 := hj;generalize yw [] (L.map (·.2)) = T1 at *;obtain ⟨T, hT⟩ : ∃ T : List UInt8, T = [116, 114, 121, 32] ++ T1 := ⟨_, rfl⟩;rw [← hT];have HTT := za hT;have zf0 : (9223372036854775807 < 4 + (bs T1).size) = False := eq_false (by omega);have hmf := hmf;clear hk hT hf hj
 go_enter Tryz.func47, Tryz.ntmps47
 go_wp2_with fail;generalize w.alloc (.cells #[.int .i64 15, .int .i64 n, .int .i64 z, .string (bs x), .int .u64 b] 40) = wb at *;refine (OC.out wb HA.out).mono ?_;rintro e w2 ⟨rfl, hB2⟩;have HW := za (yc HA.out hB2);clear hB2;go_wp2_with fail;go_ret;exact ⟨by rw [HTT.out]; simp only [z7]; first | done | rfl, HW.out⟩
theorem znV (n z : Int) (x : List UInt8) (b : Int) (kv v : Value) (w : World) : Calls Tryz.prog 48 #[v, .agg #[.int .i64 23, .int .i64 n, .int .i64 z, .string (bs x), .int .u64 b], kv] w (zS w ([116, 114, 117, 101])) := by
 have HA : Hid (Below w.heap.size w (w.alloc (.cells #[.int .i64 23, .int .i64 n, .int .i64 z, .string (bs x), .int .u64 b] 40))) := (ze _ _).alloc (zd _) _
 go_enter Tryz.func48, Tryz.ntmps48
 go_wp2_with fail;go_ret;exact ⟨rfl, HA.out⟩
theorem znW (n z : Int) (x : List UInt8) (b : Int) (kv v : Value) (w : World) : Calls Tryz.prog 48 #[v, .agg #[.int .i64 24, .int .i64 n, .int .i64 z, .string (bs x), .int .u64 b], kv] w (zS w ([102, 97, 108, 115, 101])) := by
 have HA : Hid (Below w.heap.size w (w.alloc (.cells #[.int .i64 24, .int .i64 n, .int .i64 z, .string (bs x), .int .u64 b] 40))) := (ze _ _).alloc (zd _) _
 go_enter Tryz.func48, Tryz.ntmps48
 go_wp2_with fail;go_ret;exact ⟨rfl, HA.out⟩
theorem znX (n z : Int) (x : List UInt8) (b : Int) (kv v : Value) (w : World) : Calls Tryz.prog 48 #[v, .agg #[.int .i64 25, .int .i64 n, .int .i64 z, .string (bs x), .int .u64 b], kv] w (zS w ([110, 117, 108, 108])) := by
 have HA : Hid (Below w.heap.size w (w.alloc (.cells #[.int .i64 25, .int .i64 n, .int .i64 z, .string (bs x), .int .u64 b] 40))) := (ze _ _).alloc (zd _) _
 go_enter Tryz.func48, Tryz.ntmps48
 go_wp2_with fail;go_ret;exact ⟨rfl, HA.out⟩
theorem znY (n z : Int) (x : List UInt8) (b : Int) (kv v : Value) (w : World) : Calls Tryz.prog 48 #[v, .agg #[.int .i64 26, .int .i64 n, .int .i64 z, .string (bs x), .int .u64 b], kv] w (zS w ([116, 104, 105, 115])) := by
 have HA : Hid (Below w.heap.size w (w.alloc (.cells #[.int .i64 26, .int .i64 n, .int .i64 z, .string (bs x), .int .u64 b] 40))) := (ze _ _).alloc (zd _) _
 go_enter Tryz.func48, Tryz.ntmps48
 go_wp2_with fail;go_ret;exact ⟨rfl, HA.out⟩
theorem znZ (n z : Int) (x : List UInt8) (b : Int) (kv v : Value) (w : World) : Calls Tryz.prog 48 #[v, .agg #[.int .i64 27, .int .i64 n, .int .i64 z, .string (bs x), .int .u64 b], kv] w (zS w (x)) := by
 have HA : Hid (Below w.heap.size w (w.alloc (.cells #[.int .i64 27, .int .i64 n, .int .i64 z, .string (bs x), .int .u64 b] 40))) := (ze _ _).alloc (zd _) _
 go_enter Tryz.func48, Tryz.ntmps48
 go_wp2_with fail;go_ret;exact ⟨rfl, HA.out⟩
theorem zn0 (n z : Int) (x : List UInt8) (b : Int) (kv v : Value) (L : List (Int × List UInt8)) (w : World) (hk : IRo w kv (L.map (·.1))) (hf : ∀ q ∈ L, CtF w 44 v q.1 q.2) (hl : L.length ≤ 100000) (hj : (zE (L.map (·.2))).length ≤ 1000000000) :
  Calls Tryz.prog 48 #[v, .agg #[.int .i64 28, .int .i64 n, .int .i64 z, .string (bs x), .int .u64 b], kv] w (zS w ([91] ++ zE (L.map (·.2)) ++ [93])) := by
 have OC := za (fun (w1 : World) (hb : Below w.heap.size w w1) => jA kv v L w1 (hk.below hb) (fun q hq => (hf q hq).below hb) hl hj);have HA : Hid (Below w.heap.size w (w.alloc (.cells #[.int .i64 28, .int .i64 n, .int .i64 z, .string (bs x), .int .u64 b] 40))) := (ze _ _).alloc (zd _) _;have hb1 : (bs (zE (L.map (·.2)))).size ≤ 1000000000 := hj;generalize zE (L.map (·.2)) = T1 at *;obtain ⟨T, hT⟩ : ∃ T, T = [91] ++ T1 ++ [93] := ⟨_, rfl⟩;rw [← hT];have HTT := za hT;have zf0 : (9223372036854775807 < 1 + (bs T1).size) = False := eq_false (by omega);have zf1 : (9223372036854775807 < 1 + (bs T1).size + 1) = False := eq_false (by omega);have hmf := hmf;clear hk hT hf hj
 go_enter Tryz.func48, Tryz.ntmps48
 go_wp2_with fail;generalize w.alloc (.cells #[.int .i64 28, .int .i64 n, .int .i64 z, .string (bs x), .int .u64 b] 40) = wb at *;refine (OC.out wb HA.out).mono ?_;rintro e w2 ⟨rfl, hB2⟩;have HW := za (yc HA.out hB2);clear hB2;go_wp2_with fail;go_ret;exact ⟨by rw [HTT.out]; simp only [z7]; first | done | rfl, HW.out⟩
theorem zn1 (n z : Int) (x : List UInt8) (b : Int) (kv v : Value) (L : List (Int × List UInt8)) (w : World) (hk : IRo w kv (L.map (·.1))) (hf : ∀ q ∈ L, CtF w 28 v q.1 q.2) (hl : L.length ≤ 100000) (hj : (zE (L.map (·.2))).length ≤ 1000000000) :
  Calls Tryz.prog 48 #[v, .agg #[.int .i64 29, .int .i64 n, .int .i64 z, .string (bs x), .int .u64 b], kv] w (zS w ([123] ++ zE (L.map (·.2)) ++ [125])) := by
 have OC := za (fun (w1 : World) (hb : Below w.heap.size w w1) => zak kv v L w1 (hk.below hb) (fun q hq => (hf q hq).below hb) hl hj);have HA : Hid (Below w.heap.size w (w.alloc (.cells #[.int .i64 29, .int .i64 n, .int .i64 z, .string (bs x), .int .u64 b] 40))) := (ze _ _).alloc (zd _) _;have hb1 : (bs (zE (L.map (·.2)))).size ≤ 1000000000 := hj;generalize zE (L.map (·.2)) = T1 at *;obtain ⟨T, hT⟩ : ∃ T, T = [123] ++ T1 ++ [125] := ⟨_, rfl⟩;rw [← hT];have HTT := za hT;have zf0 : (9223372036854775807 < 1 + (bs T1).size) = False := eq_false (by omega);have zf1 : (9223372036854775807 < 1 + (bs T1).size + 1) = False := eq_false (by omega);have hmf := hmf;clear hk hT hf hj
 go_enter Tryz.func48, Tryz.ntmps48
 go_wp2_with fail;generalize w.alloc (.cells #[.int .i64 29, .int .i64 n, .int .i64 z, .string (bs x), .int .u64 b] 40) = wb at *;refine (OC.out wb HA.out).mono ?_;rintro e w2 ⟨rfl, hB2⟩;have HW := za (yc HA.out hB2);clear hB2;go_wp2_with fail;go_ret;exact ⟨by rw [HTT.out]; simp only [z7]; first | done | rfl, HW.out⟩
theorem zn2 (n z : Int) (x : List UInt8) (b : Int) (kv v : Value) (L : List (Int × List UInt8)) (w : World) (hk : IRo w kv (L.map (·.1))) (hf : ∀ q ∈ L, CtF w 44 v q.1 q.2) (hl : L.length ≤ 100000) (hj : (zE (L.map (·.2))).length ≤ 1000000000) :
  Calls Tryz.prog 48 #[v, .agg #[.int .i64 42, .int .i64 n, .int .i64 z, .string (bs x), .int .u64 b], kv] w (zS w (zE (L.map (·.2)))) := by
 have OC := za (fun (w1 : World) (hb : Below w.heap.size w w1) => jA kv v L w1 (hk.below hb) (fun q hq => (hf q hq).below hb) hl hj);have HA : Hid (Below w.heap.size w (w.alloc (.cells #[.int .i64 42, .int .i64 n, .int .i64 z, .string (bs x), .int .u64 b] 40))) := (ze _ _).alloc (zd _) _;have hb1 : (bs (zE (L.map (·.2)))).size ≤ 1000000000 := hj;generalize zE (L.map (·.2)) = T1 at *;obtain ⟨T, hT⟩ : ∃ T, T = T1 := ⟨_, rfl⟩;rw [← hT];have HTT := za hT;have hmf := hmf;clear hk hT hf hj
 go_enter Tryz.func48, Tryz.ntmps48
 go_wp2_with fail;generalize w.alloc (.cells #[.int .i64 42, .int .i64 n, .int .i64 z, .string (bs x), .int .u64 b] 40) = wb at *;refine (OC.out wb HA.out).mono ?_;rintro e w2 ⟨rfl, hB2⟩;have HW := za (yc HA.out hB2);clear hB2;go_wp2_with fail;go_ret;exact ⟨by rw [HTT.out]; first | done | rfl, HW.out⟩
end Go.Proofs.YtfcgpphodacdmaaGreatDoor
