/- Part of a proof that the program keeps SynDeep: contracts of its functions and of the document's. -/
import Derived.Test.YtnkfodelgpidkaaGreatDoorW7
import Derived.WalkSmall
import Derived.OwnWalk
import Derived.Deep.LoopGhost
import Derived.Test.YtnkfodelgpidkaaGreatDoorX2
import Derived.Test.YtnkfodelgpidkaaGreatDoorX4
import Derived.Test.YtnkfodelgpidkaaGreatDoorX3
import Derived.Test.YtnkfodelgpidkaaGreatDoorV9
set_option maxRecDepth 100000
set_option maxHeartbeats 4000000
set_option linter.unusedVariables false
set_option linter.unusedSimpArgs false
namespace Go.Proofs.YtnkfodelgpidkaaGreatDoor
open Go.RowKit
mutual
theorem htT_le : ∀ t : Tr, htT t ≤ (layT t).length
 | .node k x b kids => by rw [htT, layT, List.length_cons]; have := htTs_le kids; omega
theorem htTs_le : ∀ l : List Tr, htTs l ≤ (layTs l).length
 | [] => Nat.zero_le _
 | t :: l => by rw [htTs, layTs, List.length_append]; have := htT_le t; have := htTs_le l; omega
end
theorem htTs_take : ∀ (l : List Tr) (j : Nat) (h : j < l.length), htTs (l.take (j + 1)) = max (htTs (l.take j)) (htT l[j])
 | t :: l, 0, _ => by simp [htTs]
 | t :: l, j + 1, h => by
  rw [List.take_succ_cons, htTs, htTs_take l j (by simpa using h), List.take_succ_cons, htTs, List.getElem_cons_succ]; omega
theorem htTs_take_le (l : List Tr) (j : Nat) : htTs (l.take j) ≤ (layTs l).length := by
 have h1 := htTs_le (l.take j)
 have h2 : (layTs (l.take j)).length ≤ (layTs l).length := layTs_take_le l j
 omega
def DHt (u : Tr) : Prop := ∀ (w : World) (v : Value) (L A B : List LN), NRow w v L → L = A ++ layT u ++ B → L.length ≤ 1000000 →
  Calls Tryz.prog 32 #[v, .int .i64 (A.length : Int)] w fun e w' => e = .returned (.tuple #[.int .i64 (htT u : Int), .int .i64 ((A.length + (layT u).length : Nat) : Int)]) ∧ Below w.heap.size w w'
theorem dht_step (k : Int) (x : List UInt8) (b : Int) (kids : List Tr) (IH : ∀ t ∈ kids, DHt t) : DHt (.node k x b kids) := by
 intro w v L A B h hL hl
 obtain ⟨ao, cp, rfl⟩ := h.slice
 have hlay : layT (.node k x b kids) = ⟨k, kids.length, (layTs kids).length + 1, x, b⟩ :: layTs kids := by rw [layT]
 have hlen : L.length = A.length + 1 + (layTs kids).length + B.length := by rw [hL, hlay]; simp only [List.length_append, List.length_cons]; omega
 have hat : ∀ h : A.length < L.length, L[A.length]'h = ⟨k, kids.length, (layTs kids).length + 1, x, b⟩ := fun h => by
  have : L[A.length]? = some ⟨k, kids.length, (layTs kids).length + 1, x, b⟩ := by
   rw [hL, hlay, List.append_assoc, List.getElem?_append_right (Nat.le_refl _), Nat.sub_self]; rfl
  rw [List.getElem?_eq_getElem h] at this
  injection this
 have hge := layTs_ge kids
 have HL := Lib.hid hL
 have HLAY := Lib.hid hlay
 have HN := Lib.hid h
 have hilt : A.length < L.length := by omega
 obtain ⟨g, rfl, hg, hc⟩ := h.get (by omega)
 have c1 := (hc _ hilt).2.1
 rw [hat hilt] at c1
 simp only at c1
 have C1 := Lib.hid c1
 have hht : htT (.node k x b kids) = htTs kids + 1 := by rw [htT]
 rw [hht, hlay, List.length_cons]
 clear h hL hlay hat hc c1 hht
 generalize hI : A.length = i at *
 have HI := Lib.hid hI
 have hlen2 : i + 1 + (layTs kids).length ≤ L.length := by omega
 clear hI hlen
 go_enter Tryz.func32, Tryz.ntmps32
 go_wp2_with fail
 go_loopg [6, 7, 8] kids.length (fun g2 mm kk nn wr => ∃ j : Nat, nn = .int .i64 (j : Int) ∧ g2 = kids.length - j ∧ j ≤ kids.length ∧ mm = .int .i64 ((htTs (kids.take j) : Nat) : Int) ∧ kk = .int .i64 ((i + 1 + (layTs (kids.take j)).length : Nat) : Int) ∧ Hid (Below w.heap.size w wr))
 case atStart => exact ⟨0, rfl, rfl, Nat.zero_le _, by simp [htTs], by simp [layTs], Below.refl _ _⟩
 case round =>
  obtain ⟨j, rfl, rfl, hj, rfl, rfl, HB⟩ := hrel
  have c2 := (HB.out.cell (p := ⟨g, _, none⟩) hg).trans C1.out
  have b1 := htTs_take_le kids j
  have b2 := layTs_take_le kids j
  by_cases hlt : j < kids.length
  ·have HIN := Lib.hid (List.getElem_mem hlt)
   have htk := layTs_take kids j hlt
   have htl : (layTs (kids.take (j + 1))).length = (layTs (kids.take j)).length + (layT kids[j]).length := by rw [htk, List.length_append]
   have hhk := htTs_take kids j hlt
   have b3 := htT_le kids[j]
   have b4 := layTs_take_le kids (j + 1)
   have hA : L = (A ++ [⟨k, kids.length, (layTs kids).length + 1, x, b⟩] ++ layTs (kids.take j)) ++ layT kids[j] ++ (layTs (kids.drop (j + 1)) ++ B) := by
    have : layTs kids = layTs (kids.take j) ++ layT kids[j] ++ layTs (kids.drop (j + 1)) := by
     conv => lhs; rw [← List.take_append_drop (j + 1) kids, layTs_append, htk]
    rw [HL.out, HLAY.out, this]; simp [List.append_assoc]
   have hAl : (A ++ [(⟨k, kids.length, (layTs kids).length + 1, x, b⟩ : LN)] ++ layTs (kids.take j)).length = i + 1 + (layTs (kids.take j)).length := by rw [List.length_append, List.length_append, HI.out]; rfl
   have HC := Lib.hid ((IH _ HIN.out) wr _ L _ _ (HN.out.below HB.out) hA hl)
   rw [hAl] at HC
   have hlo2 : w.heap.size ≤ wr.heap.size := HB.out.size
   clear hA hAl htk HIN
   generalize hD : htTs (kids.take j) = d at *
   generalize hP : (layTs (kids.take j)).length = pp at *
   generalize hQ : (layT kids[j]).length = qq at *
   generalize hE : htT kids[j] = ee at *
   generalize hF : htTs (kids.take (j + 1)) = ff at *
   generalize hG : (layTs (kids.take (j + 1))).length = gg at *
   clear hD hP hQ hE
   generalize hPK : i + 1 + pp = pk at *
   have HF := Lib.hid hF
   have HG := Lib.hid hG
   clear hF hG
   go_wp2_with fail
   refine HC.out.mono ?_
   rintro e w2 ⟨rfl, hB2⟩
   have HB2 := Lib.hid (below_trans HB.out hB2 hlo2)
   clear hB2
   by_cases hmax : d < ee
   ·have hm2 : (d : Int) < (ee : Int) := by omega
    go_wp2_with fail
    go_roundg (kids.length - (j + 1))
    case measure => omega
    case rel => exact ⟨j + 1, rfl, rfl, hlt, by rw [HF.out, show ff = ee by omega], by rw [HG.out]; congr 1; omega, HB2.out⟩
   ·have hm2 : ¬ (d : Int) < (ee : Int) := by omega
    go_wp2_with fail
    go_roundg (kids.length - (j + 1))
    case measure => omega
    case rel => exact ⟨j + 1, rfl, rfl, hlt, by rw [HF.out, show ff = d by omega], by rw [HG.out]; congr 1; omega, HB2.out⟩
  ·have he : j = kids.length := by omega
   subst he
   simp only [List.take_length] at *
   have hj2 : ¬ (kids.length : Int) < (kids.length : Int) := by omega
   generalize hD : htTs kids = d at *
   generalize hP : (layTs kids).length = pp at *
   have e1 : ((i + 1 + pp : Nat) : Int) = ((i + (pp + 1) : Nat) : Int) := by omega
   rw [e1]
   generalize hPK : i + (pp + 1) = pk at *
   go_wp2_with fail
   go_ret2
   exact ⟨rfl, HB.out⟩
theorem dheight_all : ∀ u : Tr, DHt u
 | .node k x b kids => dht_step k x b kids fun t ht => dheight_all t
theorem dheight_any (u : Tr) (w : World) (v : Value) (h : NRow w v (layT u)) (hl : (layT u).length ≤ 1000000) :
  Calls Tryz.prog 32 #[v, .int .i64 0] w fun e w' => e = .returned (.tuple #[.int .i64 (htT u : Int), .int .i64 ((layT u).length : Int)]) ∧ Below w.heap.size w w' := by
 have := dheight_all u w v (layT u) [] [] h (by simp) hl
 simp only [List.length_nil, Nat.zero_add] at this
 exact this
end Go.Proofs.YtnkfodelgpidkaaGreatDoor
namespace Go.Proofs.YtnkfodelgpidkaaGreatDoor
open Go.RowKit
def Sbt (t : Tk) (R : List UInt8) : Prop := (t.kind = 2 ∨ t.kind = 5) → ∀ x ∈ t.text, x ∈ R
theorem tokO_sub {R : List UInt8} {t : Tk} {n : Nat} (h : tokO R = some (t, n)) : Sbt t R := by
 cases R with
 | nil => cases h
 | cons c r =>
  unfold tokO at h
  simp only at h
  split at h
  ·split at h
   ·cases h
   ·injection h with h; injection h with h _; subst h
    intro hk; simp at hk
  ·split at h
   ·injection h with h; injection h with h _; subst h
    intro _ x hx; exact List.mem_of_mem_take hx
   ·split at h
    ·split at h
     ·cases h
     ·injection h with h; injection h with h _; subst h
      intro hk; simp at hk
    ·split at h
     ·cases h
     ·injection h with h; injection h with h _; subst h
      intro _ x hx; exact List.mem_of_mem_take hx
theorem lexB_sub : ∀ (j : Nat) (R : List UInt8) (a op : Int) (m : List Tk), R.length ≤ j → lexB R a op = .ok m → ∀ t ∈ m, Sbt t R
 | j, [], a, op, m, _, h => by rw [lexB] at h; injection h with h; subst h; intro t ht; simp at ht
 | 0, c :: r, a, op, m, hj, h => by simp at hj
 | j + 1, c :: r, a, op, m, hj, h => by
  rw [lexB_cons] at h
  cases ht : tokO (c :: r) with
  | none => rw [ht] at h; cases h
  | some x =>
   obtain ⟨t, n⟩ := x
   rw [ht] at h
   have hts := tokO_sub ht
   simp only at h
   split at h
   ·cases h
   ·cases hg : gap (r.drop (n - 1)) with
    | mk k f =>
     cases f
     ·rw [lexA_stop hg] at h; cases h
     ·rw [lexA_go hg] at h
      cases hx : lexB ((r.drop (n - 1)).drop k) (a + n + k) (opA t op) with
      | error e => rw [hx] at h; cases h
      | ok l =>
       rw [hx] at h
       simp only [consT, Except.ok.injEq] at h
       subst h
       have ih := lexB_sub j _ _ _ l (by rw [List.length_drop, List.length_drop]; simp at hj; omega) hx
       intro u hu
       rcases List.mem_cons.1 hu with rfl | hu
       ·exact hts
       ·exact fun hk x hx => List.mem_cons_of_mem _ (List.mem_of_mem_drop (List.mem_of_mem_drop (ih u hu hk x hx)))
theorem lex_sub {L : List UInt8} {m : List Tk} (h : lexL L = .ok m) : ∀ t ∈ m, Sbt t L := by
 obtain ⟨_, _, h⟩ := lex_parts h
 cases hg : gap L with
 | mk k f =>
  cases f
  ·rw [lexA_stop hg] at h; cases h
  ·rw [lexA_go hg] at h
   exact fun t ht hk x hx => List.mem_of_mem_drop (lexB_sub _ _ _ _ m (Nat.le_refl _) h t ht hk x hx)
def alph : List UInt8 := [97, 98, 32, 45, 91, 93, 40, 41, 46, 61, 59]
def Aln (a : ByteArray) : Prop := ∀ x ∈ a.data.toList, x ∈ alph
theorem al_app {a b : ByteArray} (ha : Aln a) (hb : Aln b) : Aln (a ++ b) := fun x hx => by
 rw [ByteArray.data_append, Array.toList_append] at hx
 rcases List.mem_append.1 hx with h | h
 ·exact ha x h
 ·exact hb x h
theorem bad_out : ∀ q ∈ badL, q ≠ [] ∧ ¬ ∀ x ∈ q, x ∈ alph := by decide
theorem rt_of {c : Cr} {s : ByteArray} (h : lexL s.data.toList = .ok c.ts) (hL : Aln s) : Rt c := by
 intro q hq p
 obtain ⟨hne, hno⟩ := bad_out q hq
 cases he : isS c p q with
 | false => rfl
 | true =>
  exfalso
  have hin := isS_in hne he
  have e : fx (c.T p.i) = q := eq_of_beq he
  rw [c.T_at hin] at e
  unfold fx at e
  split at e
  ·exact hno fun x hx => hL x (lex_sub h _ (List.getElem_mem hin) ‹_› x (by rw [e]; exact hx))
  ·exact hne e.symm
end Go.Proofs.YtnkfodelgpidkaaGreatDoor
namespace Go.Proofs.YtnkfodelgpidkaaGreatDoor
open Go.RowKit
theorem cr_make {L : List UInt8} {l : List Tk} (hx : lexL L = .ok l) {w : World} {B : Nat} {v : Value} (h : w.ownsRow B 42 4 v l.length (cellsOf l)) :
  ∃ c : Cr, v = .slice c.ao l.length c.cap ∧ c.b = w.heap.size ∧ c.ts = l ∧ c.E = (L.length : Int) ∧ c.ok ∧ TokF c ∧ (l.length = 0 ∨ w.heap[c.g]? = some c.o) := by
 have hl := (lex_lens hx).1
 have hl2 := (lex_parts hx).1
 have hpos := lex_pos hx
 have hgd := (lexL_parts hx).2.1
 have tok : ∀ c : Cr, c.ts = l → TokF c := fun c hc => by
  have key : ∀ i, Gd (c.T i) ∨ c.T i = ⟨0, c.E, [], 0⟩ := fun i => by
   rcases Nat.lt_or_ge i c.ts.length with h1 | h1
   ·left; rw [c.T_at h1]; exact hgd _ (hc ▸ List.getElem_mem h1)
   ·right; exact c.T_end h1
  refine ⟨fun i hk => ?_, fun i hk => ?_⟩
  ·rcases key i with (⟨_, _, h⟩ | ⟨_, _, h⟩ | ⟨h, _⟩ | ⟨_, _, h⟩ | ⟨_, _, h⟩) | h
   ·exact h
   ·exact h
   ·exact absurd h hk
   ·exact h
   ·exact h
   ·rw [h]
  ·rcases key i with (⟨h, _⟩ | ⟨h, _⟩ | ⟨_, h, _⟩ | ⟨h, _⟩ | ⟨h, _⟩) | h
   ·omega
   ·omega
   ·exact h
   ·omega
   ·omega
   ·rw [h]
 obtain ⟨ao, cap, rfl⟩ := own_slice h
 have hown := h
 obtain ⟨h1, h2⟩ := h
 rcases h2 with ⟨h3, _⟩ | ⟨g, cap', cur, hv, hg, hh, hn, hm, hz, htk⟩
 ·have h3 : l.length = 0 := by injection h3
  refine ⟨⟨w.heap.size, w.heap.size + 1, cap, ao, .cells #[] 42, l, L.length⟩, rfl, rfl, rfl, rfl, ?_, tok _ rfl, .inl h3⟩
  have hnil : l = [] := List.eq_nil_of_length_eq_zero h3
  subst hnil
  exact ⟨by simp, by simp, fun h => absurd h (by simp), fun _ _ k hk => absurd hk (by simp), fun t ht => absurd ht (by simp), fun t ht => absurd ht (by simp), by simp; omega⟩
 ·injection hv with hv1 _ hv2
  subst hv1; subst hv2
  have hlt := lt_of_get hh
  refine ⟨⟨w.heap.size, g, cap, some ⟨g, 0, none⟩, _, l, L.length⟩, rfl, rfl, rfl, rfl, ?_, tok _ rfl, .inr hh⟩
  refine ⟨by show w.heap.size ≠ g; omega, by show l.length ≤ 5000; omega, fun _ => rfl, ?_, fun t ht => gd_bits (hgd t ht), fun t ht => ?_, by show 0 ≤ (L.length : Int) ∧ (L.length : Int) ≤ 1000000; omega⟩
  ·intro w' hw' k hk
   have hk : k < l.length := hk
   have ho : w'.ownsRow 0 42 4 (.slice (some ⟨g, 0, none⟩) l.length cap) l.length (cellsOf l) :=
    ⟨h1, .inr ⟨g, cap, cur, rfl, Nat.zero_le _, hw', hn, hm, hz, htk⟩⟩
   have := tok_at ho k hk
   have hT : l[k]'hk = hd (L.length : Int) (l.drop k) := by rw [List.drop_eq_getElem_cons hk]; rfl
   rw [hT] at this
   exact this
  ·have := hpos t ht; omega
theorem cr_at {c : Cr} {w : World} (hb : c.b = w.heap.size) (hok : c.ok) (hrow : c.ts.length = 0 ∨ w.heap[c.g]? = some c.o) (hR : Rt c) :
  S3 c (w.alloc (.cells #[.slice c.ao c.ts.length c.cap, .int .i64 0, .int .i64 c.E, .int .i64 (-1)] 65)) ⟨0, -1⟩ (w.alloc (.cells #[.slice c.ao c.ts.length c.cap, .int .i64 0, .int .i64 c.E, .int .i64 (-1)] 65)) := by
 refine S3.init ⟨?_, hrow.imp id fun h1 => (Below.heap_alloc w _ c.g (lt_of_get h1)).trans h1, Nat.zero_le _, hok⟩ ⟨Nat.zero_le _, fun h => absurd h (by show ¬ (0 : Int) ≤ -1; decide)⟩ hR
 rw [hb]; exact heap_alloc_new w _
theorem prog_same {c : Cr} (hc : c.ok) (ht : TokF c) (hR : Rt c) {r : Except (Int × Int) Tr} (h : Syn1 c.E c.ts r) :
  (∃ p, 0 ≤ p ∧ r = .error (p, 7) ∧ ∀ r', MD c (.progL [] 0) ⟨0, -1⟩ r' → r'.s = ⟨c.ts.length, p⟩) ∨
  (∃ (t : Tr) (j : Nat), (r = if 60 < htT (nd 1 [] t.kids) then .error (0, 6) else .ok (nd 1 [] t.kids)) ∧ ∀ r', MD c (.progL [] 0) ⟨0, -1⟩ r' → r' = ⟨layTs t.kids, t.kids.length, ⟨j, -1⟩⟩) := by
 obtain ⟨q, hd, h⟩ := h
 rcases q with p | ⟨t, R⟩
 ·left
  obtain ⟨hp, hx⟩ := prog_stops hc ht hR hd
  obtain ⟨r0, hm, hs⟩ := hx [] 0
  exact ⟨p, hp, h, fun r' hr' => by rw [hr'.det hm]; exact hs⟩
 ·right
  obtain ⟨j, _, _, hx⟩ := prog_reads hc ht hR hd
  have := hx [] 0
  rw [List.nil_append, Nat.zero_add] at this
  exact ⟨t, j, h.2, fun r' hr' => hr'.det this⟩
theorem dparse_good (s : ByteArray) (hs : s.size ≤ 100000) (w : World) (l : List Tk) (hx : lexL s.data.toList = .ok l) (r : Except (Int × Int) Tr) (hr : Syn1 s.size l r) (hz : ∀ t, r = .ok t → (layT t).length ≤ 4097) (ha : Aln s) :
  Calls Tryz.prog 12 #[.string s] w fun e w' => TreePost w r e w' := by
 have HT := Lib.hid (rTokens_any s hs w)
 rw [hx] at HT
 have HX := Lib.hid hx
 have HR := Lib.hid hr
 have HZ := Lib.hid hz
 clear hx hr hz
 go_enter Tryz.func12, Tryz.ntmps12
 go_wp2_with fail
 refine HT.out.mono ?_; rintro e w1 hp
 obtain ⟨v, rfl, hw, hB⟩ := hp
 obtain ⟨c, rfl, cb, cl, cE, hok, htk, hrow⟩ := cr_make HX.out hw
 subst cl
 have hR := rt_of HX.out ha
 have HRT := Lib.hid hR
 rw [list_size'] at cE
 have G0 := Lib.hid (cr_at cb hok hrow hR)
 rw [cE] at G0
 have HBW := Lib.hid (hB.trans ((Below.refl w.heap.size w1).alloc hB.size (.cells #[.slice c.ao c.ts.length c.cap, .int .i64 0, .int .i64 (s.size : Int), .int .i64 (-1)] 65)))
 have hcb : w.heap.size ≤ c.b := by rw [cb]; exact hB.size
 have HOK := Lib.hid hok
 have HTK := Lib.hid htk
 have HCB := Lib.hid cb
 have hfew := hok.few
 have HR2 : Hid (Syn1 c.E c.ts r) := by show Syn1 c.E c.ts r; rw [cE]; exact HR.out
 clear hw hB hok htk hrow HT HR cE cb ha hR
 go_wp2_with fail
 generalize w1.alloc (.cells #[.slice c.ao c.ts.length c.cap, .int .i64 0, .int .i64 (s.size : Int), .int .i64 (-1)] 65) = w2 at *
 rw [← HCB.out]
 go_loopg [9, 10] (ml c ⟨0, -1⟩) (fun g ov nv wr => ∃ (sj : Ss) (n : Nat) (L : List LN), nv = .int .i64 (n : Int) ∧ g = ml c sj ∧ n ≤ c.ts.length + 1 ∧ Hid (S3 c w2 sj wr) ∧ Hid (NO wr w2.heap.size ov L) ∧ Hid ((sj.bad < 0 → n ≤ sj.i ∧ L.length ≤ 100 * sj.i) ∧ L.length ≤ 100 * c.ts.length + 200) ∧ Hid (∀ r, MD c (.progL L n) sj r → MD c (.progL [] 0) ⟨0, -1⟩ r))
 case atStart => exact ⟨_, 0, [], rfl, rfl, by omega, G0.out, NO.nil _ _, ⟨fun _ => ⟨Nat.zero_le _, Nat.zero_le _⟩, Nat.zero_le _⟩, fun r hr => hr⟩
 case round =>
  obtain ⟨sj, n, L, rfl, rfl, hn, GL, WL, BL, DL⟩ := hrel
  by_cases hb : sj.bad < 0 ∧ sj.i < c.ts.length
  ·obtain ⟨hb, hi⟩ := hb
   have HB := Lib.hid hb
   have HI := Lib.hid hi
   have c0 := GL.out.st.1.c0
   have c1 := GL.out.st.1.c1
   have c3 := GL.out.st.1.c3
   go_wp2_with fail
   go_quiet (fail)
   have GX := Lib.hid (GL.out.below (below_drewN (Below.refl wr.heap.size wr) nq))
   have WX := Lib.hid (own_below WL.out (below_drewN (Below.refl wr.heap.size wr) nq))
   clear c0 c1 c3
   generalize wr.drewN nq = wx at *
   go_wp2_with fail
   refine (n_run (t := .element) rfl rfl trivial GX.out (element_at c HRT.out sj GX.out.gs)).mono ?_
   rintro e w3 ⟨r3, v3, rfl, hM, hG, hN, hW, hL, hO, hP⟩
   have M3 := Lib.hid hM
   have G3 := Lib.hid hG
   have N3 := Lib.hid hN
   have P3 := Lib.hid hP
   have W4 := Lib.hid (NO.off WX.out hO GL.out.lt)
   have W3 := Lib.hid hW
   have L3 := Lib.hid hL
   clear hM hG hN hW hL hO hP
   go_wp2_with fail
   refine (n_join (by have := BL.out.2; omega) (by have := L3.out; omega) G3.out W4.out W3.out).mono ?_
   rintro e w5 ⟨v5, rfl, hW, hG, hB⟩
   have W5 := Lib.hid (hW.mono G3.out.size)
   have G5 := Lib.hid hG
   clear hW hG hB
   have hn1 := (BL.out.1 hb).1
   go_wp2_with fail
   go_roundg (ml c r3.s)
   case measure => exact ml_nx N3.out hb (Nat.le_of_lt hi)
   case rel =>
    refine ⟨r3.s, n + 1, L ++ r3.l, rfl, rfl, by omega, G5.out, W5.out, ?_, fun r hr => DL.out r (MD.mk2 M3.out hr fun m h0 h1 => by simp only [bodyM, bm, HB.out, HI.out, and_self, h0, h1, if_true])⟩
    have h1 := BL.out.1 hb
    rcases P3.out.ll hb with ⟨a1, a2, a3, a4, a5⟩ | ⟨a1, a2, a3, a4⟩
    ·simp only [ac] at a4; have a5 := a5 rfl
     exact ⟨fun _ => ⟨by omega, by rw [List.length_append]; omega⟩, by rw [List.length_append]; omega⟩
    ·simp only [ac, kp] at a4
     exact ⟨fun h => absurd h (by omega), by rw [List.length_append]; omega⟩
  ·have hm := DL.out ⟨L, n, sj⟩ (MD.mk0 fun m => by simp only [bodyM, hb, if_false])
   rcases prog_same HOK.out HTK.out HRT.out HR2.out with ⟨p, hp, hr, hq⟩ | ⟨t, j, hr, hq⟩
   ·have hq := hq _ hm
    have hq : sj = ⟨c.ts.length, p⟩ := hq
    subst hq
    have HRR := Lib.hid hr
    clear hr hm
    have c0 := GL.out.st.1.c0
    have c1 := GL.out.st.1.c1
    have c3 := GL.out.st.1.c3
    simp only at c1 c3
    go_wp2_with fail
    have hp0 : ¬ p < 0 := by omega
    go_quiet (fail)
    have GX := Lib.hid (GL.out.below (below_drewN (Below.refl wr.heap.size wr) nq))
    have c3 := GX.out.st.1.c3
    simp only at c3
    clear c0 c1 GL WL
    generalize wr.drewN nq = wx at *
    go_wp2_with fail
    try go_quiet (fail)
    try go_wp2_with fail
    go_ret3
    exact tp_err HRR.out rfl (HBW.out.trans ((GX.out.st.2.below (below_drewN (Below.refl _ _) _)).toBelow hcb HBW.out.size))
   ·have hq := hq _ hm
    injection hq with q1 q2 q3
    subst q1; subst q2; subst q3
    have HRR := Lib.hid hr
    have hj : ¬ j < c.ts.length := fun h => hb ⟨by show (-1 : Int) < 0; decide, h⟩
    have hj2 : ¬ (j : Int) < (c.ts.length : Int) := by omega
    clear hr hm hb
    have c0 := GL.out.st.1.c0
    have c1 := GL.out.st.1.c1
    have c3 := GL.out.st.1.c3
    simp only at c1 c3
    go_wp2_with fail
    go_quiet (fail)
    have GX := Lib.hid (GL.out.below (below_drewN (Below.refl wr.heap.size wr) nq))
    have WX := Lib.hid (own_below WL.out (below_drewN (Below.refl wr.heap.size wr) nq))
    have c3 := GX.out.st.1.c3
    simp only at c3
    clear c0 c1 GL WL
    generalize wr.drewN nq = wx at *
    go_wp2_with fail
    refine (n_make 1 [] t.kids.length _ rfl (by omega) (by have := BL.out.2; omega) GX.out WX.out).mono ?_
    rintro e w3 ⟨v3, rfl, hW, hG, hB⟩
    rw [← lay_nd] at hW
    obtain ⟨ao4, cp4, rfl⟩ := own_slice hW
    have W3 := Lib.hid (hW.mono GX.out.size)
    have G3 := Lib.hid hG
    have hlen : (layT (nd 1 [] t.kids)).length ≤ 1000000 := by rw [lay_nd]; show (layTs t.kids).length + 1 ≤ _; have := BL.out.2; omega
    have HH := Lib.hid (dheight_any (nd 1 [] t.kids) w3 _ (NRow.own hW) hlen)
    have hhl := htT_le (nd 1 [] t.kids)
    clear hW hG hB c3
    generalize hT : nd 1 [] t.kids = T at *
    go_wp2_with fail
    refine HH.out.mono ?_
    rintro e w4 ⟨rfl, hB⟩
    have HB4 := Lib.hid (HBW.out.trans ((G3.out.st.2.below hB).toBelow hcb HBW.out.size))
    have W4 := Lib.hid (own_below W3.out hB)
    clear hB
    by_cases hh : 60 < htT T
    ·rw [if_pos hh] at HRR
     have hh2 : (60 : Int) < ((htT T : Nat) : Int) := by omega
     generalize htT T = H at *
     go_wp2_with fail
     go_ret3
     exact tp_err HRR.out rfl HB4.out
    ·rw [if_neg hh] at HRR
     have hh2 : ¬ (60 : Int) < ((htT T : Nat) : Int) := by omega
     generalize htT T = H at *
     go_wp2_with fail
     go_ret3
     exact tp_ok HRR.out rfl (own_mono W4.out HBW.out.size) (HZ.out T HRR.out) HB4.out
theorem dparse_lex (s : ByteArray) (hs : s.size ≤ 100000) (w : World) (a e0 : Int) (hx : lexL s.data.toList = .error (a, e0)) :
  Calls Tryz.prog 12 #[.string s] w fun e w' => e = .returned (.tuple #[.slice none 0 0, .int .i64 a, .int .i64 e0]) ∧ Below w.heap.size w w' := by
 have HT := Lib.hid (rTokens_any s hs w)
 rw [hx] at HT
 have hce := lex_err hx
 have hc0 : ¬ e0 = 0 := by omega
 have hc1 : (e0 != 0) = true := bne_iff_ne.2 hc0
 clear hx hce
 go_enter Tryz.func12, Tryz.ntmps12
 go_wp2_with fail
 refine HT.out.mono ?_; rintro e w1 ⟨rfl, hB⟩
 have HB := Lib.hid hB
 clear hB
 go_wp2_with fail
 go_ret3
 exact ⟨rfl, HB.out⟩
theorem dparse_any (s : ByteArray) (hs : s.size ≤ 100000) (w : World) (r : Except (Int × Int) Tr) (hr : Out s.data.toList r) (hz : ∀ t, r = .ok t → (layT t).length ≤ 4097) (ha : Aln s) :
  Calls Tryz.prog 12 #[.string s] w fun e w' => TreePost w r e w' := by
 unfold Out at hr
 cases hx : lexL s.data.toList with
 | error x =>
  rw [hx] at hr
  obtain ⟨a, e0⟩ := x
  exact (dparse_lex s hs w a e0 hx).mono fun e w' ⟨h1, h2⟩ => tp_err hr h1 h2
 | ok l =>
  rw [hx, list_size'] at hr
  exact dparse_good s hs w l hx r hr hz ha
end Go.Proofs.YtnkfodelgpidkaaGreatDoor
namespace Go.Proofs.YtnkfodelgpidkaaGreatDoor
open Go.RowKit
theorem mod_ok (x m : Int) (hm : 0 < m) (h2 : m ≤ 10000) : ∃ n : Nat, (wrap64 (x.tmod m + m)).tmod m = n ∧ (n : Int) < m := by
 have a := Int.tmod_lt_of_pos x hm
 have b := Int.lt_tmod_of_pos x hm
 have e : wrap64 (x.tmod m + m) = x.tmod m + m := by unfold wrap64; omega
 rw [e, Int.tmod_eq_emod_of_nonneg (by omega)]
 have c := Int.emod_nonneg (x.tmod m + m) (show m ≠ 0 by omega)
 have d := Int.emod_lt_of_pos (x.tmod m + m) hm
 exact ⟨((x.tmod m + m) % m).toNat, by omega, by omega⟩
theorem al_l1 : Aln (⟨#[45, 32]⟩ : ByteArray) := by show ∀ x ∈ [45, 32], x ∈ alph; decide
theorem al_l2 : Aln (⟨#[91]⟩ : ByteArray) := by show ∀ x ∈ [91], x ∈ alph; decide
theorem al_l3 : Aln (⟨#[93]⟩ : ByteArray) := by show ∀ x ∈ [93], x ∈ alph; decide
theorem al_l4 : Aln (⟨#[40]⟩ : ByteArray) := by show ∀ x ∈ [40], x ∈ alph; decide
theorem al_l5 : Aln (⟨#[41]⟩ : ByteArray) := by show ∀ x ∈ [41], x ∈ alph; decide
theorem al_l6 : Aln (⟨#[46, 98]⟩ : ByteArray) := by show ∀ x ∈ [46, 98], x ∈ alph; decide
theorem al_l7 : Aln (⟨#[98, 32, 61, 32]⟩ : ByteArray) := by show ∀ x ∈ [98, 32, 61, 32], x ∈ alph; decide
theorem al_l8 : Aln (⟨#[59]⟩ : ByteArray) := by show ∀ x ∈ [59], x ∈ alph; decide
theorem al_l9 : Aln (⟨#[97]⟩ : ByteArray) := by show ∀ x ∈ [97], x ∈ alph; decide
theorem law_SynDeep (n : Int) (o0 : -9223372036854775808 ≤ n) (o1 : n ≤ 9223372036854775807) (wh : Int) (b0 : -9223372036854775808 ≤ wh) (b1 : wh ≤ 9223372036854775807) (w : World) (hm : MLw w) (ht : Bt.tab w) :
  Calls Tryz.prog 3 #[.int .i64 n, .int .i64 wh] w fun e w' => e = .returned (.bool true) ∧ Below w.heap.size w w' := by
 obtain ⟨k, hk, hk2⟩ := mod_ok n 70 (by decide) (by decide)
 obtain ⟨q, hq, hq2⟩ := mod_ok wh 5 (by decide) (by decide)
 have HN := Lib.hid hk
 have HQ := Lib.hid hq
 have WK := Lib.hid (fun w' (hb : Below w.heap.size w w') => swork_any w' (hm.below hb) (Bt.tab_below ht hb))
 have T1 := Lib.hid (fun (s : ByteArray) (hs : s.size ≤ 100000) w' (hb : Below w.heap.size w w') => Parse_any s hs w' (hm.below hb) (Bt.tab_below ht hb))
 clear hk hq hm ht
 have s1 : (⟨#[45, 32]⟩ : ByteArray).size = 2 := rfl
 have s2 : (⟨#[91]⟩ : ByteArray).size = 1 := rfl
 have s3 : (⟨#[93]⟩ : ByteArray).size = 1 := rfl
 have s4 : (⟨#[40]⟩ : ByteArray).size = 1 := rfl
 have s5 : (⟨#[41]⟩ : ByteArray).size = 1 := rfl
 have s6 : (⟨#[46, 98]⟩ : ByteArray).size = 2 := rfl
 have s7 : (⟨#[98, 32, 61, 32]⟩ : ByteArray).size = 4 := rfl
 go_enter Tryz.func3, Tryz.ntmps3
 go_wp2_with fail
 rw [HN.out]
 go_loopg [5, 17] k (fun g sv cv wr => ∃ (j : Nat) (st : ByteArray), sv = .string st ∧ cv = .int .i64 (j : Int) ∧ g = k - j ∧ j ≤ k ∧ st.size ≤ 1 + 4 * j ∧ Hid (Aln st) ∧ Hid (Below w.heap.size w wr))
 case atStart => exact ⟨0, _, rfl, rfl, rfl, Nat.zero_le _, by decide, al_l9, Below.refl _ _⟩
 case round =>
  obtain ⟨j, st, rfl, rfl, rfl, hj, hst, HA, HB⟩ := hrel
  by_cases hlt : j < k
  ·have hki : (j : Int) < (k : Int) := by omega
   have hq5 : q = 0 ∨ q = 1 ∨ q = 2 ∨ q = 3 ∨ q = 4 := by omega
   have e := HQ.out
   rcases hq5 with rfl | rfl | rfl | rfl | rfl
   all_goals
    go_wp2_with fail
    go_roundg (k - (j + 1))
    case measure => omega
    case rel => exact ⟨j + 1, _, rfl, rfl, rfl, hlt, by simp only [ByteArray.size_append]; omega, (by show Aln _; repeat' (first | exact HA.out | exact al_l1 | exact al_l2 | exact al_l3 | exact al_l4 | exact al_l5 | exact al_l6 | exact al_l7 | refine al_app ?_ ?_)), HB.out⟩
  ·have hki : ¬ (j : Int) < (k : Int) := by omega
   clear s1 s2 s3 s4 s5 s6 s7
   go_wp2_with fail
   have hsz : (st ++ (⟨#[59]⟩ : ByteArray)).size ≤ 100000 := by simp only [ByteArray.size_append]; have : (⟨#[59]⟩ : ByteArray).size = 1 := rfl; omega
   have HAX := Lib.hid (al_app HA.out al_l8)
   generalize hX : st ++ (⟨#[59]⟩ : ByteArray) = x at *
   have HX := Lib.hid hX
   clear hX
   refine (T1.out x hsz _ HB.out).mono ?_; rintro e w1 ⟨r, h1, F1⟩
   have HB1 := Lib.hid (below_trans HB.out (tp_below F1) HB.out.size)
   have HO := Lib.hid h1
   rcases r with ⟨a, e0⟩ | t
   ·obtain ⟨rfl, _⟩ := F1
    have he := out_err h1
    clear h1
    go_wp2_with fail
    rw [HX.out]
    refine (dparse_any x hsz w1 _ HO.out (fun t h => by cases h) HAX.out).mono ?_; rintro e w2 F2
    have HB2 := Lib.hid (below_trans HB1.out (tp_below F2) HB1.out.size)
    obtain ⟨rfl, _⟩ := F2
    go_wp2_with fail
    refine (same_yes w2 _ _ [] (.inl ⟨rfl, _, _, rfl⟩) (.inl ⟨rfl, _, _, rfl⟩) (Nat.zero_le _)).mono ?_
    rintro e w3 ⟨rfl, hB3⟩
    have HB3 := Lib.hid (below_trans HB2.out hB3 HB2.out.size)
    clear hB3
    go_wp2_with fail
    refine (WK.out _ HB3.out).mono ?_; rintro e w9 ⟨rfl, hB⟩
    have HB9 := Lib.hid hB
    clear hB
    go_wp2_with fail
    go_ret
    exact ⟨rfl, below_trans HB3.out HB9.out HB3.out.size⟩
   ·obtain ⟨v1, rfl, W1, hl1, _⟩ := F1
    have HW1 := Lib.hid W1
    clear W1 h1
    go_wp2_with fail
    rw [HX.out]
    refine (dparse_any x hsz w1 _ HO.out (fun t' h => by injection h with h; subst h; exact hl1) HAX.out).mono ?_; rintro e w2 F2
    have HB12 := Lib.hid (tp_below F2)
    have HB2 := Lib.hid (below_trans HB1.out (tp_below F2) HB1.out.size)
    obtain ⟨v2, rfl, W2, _, _⟩ := F2
    have HW2 := Lib.hid W2
    clear W2
    go_wp2_with fail
    refine (same_yes w2 _ _ (layT t) (NRow.own (own_below HW1.out HB12.out)).ro (NRow.own HW2.out).ro (by omega)).mono ?_
    rintro e w3 ⟨rfl, hB3⟩
    have HB3 := Lib.hid (below_trans HB2.out hB3 HB2.out.size)
    clear hB3
    go_wp2_with fail
    refine (WK.out _ HB3.out).mono ?_; rintro e w9 ⟨rfl, hB⟩
    have HB9 := Lib.hid hB
    clear hB
    go_wp2_with fail
    go_ret
    exact ⟨rfl, below_trans HB3.out HB9.out HB3.out.size⟩
end Go.Proofs.YtnkfodelgpidkaaGreatDoor
