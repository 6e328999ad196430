/- All tokens, by the reader. -/
import Derived.Test.YtcpjggcpimghjaaTok
import Derived.OwnWalk
namespace Go.Proofs.Ytcpjggcpimghjaa
open Go.RowKit
set_option linter.unusedVariables false

def tkC (t : Tk) : List Value := [.int .i64 t.kind, .int .i64 t.pos, .string (bs t.text), .int .u64 t.bits]
def cellsOf (l : List Tk) : List Value := l.flatMap tkC
theorem cellsOf_snoc (l : List Tk) (t : Tk) : cellsOf (l ++ [t]) = cellsOf l ++ tkC t := by simp [cellsOf]
def pre (acc : List Tk) (x : Except (Int × Int) (List Tk)) : Except (Int × Int) (List Tk) := match x with | .error e => .error e | .ok l => .ok (acc ++ l)
theorem pre_nil (x : Except (Int × Int) (List Tk)) : pre [] x = x := by cases x <;> rfl
theorem pre_cons (acc : List Tk) (t : Tk) (a : Int) (x : Except (Int × Int) (List Tk)) : pre acc (consT t a x) = pre (acc ++ [{ t with pos := a }]) x := by
  cases x with
  | error e => rfl
  | ok l => simp [pre, consT]
theorem txt_size : ∀ (j : Nat) {q : UInt8} {R o : List UInt8} {m : Nat}, R.length ≤ j → txt q R = some (o, m) → 1 ≤ m ∧ m ≤ R.length
  | j, q, [], o, m, _, h => by rw [txt] at h; cases h
  | 0, q, c :: r, o, m, hj, h => by simp at hj
  | j + 1, q, c :: r, o, m, hj, h => by
    rw [txt] at h
    split at h
    · injection h with h; injection h with h1 h2; subst h2; simp
    · cases ho : oneT (c :: r) with
      | none => rw [ho] at h; cases h
      | some x =>
        obtain ⟨o1, n⟩ := x
        rw [ho] at h
        simp only at h
        have hn : 1 ≤ n ∧ n ≤ r.length + 1 := by
          unfold oneT at ho
          simp only at ho
          split at ho
          · cases he : escT r with
            | none => rw [he] at ho; cases ho
            | some y =>
              obtain ⟨o2, n2⟩ := y
              rw [he] at ho
              injection ho with ho; injection ho with _ ho
              have := escT_size he; omega
          · split at ho
            · cases ho
            · injection ho with ho; injection ho with _ ho; omega
        cases ht : txt q (r.drop (n - 1)) with
        | none => rw [ht] at h; cases h
        | some y =>
          obtain ⟨o2, m2⟩ := y
          rw [ht] at h
          injection h with h; injection h with _ h
          have := txt_size j (by rw [List.length_drop]; simp at hj; omega) ht
          rw [List.length_drop] at this
          simp; omega
theorem nm_pos {c : UInt8} {r : List UInt8} (h : npB (ci c) = true) : 1 ≤ nmL (c :: r) := by rw [nmL, if_pos h]; omega
theorem tokO_size {R : List UInt8} {t : Tk} {n : Nat} (h : tokO R = some (t, n)) : 1 ≤ n ∧ n ≤ R.length := by
  match R with
  | [] => cases h
  | c :: r =>
    unfold tokO at h
    simp only at h
    split at h
    · rename_i hd
      have hnp : npB (ci c) = true := by unfold digB at hd; unfold npB; simp only [decide_eq_true_eq] at hd ⊢; omega
      have := nm_pos (r := r) hnp
      have := nmL_le (c :: r)
      split at h
      · cases h
      · injection h with h; injection h with _ h; omega
    · split at h
      · rename_i hnp
        have := nm_pos (r := r) hnp
        have := nmL_le (c :: r)
        injection h with h; injection h with _ h; omega
      · split at h
        · split at h
          · cases h
          · rename_i hx
            injection h with h; injection h with _ h
            have := txt_size _ (Nat.le_refl _) hx
            simp; omega
        · split at h
          · cases h
          · have := sgnN_le (c :: r) 4
            injection h with h; injection h with _ h; omega
theorem opA_range {t : Tk} {op : Int} (h0 : 0 ≤ op) (h1 : op ≤ 240) (hd : tooDeep t op = false) : 0 ≤ opA t op ∧ opA t op ≤ 240 := by
  unfold opA
  unfold tooDeep at hd
  split
  · rename_i h
    have : ¬ op = 240 := by
      intro e
      simp only [Bool.and_eq_true] at h
      rw [h.1, h.2, e] at hd; exact absurd hd (by decide)
    omega
  · split <;> omega
theorem lexB_at {s : ByteArray} {p : Nat} {op : Int} (h : p < s.size) : lexB (s.data.toList.drop p) p op = match tokO (s.data.toList.drop p) with
    | none => .error ((p : Int), 5)
    | some (t, n) => if tooDeep t op then .error ((p : Int), 6) else consT t p (lexA (s.data.toList.drop (p + n)) ((p + n : Nat) : Int) (opA t op)) := by
  have e := drop_cons s p h
  rw [e, lexB_cons]
  cases ht : tokO (s[p] :: s.data.toList.drop (p + 1)) with
  | none => rfl
  | some x =>
    obtain ⟨t, n⟩ := x
    have := tokO_size ht
    simp only
    rw [List.drop_drop, show p + 1 + (n - 1) = p + n by omega, Int.natCast_add]
theorem lexB_out {s : ByteArray} {p : Nat} {op a : Int} (h : s.size ≤ p) : lexB (s.data.toList.drop p) a op = .ok [] := by rw [drop_done s p h, lexB]
theorem lexA_bad {s : ByteArray} {p m : Nat} {op : Int} (h : gap (s.data.toList.drop p) = (m, false)) : lexA (s.data.toList.drop p) p op = .error (((p + m : Nat) : Int), 5) := by
  unfold lexA; rw [h]; simp
theorem lexA_ok {s : ByteArray} {p m : Nat} {op : Int} (h : gap (s.data.toList.drop p) = (m, true)) : lexA (s.data.toList.drop p) p op = lexB (s.data.toList.drop (p + m)) ((p + m : Nat) : Int) op := by
  unfold lexA; rw [h]; simp [List.drop_drop]
theorem gap_le : ∀ (j : Nat) (R : List UInt8), R.length ≤ j → (gap R).1 ≤ R.length
  | j, [], _ => by rw [gap]; simp
  | 0, c :: r, h => by simp at h
  | j + 1, c :: r, h => by
    rw [gap]
    split
    · have := gap_le j r (by simp at h; omega); simp; omega
    · split
      · simp
      · simp
      · rename_i n hr
        have h1 := rem_le hr
        have := gap_le j (r.drop n) (by rw [List.length_drop]; simp at h; omega)
        rw [List.length_drop] at this
        simp at h1 ⊢; omega

theorem tinfo : (Try.prog.info? 35).map (fun i => (i.zero, i.size, i.bytes)) = some (some (.agg #[.int .i64 0, .int .i64 0, .string ⟨#[]⟩, .int .u64 0]), 4, 40) := by kernel_rfl

def ToksPost (b : Nat) (B : Nat) (w : World) (x : Except (Int × Int) (List Tk)) (e : Ending) (w' : World) : Prop := match x with
  | .error (a, c) => e = flt a c ∧ Off b w w'
  | .ok l => ∃ v, e = .returned v ∧ w'.ownsRow B 35 4 v l.length (cellsOf l) ∧ Off b w w'
theorem ML.below {b B : Nat} {w w' : World} (h : ML b w) (hb : Below B w w') (hB : b ≤ B) : ML b w' := by
  obtain ⟨h1, m, h2⟩ := h
  exact ⟨h1, m, (hb.cell (p := ⟨1, 0, none⟩) (by show 1 < _; omega)).trans h2⟩
theorem own_off {b B : Nat} {w w' : World} {e : TypeId} {size n : Nat} {v : Value} {xs : List Value} (h : w.ownsRow B e size v n xs) (o : Off b w w') (hb : b < B) : w'.ownsRow B e size v n xs := by
  refine h.kept (row := some b) ⟨o.os, o.tape, o.output, o.size, fun k hk hr2 => o.block k hk (fun e => hr2 (by rw [e]))⟩ (.inr ?_)
  intro e2
  rcases h.2 with ⟨rfl, _⟩ | ⟨g, cap, cur, rfl, hg, _⟩
  · simp [Value.ownBlock] at e2
  · simp only [Value.ownBlock, Option.some.injEq] at e2; omega

set_option maxRecDepth 100000 in
set_option maxHeartbeats 4000000 in
theorem tokens_any (b : Nat) (s : ByteArray) (hs : s.size ≤ 100000) (beg op : Int) (h0 : 0 ≤ op) (h1 : op ≤ 240) (k : Nat) (hk : k ≤ s.size) (w : World) (h : Rd w b s beg k op) (hm : ML b w) :
    Calls Try.prog 16 #[.pointer (some ⟨b, 0, none⟩)] w (ToksPost b w.heap.size w (lexA (s.data.toList.drop k) k op)) := by
  obtain ⟨i0, hi, hz0, hz1, hz2⟩ := info_parts tinfo
  have HII := Lib.hid hi
  have HZ0 := Lib.hid hz0
  have HZ1 := Lib.hid hz1
  have HZ2 := Lib.hid hz2
  clear hi hz0 hz1 hz2
  have H := Lib.hid h
  have HM := Lib.hid hm
  have hbl := h.lt
  clear h hm
  have SK := Lib.hid (fun w h hm => skip_any b s hs beg op k hk w h hm)
  have LB := Lib.hid (fun m => @lexA_bad s k m op)
  have LO := Lib.hid (fun m => @lexA_ok s k m op)
  have GL := Lib.hid (gap_le _ (s.data.toList.drop k) (Nat.le_refl _))
  generalize lexA (s.data.toList.drop k) k op = G at *
  generalize hgg : gap (s.data.toList.drop k) = g at *
  clear hgg
  obtain ⟨m, f⟩ := g
  cases f
  · have E := Lib.hid (LB.out m rfl)
    go_enter Try.func16, Try.ntmps16
    go_wp2_with fail
    refine (SK.out _ H.out HM.out).mono ?_; rintro e w1 ⟨rfl, hO1⟩
    unfold flt
    have HO1 := Lib.hid hO1
    clear hO1
    go_wp2_with fail
    exact bodyPost_panic rfl (by rw [E.out]; exact ⟨rfl, HO1.out⟩)
  · have E := Lib.hid (LO.out m rfl)
    have hm1 := GL.out
    rw [List.length_drop, list_size'] at hm1
    have hm2 : k + m ≤ s.size := by simp at hm1; omega
    clear hm1
    go_enter Try.func16, Try.ntmps16
    go_wp2_with fail
    refine (SK.out _ H.out HM.out).mono ?_; rintro e w1 ⟨rfl, hR1, hO1⟩
    have HR1 := Lib.hid hR1
    have HO1 := Lib.hid hO1
    have HM1 := Lib.hid (HM.out.off hbl hO1)
    clear hR1 hO1
    go_wp2_with fail
    go_loopg [3] (s.size - (k + m)) (fun g vv wr => ∃ (p : Nat) (bg o : Int) (acc : List Tk), g = s.size - p ∧ p ≤ s.size ∧ 0 ≤ o ∧ o ≤ 240 ∧ acc.length ≤ p ∧ Hid (wr.ownsRow w.heap.size 35 4 vv acc.length (cellsOf acc)) ∧ Hid (Rd wr b s bg p o) ∧ Hid (ML b wr) ∧ Hid (Off b w wr) ∧ Hid (G = pre acc (lexB (s.data.toList.drop p) p o)))
    case atStart => exact ⟨k + m, beg, op, [], rfl, hm2, h0, h1, Nat.zero_le _, World.ownsRow_nil _ _ _ _, HR1.out, HM1.out, HO1.out, by show _ = _; rw [pre_nil]; exact E.out⟩
    case round =>
      obtain ⟨p, bg, o, acc, rfl, hps, ho0, ho1, hacc, HW, HR, HM2, HO, HG⟩ := hrel
      have c0 := HR.out.c0
      have c2 := HR.out.c2
      by_cases hlt : p < s.size
      · have T := Lib.hid (fun w h => token_any b s hs bg o ho0 ho1 p hlt w h)
        have TR : Hid (tokR s p o = match tokO (s.data.toList.drop p) with | none => .error 5 | some (t, n) => if tooDeep t o then .error 6 else .ok (tkV t p, p + n, opA t o)) := rfl
        have LA := Lib.hid (@lexB_at s p o hlt)
        have TS := Lib.hid (fun t n => @tokO_size (s.data.toList.drop p) t n)
        generalize tokR s p o = tr at *
        generalize lexB (s.data.toList.drop p) p o = LX at *
        generalize tokO (s.data.toList.drop p) = tk at *
        rcases tk with _ | ⟨t, n⟩
        · have ht : tr = .error 5 := TR.out
          have hx : LX = .error ((p : Int), 5) := LA.out
          subst ht hx
          have EE : Hid (G = .error ((p : Int), 5)) := HG.out
          go_wp2_with fail
          go_quiet (fail)
          go_wp2_with fail
          refine (T.out _ (HR.out.drewN _)).mono ?_; rintro e w2 ⟨rfl, hO2⟩
          unfold flt
          have HO2 := Lib.hid ((HO.out.drewN _).trans hO2)
          clear hO2
          go_wp2_with fail
          exact bodyPost_panic rfl (by rw [EE.out]; exact ⟨rfl, HO2.out⟩)
        · have hts := TS.out t n rfl
          rw [List.length_drop, list_size'] at hts
          obtain ⟨hn1, hn2⟩ := hts
          cases hd : tooDeep t o
          · have ht : tr = .ok (tkV t p, p + n, opA t o) := by have := TR.out; simp only [hd] at this; exact this
            have hx : LX = consT t p (lexA (s.data.toList.drop (p + n)) ((p + n : Nat) : Int) (opA t o)) := by have := LA.out; simp only [hd] at this; exact this
            have hor := opA_range ho0 ho1 hd
            have EE : Hid (G = pre (acc ++ [{ t with pos := p }]) (lexA (s.data.toList.drop (p + n)) ((p + n : Nat) : Int) (opA t o))) := by
              show _ = _; rw [HG.out, hx, pre_cons]
            subst ht hx
            clear hd
            obtain ⟨hor0, hor1⟩ := hor
            generalize opA t o = o2 at *
            have SK2 := Lib.hid (fun w h hm => skip_any b s hs p o2 (p + n) (by omega) w h hm)
            have LB2 := Lib.hid (fun m => @lexA_bad s (p + n) m o2)
            have LO2 := Lib.hid (fun m => @lexA_ok s (p + n) m o2)
            have GL2 := Lib.hid (gap_le _ (s.data.toList.drop (p + n)) (Nat.le_refl _))
            generalize lexA (s.data.toList.drop (p + n)) ((p + n : Nat) : Int) o2 = G2 at *
            generalize hgg : gap (s.data.toList.drop (p + n)) = g2 at *
            clear hgg
            have HCN : Hid (cellsOf (acc ++ [{ t with pos := (p : Int) }]) = cellsOf acc ++ [.int .i64 t.kind, .int .i64 (p : Int), .string (bs t.text), .int .u64 t.bits]) := cellsOf_snoc _ _
            have HLN : Hid ((acc ++ [{ t with pos := (p : Int) }]).length = acc.length + 1) := by show _ = _; simp
            generalize acc ++ [{ t with pos := (p : Int) }] = acc2 at *
            unfold tkV at T
            go_wp2_with fail
            go_quiet (fail)
            go_wp2_with fail
            refine (T.out _ (HR.out.drewN _)).mono ?_; rintro e w2 ⟨rfl, hR2, hO2⟩
            have HR2 := Lib.hid hR2
            have HM3 := Lib.hid (HM2.out.off HR.out.lt ((Off.refl b _).drewN nq |>.trans hO2))
            have hown := own_off (own_off HW.out ((Off.refl b _).drewN nq)  hbl) hO2 hbl
            have HO2 := Lib.hid ((HO.out.drewN _).trans hO2)
            have hsz := HO2.out.size
            clear hR2 hO2
            generalize hcl : cellsOf acc = xs at *
            generalize hal : acc.length = len at *
            have hi := HII.out
            have hz0 := HZ0.out
            have hz1 := HZ1.out
            have hz2 := HZ2.out
            go_wp2_with (at_builtin; refine wpList_append_own _ rfl _ _ 22 rfl w.heap.size 35 i0 _ 4 40 Try.underlying22 hi hz0 hz1 hz2 rfl (by decide) _ _ _ rfl (hown.alloc _) ⟨w2.heap.size, 0, none⟩ 1 1 [.int .i64 t.kind, .int .i64 (p : Int), .string (bs t.text), .int .u64 t.bits] rfl rfl ?c1 ?c2 ?c3 ?c4 ?c5 ?_)
            case c1 =>
              intro j u hj
              match j, hj with
              | 0, hj => simp at hj; subst hj; simp [Addr.add]
              | 1, hj => simp at hj; subst hj; simp [Addr.add]
              | 2, hj => simp at hj; subst hj; simp [Addr.add]
              | 3, hj => simp at hj; subst hj; simp [Addr.add]
            case c2 => intro u hu; simp at hu; rcases hu with rfl | rfl | rfl | rfl <;> rfl
            case c3 => unfold maxLen; omega
            case c4 => omega
            case c5 => simp; omega
            intro v' w3 hown' hgrow _
            have hbel : Below w.heap.size w2 w3 := ((Below.refl _ w2).alloc hsz _).grown hgrow (by simp; omega) (fun k hk => (hown.lt k hk).1)
            have HR3 := Lib.hid (HR2.out.below hbel hbl)
            have HM4 := Lib.hid (HM3.out.below hbel (by omega))
            have HO3 := Lib.hid (HO2.out.belowAt hbel)
            rw [← HLN.out, ← HCN.out] at hown'
            have HW3 := Lib.hid hown'
            clear hown' hgrow hbel hown hi hz0 hz1 hz2
            obtain ⟨m2, f2⟩ := g2
            have hm3 := GL2.out
            rw [List.length_drop, list_size'] at hm3
            have hm4 : p + n + m2 ≤ s.size := by simp at hm3; omega
            clear hm3
            cases f2
            · have hG2 := LB2.out m2 rfl
              subst hG2
              have EE2 : Hid (G = .error (((p + n + m2 : Nat) : Int), 5)) := EE.out
              go_wp2_with fail
              refine (SK2.out _ HR3.out HM4.out).mono ?_; rintro e w4 ⟨rfl, hO4⟩
              unfold flt
              have HO4 := Lib.hid (HO3.out.trans hO4)
              clear hO4
              go_wp2_with fail
              exact bodyPost_panic rfl (by rw [EE2.out]; exact ⟨rfl, HO4.out⟩)
            · have hG2 := LO2.out m2 rfl
              subst hG2
              go_wp2_with fail
              refine (SK2.out _ HR3.out HM4.out).mono ?_; rintro e w4 ⟨rfl, hR4, hO4⟩
              have HR4 := Lib.hid hR4
              have HM5 := Lib.hid (HM4.out.off HR3.out.lt hO4)
              have HW4 := Lib.hid (own_off HW3.out hO4 hbl)
              have HO4 := Lib.hid (HO3.out.trans hO4)
              clear hR4 hO4
              go_wp2_with fail
              go_roundg (s.size - (p + n + m2))
              case measure => omega
              case rel =>
                have hl2 := HLN.out
                exact ⟨p + n + m2, p, o2, acc2, rfl, hm4, hor0, hor1, by omega, HW4.out, HR4.out, HM5.out, HO4.out, EE.out⟩
          · have ht : tr = .error 6 := by have := TR.out; simp only [hd] at this; exact this
            have hx : LX = .error ((p : Int), 6) := by have := LA.out; simp only [hd] at this; exact this
            subst ht hx
            clear hd
            have EE : Hid (G = .error ((p : Int), 6)) := HG.out
            go_wp2_with fail
            go_quiet (fail)
            go_wp2_with fail
            refine (T.out _ (HR.out.drewN _)).mono ?_; rintro e w2 ⟨rfl, hO2⟩
            unfold flt
            have HO2 := Lib.hid ((HO.out.drewN _).trans hO2)
            clear hO2
            go_wp2_with fail
            exact bodyPost_panic rfl (by rw [EE.out]; exact ⟨rfl, HO2.out⟩)
      · have EE : Hid (G = .ok acc) := by
          show _ = _
          rw [HG.out, lexB_out (by omega)]; simp [pre]
        go_wp2_with fail
        go_quiet (fail)
        go_wp2_with fail
        go_ret
        rw [EE.out]
        exact ⟨_, rfl, HW.out, HO.out.drewN _⟩
end Go.Proofs.Ytcpjggcpimghjaa
