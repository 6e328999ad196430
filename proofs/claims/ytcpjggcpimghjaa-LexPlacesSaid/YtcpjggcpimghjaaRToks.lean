/- The document's reading of all tokens. -/
import Derived.Test.YtcpjggcpimghjaaR9
import Derived.Test.YtcpjggcpimghjaaFace
namespace Go.Proofs.Ytcpjggcpimghjaa
open Go.RowKit
set_option linter.unusedVariables false

theorem tok_new (w : World) (k q b : Int) (x : ByteArray) : ∀ (j : Nat) (u : Value), ([.int .i64 k, .int .i64 q, .string x, .int .u64 b] : List Value)[j]? = some u → (w.alloc (.cells #[.int .i64 k, .int .i64 q, .string x, .int .u64 b] 35)).cell? ((⟨w.heap.size, 0, none⟩ : Addr).add j) = some u := by
  intro j u hj
  match j, hj with
  | 0, hj => simp at hj; subst hj; simp [Addr.add]
  | 1, hj => simp at hj; subst hj; simp [Addr.add]
  | 2, hj => simp at hj; subst hj; simp [Addr.add]
  | 3, hj => simp at hj; subst hj; simp [Addr.add]
theorem tok_new1 (w : World) (o : Obj) (k q b : Int) (x : ByteArray) : ∀ (j : Nat) (u : Value), ([.int .i64 k, .int .i64 q, .string x, .int .u64 b] : List Value)[j]? = some u → ((w.alloc o).alloc (.cells #[.int .i64 k, .int .i64 q, .string x, .int .u64 b] 35)).cell? ((⟨w.heap.size + 1, 0, none⟩ : Addr).add j) = some u := by
  have e : w.heap.size + 1 = (w.alloc o).heap.size := by simp
  rw [e]; exact tok_new _ k q b x
theorem tok_ones (k q b : Int) (x : ByteArray) : ∀ u ∈ ([.int .i64 k, .int .i64 q, .string x, .int .u64 b] : List Value), u.oneCell' = true := by
  intro u hu; simp at hu; rcases hu with rfl | rfl | rfl | rfl <;> rfl

theorem own_below {w w' : World} {B : Nat} {e : TypeId} {size n : Nat} {v : Value} {xs : List Value} (h : w.ownsRow B e size v n xs) (hb : Below w.heap.size w w') : w'.ownsRow B e size v n xs :=
  h.kept (row := none) ⟨hb.os, hb.tape, hb.output, hb.size, fun k hk _ => hb.block k hk⟩ (by by_cases hv : v.ownBlock = none; exact .inl hv; exact .inr hv)
theorem tex_true {l m : List UInt8} (h : l = m) : ((bs l).toList == m) = true := gl_true (by rw [bs_list]; exact h)
theorem tex_false {l m : List UInt8} (h : ¬ l = m) : ((bs l).toList == m) = false := gl_false (by rw [bs_list]; exact h)
theorem ret_at6 {a c : Int} (h : a = c) : (Ending.returned (.tuple #[.slice none 0 0, .int .i64 a, .int .i64 6])) = .returned (.tuple #[.slice none 0 0, .int .i64 c, .int .i64 6]) := by rw [h]
theorem ret_at {a c : Int} (h : a = c) : (Ending.returned (.tuple #[.slice none 0 0, .int .i64 a, .int .i64 5])) = .returned (.tuple #[.slice none 0 0, .int .i64 c, .int .i64 5]) := by rw [h]

set_option maxRecDepth 100000 in
set_option maxHeartbeats 16000000 in
theorem rTokens_any (s : ByteArray) (hs : s.size ≤ 100000) (w : World) :
    Calls Try.prog 9 #[.string s] w (FacePost w (lexL s.data.toList)) := by
  obtain ⟨i0, hi, hz0, hz1, hz2⟩ := info_parts tinfo
  have HII := Lib.hid hi
  have HZ0 := Lib.hid hz0
  have HZ1 := Lib.hid hz1
  have HZ2 := Lib.hid hz2
  clear hi hz0 hz1 hz2
  have HL : Hid (lexL s.data.toList = if 4096 < s.size then .error (0, 3) else match chk s.data.toList 0 with | some k => .error ((k : Int), 4) | none => lexA s.data.toList 0 0) := by
    show _ = _; unfold lexL; rw [list_size']; rfl
  have CK := Lib.hid (fun w => rcheck_any s (by omega) w)
  have HCA : Hid (chkA s.data.toList = match chk s.data.toList 0 with | some k => (k : Int) | none => 0) := rfl
  have HCE : Hid (chkE s.data.toList = match chk s.data.toList 0 with | some _ => 4 | none => 0) := rfl
  generalize lexL s.data.toList = G at *
  generalize chkA s.data.toList = ca at *
  generalize chkE s.data.toList = ce at *
  by_cases hl : 4096 < s.size
  · have E := Lib.hid (HL.out.trans (if_pos hl))
    have hli : (4096 : Int) < (s.size : Int) := by omega
    go_enter Try.func9, Try.ntmps9
    go_wp2_with fail
    go_ret3
    exact fp_err E.out rfl (Below.refl _ _)
  · have hli : ¬ (4096 : Int) < (s.size : Int) := by omega
    have HL2 := Lib.hid (HL.out.trans (if_neg hl))
    generalize hck : chk s.data.toList 0 = ck at *
    clear hck
    rcases ck with _ | k
    · have hce : ce = 0 := HCE.out
      subst hce
      have E0 : Hid (G = lexA (s.data.toList.drop 0) ((0 : Nat) : Int) 0) := HL2.out
      go_enter Try.func9, Try.ntmps9
      go_wp2_with fail
      refine (CK.out _).mono ?_; rintro e w1 ⟨rfl, hB⟩
      go_wp2_with fail
      go_loopg [7, 8, 9] s.size (fun g vv aa oo wr => ∃ (p : Nat) (op : Int) (acc : List Tk), g = s.size - p ∧ aa = .int .i64 (p : Int) ∧ oo = .int .i64 op ∧ p ≤ s.size ∧ 0 ≤ op ∧ op ≤ 240 ∧ acc.length ≤ p ∧ Hid (wr.ownsRow w.heap.size 35 4 vv acc.length (cellsOf acc)) ∧ Hid (Below w.heap.size w wr) ∧ Hid (G = pre acc (lexA (s.data.toList.drop p) (p : Int) op)))
      case atStart => exact ⟨0, 0, [], rfl, rfl, rfl, by omega, by omega, by omega, Nat.zero_le _, World.ownsRow_nil _ _ _ _, hB, by show _ = _; rw [pre_nil]; exact E0.out⟩
      case round =>
        obtain ⟨p, op, acc, rfl, rfl, rfl, hp, ho0, ho1, hacc, HW, HB, HG⟩ := hrel
        have RB := Lib.hid (fun w => rbetween_any (s.extract p s.size) (by rw [ByteArray.size_extract]; omega) w)
        rw [rest_list] at RB
        have GO := Lib.hid (fun k => @gi_ok (s.data.toList.drop p) k)
        have GB := Lib.hid (fun k => @gi_bad (s.data.toList.drop p) k)
        have GL := Lib.hid (gap_le _ (s.data.toList.drop p) (Nat.le_refl _))
        have LB := Lib.hid (fun m => @lexA_bad s p m op)
        have LO := Lib.hid (fun m => @lexA_ok s p m op)
        generalize gapI (s.data.toList.drop p) = gi at *
        generalize lexA (s.data.toList.drop p) (p : Int) op = X at *
        generalize hgg : gap (s.data.toList.drop p) = gg at *
        clear hgg
        obtain ⟨k, f⟩ := gg
        have hk := GL.out
        rw [List.length_drop, list_size'] at hk
        have hpk : p + k ≤ s.size := by simp at hk; omega
        clear hk
        have hps : (p : Int) ≤ (s.size : Int) := by omega
        cases f
        · have hgi := GB.out k rfl
          have hX := LB.out k rfl
          subst hgi hX
          have E : Hid (G = .error (((p + k : Nat) : Int), 5)) := HG.out
          have hneg : (-1 - (k : Int)) < 0 := by omega
          go_wp2_with fail
          refine (RB.out _).mono ?_; rintro e w' ⟨rfl, rfl⟩
          go_wp2_with fail
          go_ret3
          exact fp_err E.out (ret_at (by omega)) HB.out
        · have hgi := GO.out k rfl
          have hX := LO.out k rfl
          subst hgi hX
          have hnn : ¬ ((k : Int) < 0) := by omega
          by_cases hend : p + k = s.size
          · have hqe : (((p : Int) + (k : Int)) == (s.size : Int)) = true := by rw [beq_iff_eq]; omega
            have E : Hid (G = .ok acc) := by
              show _ = _; rw [HG.out, lexB_out (by omega)]; simp [pre]
            clear hend
            go_wp2_with fail
            refine (RB.out _).mono ?_; rintro e w' ⟨rfl, rfl⟩
            go_wp2_with fail
            go_ret3
            exact fp_ok E.out rfl HW.out HB.out
          · have hqe : (((p : Int) + (k : Int)) == (s.size : Int)) = false := by rw [beq_eq_false_iff_ne]; omega
            have hlt : p + k < s.size := by omega
            have LA := Lib.hid (@lexB_at s (p + k) op hlt)
            have hpki : (p : Int) + (k : Int) ≤ (s.size : Int) := by omega
            have hqs : (s.extract (p + k) s.size).size = s.size - (p + k) := by rw [ByteArray.size_extract]; omega
            have NX := Lib.hid (fun w => rnext_tok (s.extract (p + k) s.size) (by omega) (by omega) w)
            rw [rest_list] at NX
            have TS := Lib.hid (fun t n => @tokO_size (s.data.toList.drop (p + k)) t n)
            generalize lexB (s.data.toList.drop (p + k)) ((p + k : Nat) : Int) op = LX at *
            generalize tokO (s.data.toList.drop (p + k)) = tk at *
            clear hqs hend
            go_wp2_with fail
            refine (RB.out _).mono ?_; rintro e w' ⟨rfl, rfl⟩
            go_wp2_with fail
            refine (NX.out _).mono ?_; rintro e w2 HNP
            rcases tk with _ | ⟨t, n⟩
            · obtain ⟨tk1, tt, tb, rfl, hB2⟩ := HNP
              have hX : LX = .error (((p + k : Nat) : Int), 5) := LA.out
              subst hX
              have E : Hid (G = .error (((p + k : Nat) : Int), 5)) := HG.out
              have HB2 := Lib.hid (below_trans HB.out hB2 HB.out.size)
              clear hB2
              go_wp2_with fail
              go_ret3
              exact fp_err E.out (ret_at (by omega)) (HB2.out.alloc HB2.out.size _)
            · obtain ⟨rfl, hB2⟩ := HNP
              have HB2 := Lib.hid (below_trans HB.out hB2 HB.out.size)
              have HW2 := Lib.hid (own_below HW.out hB2)
              have hts := TS.out t n rfl
              rw [List.length_drop, list_size'] at hts
              obtain ⟨hn1, hn2⟩ := hts
              have hsz2 := HB2.out.size
              have hn0 : ((n : Int) == 0) = false := by rw [beq_eq_false_iff_ne]; omega
              clear hB2
              replace LA : Hid (LX = if tooDeep t op then .error (((p + k : Nat) : Int), 6) else consT t ((p + k : Nat) : Int) (lexA (s.data.toList.drop (p + k + n)) ((p + k + n : Nat) : Int) (opA t op))) := LA.out
              clear LB LO
              unfold tkV
              by_cases k5 : t.kind = 5
              · have q5 : (t.kind == 5) = true := by rw [k5]; rfl
                clear k5
                by_cases e123 : t.text = [123]
                · have q123 : ((bs t.text).toList == [123]) = true := tex_true e123
                  have q40 : ((bs t.text).toList == [40]) = false := tex_false (by rw [e123]; decide)
                  have q91 : ((bs t.text).toList == [91]) = false := tex_false (by rw [e123]; decide)
                  have q125 : ((bs t.text).toList == [125]) = false := tex_false (by rw [e123]; decide)
                  have q41 : ((bs t.text).toList == [41]) = false := tex_false (by rw [e123]; decide)
                  have q93 : ((bs t.text).toList == [93]) = false := tex_false (by rw [e123]; decide)
                  have DQ : Hid (t.text = [123]) := e123
                  clear e123
                  by_cases hop : op = 240
                  · have hq : (op == 240) = true := by rw [hop]; rfl
                    have HOP := Lib.hid hop
                    clear hop
                    have E : Hid (G = .error (((p + k : Nat) : Int), 6)) := by
                      show _ = _; rw [HG.out, LA.out, if_pos (by unfold tooDeep opens; rw [q5, DQ.out, HOP.out]; decide)]; rfl
                    clear LA HG
                    go_wp2_with fail
                    go_ret3
                    exact fp_err E.out (ret_at6 (by omega)) (HB2.out.alloc HB2.out.size _)
                  · have hq : (op == 240) = false := by rw [beq_eq_false_iff_ne]; exact hop
                    have HOP := Lib.hid hop
                    clear hop
                    have HG2 : Hid (G = pre (acc ++ [{ t with pos := ((p + k : Nat) : Int) }]) (lexA (s.data.toList.drop (p + k + n)) ((p + k + n : Nat) : Int) (op + 1))) := by
                      show _ = _; rw [HG.out, LA.out, if_neg (by unfold tooDeep opens; rw [q5, DQ.out, hq]; decide), show opA t op = op + 1 from by unfold opA opens shuts; rw [q5, DQ.out]; rfl, pre_cons]
                    clear LA HG
                    have HCN : Hid (cellsOf (acc ++ [{ t with pos := ((p + k : Nat) : Int) }]) = cellsOf acc ++ [.int .i64 t.kind, .int .i64 ((p + k : Nat) : Int), .string (bs t.text), .int .u64 t.bits]) := cellsOf_snoc _ _
                    have HLN : Hid ((acc ++ [{ t with pos := ((p + k : Nat) : Int) }]).length = acc.length + 1) := by show _ = _; simp
                    generalize acc ++ [{ t with pos := ((p + k : Nat) : Int) }] = acc2 at *
                    generalize hcl : cellsOf acc = xs at *
                    generalize hal : acc.length = len at *
                    have hi := HII.out
                    have hz0 := HZ0.out
                    have hz1 := HZ1.out
                    have hz2 := HZ2.out
                    have HPC : Hid ((p : Int) + (k : Int) = ((p + k : Nat) : Int)) := by show _ = _; omega
                    go_wp2_with (at_builtin; refine wpList_append_own _ rfl _ _ 22 rfl w.heap.size 35 i0 _ 4 40 Try.underlying22 hi hz0 hz1 hz2 rfl (by decide) _ _ _ rfl ((HW2.out.alloc _).alloc _) ⟨w2.heap.size + 1, 0, none⟩ 1 1 [.int .i64 t.kind, .int .i64 ((p : Int) + (k : Int)), .string (bs t.text), .int .u64 t.bits] rfl rfl ?c1 ?c2 ?c3 ?c4 ?c5 ?_)
                    case c1 =>
                      exact tok_new1 _ _ _ _ _ _
                    case c2 => exact tok_ones _ _ _ _
                    case c3 => unfold maxLen; omega
                    case c4 => omega
                    case c5 => simp; omega
                    intro v' w3 hown' hgrow _
                    have hbel : Below w.heap.size w2 w3 := (((Below.refl _ w2).alloc hsz2 _).alloc (by simp; omega) _).grown hgrow (by simp; omega) (fun k hk => (HW2.out.lt k hk).1)
                    rw [HPC.out, ← HLN.out, ← HCN.out] at hown'
                    have HW3 := Lib.hid hown'
                    have HB3 := Lib.hid (HB2.out.trans hbel)
                    clear hown' hgrow hbel hi hz0 hz1 hz2
                    go_wp2_with fail
                    go_roundg (s.size - (p + k + n))
                    case measure => omega
                    case rel =>
                      have hl2 := HLN.out
                      exact ⟨p + k + n, op + 1, acc2, rfl, by go_num, by go_num, by omega, by have := HOP.out; omega, by have := HOP.out; omega, by omega, HW3.out, HB3.out, HG2.out⟩
                by_cases e40 : t.text = [40]
                · have q123 : ((bs t.text).toList == [123]) = false := tex_false (by rw [e40]; decide)
                  have q40 : ((bs t.text).toList == [40]) = true := tex_true e40
                  have q91 : ((bs t.text).toList == [91]) = false := tex_false (by rw [e40]; decide)
                  have q125 : ((bs t.text).toList == [125]) = false := tex_false (by rw [e40]; decide)
                  have q41 : ((bs t.text).toList == [41]) = false := tex_false (by rw [e40]; decide)
                  have q93 : ((bs t.text).toList == [93]) = false := tex_false (by rw [e40]; decide)
                  have DQ : Hid (t.text = [40]) := e40
                  clear e123 e40
                  by_cases hop : op = 240
                  · have hq : (op == 240) = true := by rw [hop]; rfl
                    have HOP := Lib.hid hop
                    clear hop
                    have E : Hid (G = .error (((p + k : Nat) : Int), 6)) := by
                      show _ = _; rw [HG.out, LA.out, if_pos (by unfold tooDeep opens; rw [q5, DQ.out, HOP.out]; decide)]; rfl
                    clear LA HG
                    go_wp2_with fail
                    go_ret3
                    exact fp_err E.out (ret_at6 (by omega)) (HB2.out.alloc HB2.out.size _)
                  · have hq : (op == 240) = false := by rw [beq_eq_false_iff_ne]; exact hop
                    have HOP := Lib.hid hop
                    clear hop
                    have HG2 : Hid (G = pre (acc ++ [{ t with pos := ((p + k : Nat) : Int) }]) (lexA (s.data.toList.drop (p + k + n)) ((p + k + n : Nat) : Int) (op + 1))) := by
                      show _ = _; rw [HG.out, LA.out, if_neg (by unfold tooDeep opens; rw [q5, DQ.out, hq]; decide), show opA t op = op + 1 from by unfold opA opens shuts; rw [q5, DQ.out]; rfl, pre_cons]
                    clear LA HG
                    have HCN : Hid (cellsOf (acc ++ [{ t with pos := ((p + k : Nat) : Int) }]) = cellsOf acc ++ [.int .i64 t.kind, .int .i64 ((p + k : Nat) : Int), .string (bs t.text), .int .u64 t.bits]) := cellsOf_snoc _ _
                    have HLN : Hid ((acc ++ [{ t with pos := ((p + k : Nat) : Int) }]).length = acc.length + 1) := by show _ = _; simp
                    generalize acc ++ [{ t with pos := ((p + k : Nat) : Int) }] = acc2 at *
                    generalize hcl : cellsOf acc = xs at *
                    generalize hal : acc.length = len at *
                    have hi := HII.out
                    have hz0 := HZ0.out
                    have hz1 := HZ1.out
                    have hz2 := HZ2.out
                    have HPC : Hid ((p : Int) + (k : Int) = ((p + k : Nat) : Int)) := by show _ = _; omega
                    go_wp2_with (at_builtin; refine wpList_append_own _ rfl _ _ 22 rfl w.heap.size 35 i0 _ 4 40 Try.underlying22 hi hz0 hz1 hz2 rfl (by decide) _ _ _ rfl ((HW2.out.alloc _).alloc _) ⟨w2.heap.size + 1, 0, none⟩ 1 1 [.int .i64 t.kind, .int .i64 ((p : Int) + (k : Int)), .string (bs t.text), .int .u64 t.bits] rfl rfl ?c1 ?c2 ?c3 ?c4 ?c5 ?_)
                    case c1 =>
                      exact tok_new1 _ _ _ _ _ _
                    case c2 => exact tok_ones _ _ _ _
                    case c3 => unfold maxLen; omega
                    case c4 => omega
                    case c5 => simp; omega
                    intro v' w3 hown' hgrow _
                    have hbel : Below w.heap.size w2 w3 := (((Below.refl _ w2).alloc hsz2 _).alloc (by simp; omega) _).grown hgrow (by simp; omega) (fun k hk => (HW2.out.lt k hk).1)
                    rw [HPC.out, ← HLN.out, ← HCN.out] at hown'
                    have HW3 := Lib.hid hown'
                    have HB3 := Lib.hid (HB2.out.trans hbel)
                    clear hown' hgrow hbel hi hz0 hz1 hz2
                    go_wp2_with fail
                    go_roundg (s.size - (p + k + n))
                    case measure => omega
                    case rel =>
                      have hl2 := HLN.out
                      exact ⟨p + k + n, op + 1, acc2, rfl, by go_num, by go_num, by omega, by have := HOP.out; omega, by have := HOP.out; omega, by omega, HW3.out, HB3.out, HG2.out⟩
                by_cases e91 : t.text = [91]
                · have q123 : ((bs t.text).toList == [123]) = false := tex_false (by rw [e91]; decide)
                  have q40 : ((bs t.text).toList == [40]) = false := tex_false (by rw [e91]; decide)
                  have q91 : ((bs t.text).toList == [91]) = true := tex_true e91
                  have q125 : ((bs t.text).toList == [125]) = false := tex_false (by rw [e91]; decide)
                  have q41 : ((bs t.text).toList == [41]) = false := tex_false (by rw [e91]; decide)
                  have q93 : ((bs t.text).toList == [93]) = false := tex_false (by rw [e91]; decide)
                  have DQ : Hid (t.text = [91]) := e91
                  clear e123 e40 e91
                  by_cases hop : op = 240
                  · have hq : (op == 240) = true := by rw [hop]; rfl
                    have HOP := Lib.hid hop
                    clear hop
                    have E : Hid (G = .error (((p + k : Nat) : Int), 6)) := by
                      show _ = _; rw [HG.out, LA.out, if_pos (by unfold tooDeep opens; rw [q5, DQ.out, HOP.out]; decide)]; rfl
                    clear LA HG
                    go_wp2_with fail
                    go_ret3
                    exact fp_err E.out (ret_at6 (by omega)) (HB2.out.alloc HB2.out.size _)
                  · have hq : (op == 240) = false := by rw [beq_eq_false_iff_ne]; exact hop
                    have HOP := Lib.hid hop
                    clear hop
                    have HG2 : Hid (G = pre (acc ++ [{ t with pos := ((p + k : Nat) : Int) }]) (lexA (s.data.toList.drop (p + k + n)) ((p + k + n : Nat) : Int) (op + 1))) := by
                      show _ = _; rw [HG.out, LA.out, if_neg (by unfold tooDeep opens; rw [q5, DQ.out, hq]; decide), show opA t op = op + 1 from by unfold opA opens shuts; rw [q5, DQ.out]; rfl, pre_cons]
                    clear LA HG
                    have HCN : Hid (cellsOf (acc ++ [{ t with pos := ((p + k : Nat) : Int) }]) = cellsOf acc ++ [.int .i64 t.kind, .int .i64 ((p + k : Nat) : Int), .string (bs t.text), .int .u64 t.bits]) := cellsOf_snoc _ _
                    have HLN : Hid ((acc ++ [{ t with pos := ((p + k : Nat) : Int) }]).length = acc.length + 1) := by show _ = _; simp
                    generalize acc ++ [{ t with pos := ((p + k : Nat) : Int) }] = acc2 at *
                    generalize hcl : cellsOf acc = xs at *
                    generalize hal : acc.length = len at *
                    have hi := HII.out
                    have hz0 := HZ0.out
                    have hz1 := HZ1.out
                    have hz2 := HZ2.out
                    have HPC : Hid ((p : Int) + (k : Int) = ((p + k : Nat) : Int)) := by show _ = _; omega
                    go_wp2_with (at_builtin; refine wpList_append_own _ rfl _ _ 22 rfl w.heap.size 35 i0 _ 4 40 Try.underlying22 hi hz0 hz1 hz2 rfl (by decide) _ _ _ rfl ((HW2.out.alloc _).alloc _) ⟨w2.heap.size + 1, 0, none⟩ 1 1 [.int .i64 t.kind, .int .i64 ((p : Int) + (k : Int)), .string (bs t.text), .int .u64 t.bits] rfl rfl ?c1 ?c2 ?c3 ?c4 ?c5 ?_)
                    case c1 =>
                      exact tok_new1 _ _ _ _ _ _
                    case c2 => exact tok_ones _ _ _ _
                    case c3 => unfold maxLen; omega
                    case c4 => omega
                    case c5 => simp; omega
                    intro v' w3 hown' hgrow _
                    have hbel : Below w.heap.size w2 w3 := (((Below.refl _ w2).alloc hsz2 _).alloc (by simp; omega) _).grown hgrow (by simp; omega) (fun k hk => (HW2.out.lt k hk).1)
                    rw [HPC.out, ← HLN.out, ← HCN.out] at hown'
                    have HW3 := Lib.hid hown'
                    have HB3 := Lib.hid (HB2.out.trans hbel)
                    clear hown' hgrow hbel hi hz0 hz1 hz2
                    go_wp2_with fail
                    go_roundg (s.size - (p + k + n))
                    case measure => omega
                    case rel =>
                      have hl2 := HLN.out
                      exact ⟨p + k + n, op + 1, acc2, rfl, by go_num, by go_num, by omega, by have := HOP.out; omega, by have := HOP.out; omega, by omega, HW3.out, HB3.out, HG2.out⟩
                by_cases e125 : t.text = [125]
                · have q123 : ((bs t.text).toList == [123]) = false := tex_false (by rw [e125]; decide)
                  have q40 : ((bs t.text).toList == [40]) = false := tex_false (by rw [e125]; decide)
                  have q91 : ((bs t.text).toList == [91]) = false := tex_false (by rw [e125]; decide)
                  have q125 : ((bs t.text).toList == [125]) = true := tex_true e125
                  have q41 : ((bs t.text).toList == [41]) = false := tex_false (by rw [e125]; decide)
                  have q93 : ((bs t.text).toList == [93]) = false := tex_false (by rw [e125]; decide)
                  have DQ : Hid (t.text = [125]) := e125
                  clear e123 e40 e91 e125
                  by_cases hop : 0 < op
                  · have HG2 : Hid (G = pre (acc ++ [{ t with pos := ((p + k : Nat) : Int) }]) (lexA (s.data.toList.drop (p + k + n)) ((p + k + n : Nat) : Int) (op - 1))) := by
                      show _ = _; rw [HG.out, LA.out, if_neg (by unfold tooDeep opens; rw [q5, DQ.out]; simp), show opA t op = op - 1 from by unfold opA opens shuts; rw [q5, DQ.out]; show max (op - 1) 0 = _; omega, pre_cons]
                    clear LA HG
                    have HCN : Hid (cellsOf (acc ++ [{ t with pos := ((p + k : Nat) : Int) }]) = cellsOf acc ++ [.int .i64 t.kind, .int .i64 ((p + k : Nat) : Int), .string (bs t.text), .int .u64 t.bits]) := cellsOf_snoc _ _
                    have HLN : Hid ((acc ++ [{ t with pos := ((p + k : Nat) : Int) }]).length = acc.length + 1) := by show _ = _; simp
                    generalize acc ++ [{ t with pos := ((p + k : Nat) : Int) }] = acc2 at *
                    generalize hcl : cellsOf acc = xs at *
                    generalize hal : acc.length = len at *
                    have hi := HII.out
                    have hz0 := HZ0.out
                    have hz1 := HZ1.out
                    have hz2 := HZ2.out
                    have HPC : Hid ((p : Int) + (k : Int) = ((p + k : Nat) : Int)) := by show _ = _; omega
                    go_wp2_with (at_builtin; refine wpList_append_own _ rfl _ _ 22 rfl w.heap.size 35 i0 _ 4 40 Try.underlying22 hi hz0 hz1 hz2 rfl (by decide) _ _ _ rfl ((HW2.out.alloc _).alloc _) ⟨w2.heap.size + 1, 0, none⟩ 1 1 [.int .i64 t.kind, .int .i64 ((p : Int) + (k : Int)), .string (bs t.text), .int .u64 t.bits] rfl rfl ?c1 ?c2 ?c3 ?c4 ?c5 ?_)
                    case c1 =>
                      exact tok_new1 _ _ _ _ _ _
                    case c2 => exact tok_ones _ _ _ _
                    case c3 => unfold maxLen; omega
                    case c4 => omega
                    case c5 => simp; omega
                    intro v' w3 hown' hgrow _
                    have hbel : Below w.heap.size w2 w3 := (((Below.refl _ w2).alloc hsz2 _).alloc (by simp; omega) _).grown hgrow (by simp; omega) (fun k hk => (HW2.out.lt k hk).1)
                    rw [HPC.out, ← HLN.out, ← HCN.out] at hown'
                    have HW3 := Lib.hid hown'
                    have HB3 := Lib.hid (HB2.out.trans hbel)
                    clear hown' hgrow hbel hi hz0 hz1 hz2
                    go_wp2_with fail
                    go_roundg (s.size - (p + k + n))
                    case measure => omega
                    case rel =>
                      have hl2 := HLN.out
                      exact ⟨p + k + n, op - 1, acc2, rfl, by go_num, by go_num, by omega, by omega, by omega, by omega, HW3.out, HB3.out, HG2.out⟩
                  · have HG2 : Hid (G = pre (acc ++ [{ t with pos := ((p + k : Nat) : Int) }]) (lexA (s.data.toList.drop (p + k + n)) ((p + k + n : Nat) : Int) (op))) := by
                      show _ = _; rw [HG.out, LA.out, if_neg (by unfold tooDeep opens; rw [q5, DQ.out]; simp), show opA t op = op from by unfold opA opens shuts; rw [q5, DQ.out]; show max (op - 1) 0 = _; omega, pre_cons]
                    clear LA HG
                    have HCN : Hid (cellsOf (acc ++ [{ t with pos := ((p + k : Nat) : Int) }]) = cellsOf acc ++ [.int .i64 t.kind, .int .i64 ((p + k : Nat) : Int), .string (bs t.text), .int .u64 t.bits]) := cellsOf_snoc _ _
                    have HLN : Hid ((acc ++ [{ t with pos := ((p + k : Nat) : Int) }]).length = acc.length + 1) := by show _ = _; simp
                    generalize acc ++ [{ t with pos := ((p + k : Nat) : Int) }] = acc2 at *
                    generalize hcl : cellsOf acc = xs at *
                    generalize hal : acc.length = len at *
                    have hi := HII.out
                    have hz0 := HZ0.out
                    have hz1 := HZ1.out
                    have hz2 := HZ2.out
                    have HPC : Hid ((p : Int) + (k : Int) = ((p + k : Nat) : Int)) := by show _ = _; omega
                    go_wp2_with (at_builtin; refine wpList_append_own _ rfl _ _ 22 rfl w.heap.size 35 i0 _ 4 40 Try.underlying22 hi hz0 hz1 hz2 rfl (by decide) _ _ _ rfl ((HW2.out.alloc _).alloc _) ⟨w2.heap.size + 1, 0, none⟩ 1 1 [.int .i64 t.kind, .int .i64 ((p : Int) + (k : Int)), .string (bs t.text), .int .u64 t.bits] rfl rfl ?c1 ?c2 ?c3 ?c4 ?c5 ?_)
                    case c1 =>
                      exact tok_new1 _ _ _ _ _ _
                    case c2 => exact tok_ones _ _ _ _
                    case c3 => unfold maxLen; omega
                    case c4 => omega
                    case c5 => simp; omega
                    intro v' w3 hown' hgrow _
                    have hbel : Below w.heap.size w2 w3 := (((Below.refl _ w2).alloc hsz2 _).alloc (by simp; omega) _).grown hgrow (by simp; omega) (fun k hk => (HW2.out.lt k hk).1)
                    rw [HPC.out, ← HLN.out, ← HCN.out] at hown'
                    have HW3 := Lib.hid hown'
                    have HB3 := Lib.hid (HB2.out.trans hbel)
                    clear hown' hgrow hbel hi hz0 hz1 hz2
                    go_wp2_with fail
                    go_roundg (s.size - (p + k + n))
                    case measure => omega
                    case rel =>
                      have hl2 := HLN.out
                      exact ⟨p + k + n, op, acc2, rfl, by go_num, by go_num, by omega, by omega, by omega, by omega, HW3.out, HB3.out, HG2.out⟩
                by_cases e41 : t.text = [41]
                · have q123 : ((bs t.text).toList == [123]) = false := tex_false (by rw [e41]; decide)
                  have q40 : ((bs t.text).toList == [40]) = false := tex_false (by rw [e41]; decide)
                  have q91 : ((bs t.text).toList == [91]) = false := tex_false (by rw [e41]; decide)
                  have q125 : ((bs t.text).toList == [125]) = false := tex_false (by rw [e41]; decide)
                  have q41 : ((bs t.text).toList == [41]) = true := tex_true e41
                  have q93 : ((bs t.text).toList == [93]) = false := tex_false (by rw [e41]; decide)
                  have DQ : Hid (t.text = [41]) := e41
                  clear e123 e40 e91 e125 e41
                  by_cases hop : 0 < op
                  · have HG2 : Hid (G = pre (acc ++ [{ t with pos := ((p + k : Nat) : Int) }]) (lexA (s.data.toList.drop (p + k + n)) ((p + k + n : Nat) : Int) (op - 1))) := by
                      show _ = _; rw [HG.out, LA.out, if_neg (by unfold tooDeep opens; rw [q5, DQ.out]; simp), show opA t op = op - 1 from by unfold opA opens shuts; rw [q5, DQ.out]; show max (op - 1) 0 = _; omega, pre_cons]
                    clear LA HG
                    have HCN : Hid (cellsOf (acc ++ [{ t with pos := ((p + k : Nat) : Int) }]) = cellsOf acc ++ [.int .i64 t.kind, .int .i64 ((p + k : Nat) : Int), .string (bs t.text), .int .u64 t.bits]) := cellsOf_snoc _ _
                    have HLN : Hid ((acc ++ [{ t with pos := ((p + k : Nat) : Int) }]).length = acc.length + 1) := by show _ = _; simp
                    generalize acc ++ [{ t with pos := ((p + k : Nat) : Int) }] = acc2 at *
                    generalize hcl : cellsOf acc = xs at *
                    generalize hal : acc.length = len at *
                    have hi := HII.out
                    have hz0 := HZ0.out
                    have hz1 := HZ1.out
                    have hz2 := HZ2.out
                    have HPC : Hid ((p : Int) + (k : Int) = ((p + k : Nat) : Int)) := by show _ = _; omega
                    go_wp2_with (at_builtin; refine wpList_append_own _ rfl _ _ 22 rfl w.heap.size 35 i0 _ 4 40 Try.underlying22 hi hz0 hz1 hz2 rfl (by decide) _ _ _ rfl ((HW2.out.alloc _).alloc _) ⟨w2.heap.size + 1, 0, none⟩ 1 1 [.int .i64 t.kind, .int .i64 ((p : Int) + (k : Int)), .string (bs t.text), .int .u64 t.bits] rfl rfl ?c1 ?c2 ?c3 ?c4 ?c5 ?_)
                    case c1 =>
                      exact tok_new1 _ _ _ _ _ _
                    case c2 => exact tok_ones _ _ _ _
                    case c3 => unfold maxLen; omega
                    case c4 => omega
                    case c5 => simp; omega
                    intro v' w3 hown' hgrow _
                    have hbel : Below w.heap.size w2 w3 := (((Below.refl _ w2).alloc hsz2 _).alloc (by simp; omega) _).grown hgrow (by simp; omega) (fun k hk => (HW2.out.lt k hk).1)
                    rw [HPC.out, ← HLN.out, ← HCN.out] at hown'
                    have HW3 := Lib.hid hown'
                    have HB3 := Lib.hid (HB2.out.trans hbel)
                    clear hown' hgrow hbel hi hz0 hz1 hz2
                    go_wp2_with fail
                    go_roundg (s.size - (p + k + n))
                    case measure => omega
                    case rel =>
                      have hl2 := HLN.out
                      exact ⟨p + k + n, op - 1, acc2, rfl, by go_num, by go_num, by omega, by omega, by omega, by omega, HW3.out, HB3.out, HG2.out⟩
                  · have HG2 : Hid (G = pre (acc ++ [{ t with pos := ((p + k : Nat) : Int) }]) (lexA (s.data.toList.drop (p + k + n)) ((p + k + n : Nat) : Int) (op))) := by
                      show _ = _; rw [HG.out, LA.out, if_neg (by unfold tooDeep opens; rw [q5, DQ.out]; simp), show opA t op = op from by unfold opA opens shuts; rw [q5, DQ.out]; show max (op - 1) 0 = _; omega, pre_cons]
                    clear LA HG
                    have HCN : Hid (cellsOf (acc ++ [{ t with pos := ((p + k : Nat) : Int) }]) = cellsOf acc ++ [.int .i64 t.kind, .int .i64 ((p + k : Nat) : Int), .string (bs t.text), .int .u64 t.bits]) := cellsOf_snoc _ _
                    have HLN : Hid ((acc ++ [{ t with pos := ((p + k : Nat) : Int) }]).length = acc.length + 1) := by show _ = _; simp
                    generalize acc ++ [{ t with pos := ((p + k : Nat) : Int) }] = acc2 at *
                    generalize hcl : cellsOf acc = xs at *
                    generalize hal : acc.length = len at *
                    have hi := HII.out
                    have hz0 := HZ0.out
                    have hz1 := HZ1.out
                    have hz2 := HZ2.out
                    have HPC : Hid ((p : Int) + (k : Int) = ((p + k : Nat) : Int)) := by show _ = _; omega
                    go_wp2_with (at_builtin; refine wpList_append_own _ rfl _ _ 22 rfl w.heap.size 35 i0 _ 4 40 Try.underlying22 hi hz0 hz1 hz2 rfl (by decide) _ _ _ rfl ((HW2.out.alloc _).alloc _) ⟨w2.heap.size + 1, 0, none⟩ 1 1 [.int .i64 t.kind, .int .i64 ((p : Int) + (k : Int)), .string (bs t.text), .int .u64 t.bits] rfl rfl ?c1 ?c2 ?c3 ?c4 ?c5 ?_)
                    case c1 =>
                      exact tok_new1 _ _ _ _ _ _
                    case c2 => exact tok_ones _ _ _ _
                    case c3 => unfold maxLen; omega
                    case c4 => omega
                    case c5 => simp; omega
                    intro v' w3 hown' hgrow _
                    have hbel : Below w.heap.size w2 w3 := (((Below.refl _ w2).alloc hsz2 _).alloc (by simp; omega) _).grown hgrow (by simp; omega) (fun k hk => (HW2.out.lt k hk).1)
                    rw [HPC.out, ← HLN.out, ← HCN.out] at hown'
                    have HW3 := Lib.hid hown'
                    have HB3 := Lib.hid (HB2.out.trans hbel)
                    clear hown' hgrow hbel hi hz0 hz1 hz2
                    go_wp2_with fail
                    go_roundg (s.size - (p + k + n))
                    case measure => omega
                    case rel =>
                      have hl2 := HLN.out
                      exact ⟨p + k + n, op, acc2, rfl, by go_num, by go_num, by omega, by omega, by omega, by omega, HW3.out, HB3.out, HG2.out⟩
                by_cases e93 : t.text = [93]
                · have q123 : ((bs t.text).toList == [123]) = false := tex_false (by rw [e93]; decide)
                  have q40 : ((bs t.text).toList == [40]) = false := tex_false (by rw [e93]; decide)
                  have q91 : ((bs t.text).toList == [91]) = false := tex_false (by rw [e93]; decide)
                  have q125 : ((bs t.text).toList == [125]) = false := tex_false (by rw [e93]; decide)
                  have q41 : ((bs t.text).toList == [41]) = false := tex_false (by rw [e93]; decide)
                  have q93 : ((bs t.text).toList == [93]) = true := tex_true e93
                  have DQ : Hid (t.text = [93]) := e93
                  clear e123 e40 e91 e125 e41 e93
                  by_cases hop : 0 < op
                  · have HG2 : Hid (G = pre (acc ++ [{ t with pos := ((p + k : Nat) : Int) }]) (lexA (s.data.toList.drop (p + k + n)) ((p + k + n : Nat) : Int) (op - 1))) := by
                      show _ = _; rw [HG.out, LA.out, if_neg (by unfold tooDeep opens; rw [q5, DQ.out]; simp), show opA t op = op - 1 from by unfold opA opens shuts; rw [q5, DQ.out]; show max (op - 1) 0 = _; omega, pre_cons]
                    clear LA HG
                    have HCN : Hid (cellsOf (acc ++ [{ t with pos := ((p + k : Nat) : Int) }]) = cellsOf acc ++ [.int .i64 t.kind, .int .i64 ((p + k : Nat) : Int), .string (bs t.text), .int .u64 t.bits]) := cellsOf_snoc _ _
                    have HLN : Hid ((acc ++ [{ t with pos := ((p + k : Nat) : Int) }]).length = acc.length + 1) := by show _ = _; simp
                    generalize acc ++ [{ t with pos := ((p + k : Nat) : Int) }] = acc2 at *
                    generalize hcl : cellsOf acc = xs at *
                    generalize hal : acc.length = len at *
                    have hi := HII.out
                    have hz0 := HZ0.out
                    have hz1 := HZ1.out
                    have hz2 := HZ2.out
                    have HPC : Hid ((p : Int) + (k : Int) = ((p + k : Nat) : Int)) := by show _ = _; omega
                    go_wp2_with (at_builtin; refine wpList_append_own _ rfl _ _ 22 rfl w.heap.size 35 i0 _ 4 40 Try.underlying22 hi hz0 hz1 hz2 rfl (by decide) _ _ _ rfl ((HW2.out.alloc _).alloc _) ⟨w2.heap.size + 1, 0, none⟩ 1 1 [.int .i64 t.kind, .int .i64 ((p : Int) + (k : Int)), .string (bs t.text), .int .u64 t.bits] rfl rfl ?c1 ?c2 ?c3 ?c4 ?c5 ?_)
                    case c1 =>
                      exact tok_new1 _ _ _ _ _ _
                    case c2 => exact tok_ones _ _ _ _
                    case c3 => unfold maxLen; omega
                    case c4 => omega
                    case c5 => simp; omega
                    intro v' w3 hown' hgrow _
                    have hbel : Below w.heap.size w2 w3 := (((Below.refl _ w2).alloc hsz2 _).alloc (by simp; omega) _).grown hgrow (by simp; omega) (fun k hk => (HW2.out.lt k hk).1)
                    rw [HPC.out, ← HLN.out, ← HCN.out] at hown'
                    have HW3 := Lib.hid hown'
                    have HB3 := Lib.hid (HB2.out.trans hbel)
                    clear hown' hgrow hbel hi hz0 hz1 hz2
                    go_wp2_with fail
                    go_roundg (s.size - (p + k + n))
                    case measure => omega
                    case rel =>
                      have hl2 := HLN.out
                      exact ⟨p + k + n, op - 1, acc2, rfl, by go_num, by go_num, by omega, by omega, by omega, by omega, HW3.out, HB3.out, HG2.out⟩
                  · have HG2 : Hid (G = pre (acc ++ [{ t with pos := ((p + k : Nat) : Int) }]) (lexA (s.data.toList.drop (p + k + n)) ((p + k + n : Nat) : Int) (op))) := by
                      show _ = _; rw [HG.out, LA.out, if_neg (by unfold tooDeep opens; rw [q5, DQ.out]; simp), show opA t op = op from by unfold opA opens shuts; rw [q5, DQ.out]; show max (op - 1) 0 = _; omega, pre_cons]
                    clear LA HG
                    have HCN : Hid (cellsOf (acc ++ [{ t with pos := ((p + k : Nat) : Int) }]) = cellsOf acc ++ [.int .i64 t.kind, .int .i64 ((p + k : Nat) : Int), .string (bs t.text), .int .u64 t.bits]) := cellsOf_snoc _ _
                    have HLN : Hid ((acc ++ [{ t with pos := ((p + k : Nat) : Int) }]).length = acc.length + 1) := by show _ = _; simp
                    generalize acc ++ [{ t with pos := ((p + k : Nat) : Int) }] = acc2 at *
                    generalize hcl : cellsOf acc = xs at *
                    generalize hal : acc.length = len at *
                    have hi := HII.out
                    have hz0 := HZ0.out
                    have hz1 := HZ1.out
                    have hz2 := HZ2.out
                    have HPC : Hid ((p : Int) + (k : Int) = ((p + k : Nat) : Int)) := by show _ = _; omega
                    go_wp2_with (at_builtin; refine wpList_append_own _ rfl _ _ 22 rfl w.heap.size 35 i0 _ 4 40 Try.underlying22 hi hz0 hz1 hz2 rfl (by decide) _ _ _ rfl ((HW2.out.alloc _).alloc _) ⟨w2.heap.size + 1, 0, none⟩ 1 1 [.int .i64 t.kind, .int .i64 ((p : Int) + (k : Int)), .string (bs t.text), .int .u64 t.bits] rfl rfl ?c1 ?c2 ?c3 ?c4 ?c5 ?_)
                    case c1 =>
                      exact tok_new1 _ _ _ _ _ _
                    case c2 => exact tok_ones _ _ _ _
                    case c3 => unfold maxLen; omega
                    case c4 => omega
                    case c5 => simp; omega
                    intro v' w3 hown' hgrow _
                    have hbel : Below w.heap.size w2 w3 := (((Below.refl _ w2).alloc hsz2 _).alloc (by simp; omega) _).grown hgrow (by simp; omega) (fun k hk => (HW2.out.lt k hk).1)
                    rw [HPC.out, ← HLN.out, ← HCN.out] at hown'
                    have HW3 := Lib.hid hown'
                    have HB3 := Lib.hid (HB2.out.trans hbel)
                    clear hown' hgrow hbel hi hz0 hz1 hz2
                    go_wp2_with fail
                    go_roundg (s.size - (p + k + n))
                    case measure => omega
                    case rel =>
                      have hl2 := HLN.out
                      exact ⟨p + k + n, op, acc2, rfl, by go_num, by go_num, by omega, by omega, by omega, by omega, HW3.out, HB3.out, HG2.out⟩
                have q123 : ((bs t.text).toList == [123]) = false := tex_false e123
                have q40 : ((bs t.text).toList == [40]) = false := tex_false e40
                have q91 : ((bs t.text).toList == [91]) = false := tex_false e91
                have q125 : ((bs t.text).toList == [125]) = false := tex_false e125
                have q41 : ((bs t.text).toList == [41]) = false := tex_false e41
                have q93 : ((bs t.text).toList == [93]) = false := tex_false e93
                have p123 : (t.text == [123]) = false := by rw [beq_eq_false_iff_ne]; exact e123
                have p40 : (t.text == [40]) = false := by rw [beq_eq_false_iff_ne]; exact e40
                have p91 : (t.text == [91]) = false := by rw [beq_eq_false_iff_ne]; exact e91
                have p125 : (t.text == [125]) = false := by rw [beq_eq_false_iff_ne]; exact e125
                have p41 : (t.text == [41]) = false := by rw [beq_eq_false_iff_ne]; exact e41
                have p93 : (t.text == [93]) = false := by rw [beq_eq_false_iff_ne]; exact e93
                clear e123 e40 e91 e125 e41 e93
                have HG2 : Hid (G = pre (acc ++ [{ t with pos := ((p + k : Nat) : Int) }]) (lexA (s.data.toList.drop (p + k + n)) ((p + k + n : Nat) : Int) (op))) := by
                  show _ = _; rw [HG.out, LA.out, if_neg (by unfold tooDeep opens; rw [p123, p40, p91]; simp), show opA t op = op from by unfold opA opens shuts; rw [p123, p40, p91, p125, p41, p93]; simp, pre_cons]
                clear LA HG
                have HCN : Hid (cellsOf (acc ++ [{ t with pos := ((p + k : Nat) : Int) }]) = cellsOf acc ++ [.int .i64 t.kind, .int .i64 ((p + k : Nat) : Int), .string (bs t.text), .int .u64 t.bits]) := cellsOf_snoc _ _
                have HLN : Hid ((acc ++ [{ t with pos := ((p + k : Nat) : Int) }]).length = acc.length + 1) := by show _ = _; simp
                generalize acc ++ [{ t with pos := ((p + k : Nat) : Int) }] = acc2 at *
                generalize hcl : cellsOf acc = xs at *
                generalize hal : acc.length = len at *
                have hi := HII.out
                have hz0 := HZ0.out
                have hz1 := HZ1.out
                have hz2 := HZ2.out
                have HPC : Hid ((p : Int) + (k : Int) = ((p + k : Nat) : Int)) := by show _ = _; omega
                go_wp2_with (at_builtin; refine wpList_append_own _ rfl _ _ 22 rfl w.heap.size 35 i0 _ 4 40 Try.underlying22 hi hz0 hz1 hz2 rfl (by decide) _ _ _ rfl ((HW2.out.alloc _).alloc _) ⟨w2.heap.size + 1, 0, none⟩ 1 1 [.int .i64 t.kind, .int .i64 ((p : Int) + (k : Int)), .string (bs t.text), .int .u64 t.bits] rfl rfl ?c1 ?c2 ?c3 ?c4 ?c5 ?_)
                case c1 =>
                  exact tok_new1 _ _ _ _ _ _
                case c2 => exact tok_ones _ _ _ _
                case c3 => unfold maxLen; omega
                case c4 => omega
                case c5 => simp; omega
                intro v' w3 hown' hgrow _
                have hbel : Below w.heap.size w2 w3 := (((Below.refl _ w2).alloc hsz2 _).alloc (by simp; omega) _).grown hgrow (by simp; omega) (fun k hk => (HW2.out.lt k hk).1)
                rw [HPC.out, ← HLN.out, ← HCN.out] at hown'
                have HW3 := Lib.hid hown'
                have HB3 := Lib.hid (HB2.out.trans hbel)
                clear hown' hgrow hbel hi hz0 hz1 hz2
                go_wp2_with fail
                go_roundg (s.size - (p + k + n))
                case measure => omega
                case rel =>
                  have hl2 := HLN.out
                  exact ⟨p + k + n, op, acc2, rfl, by go_num, by go_num, by omega, by omega, by omega, by omega, HW3.out, HB3.out, HG2.out⟩
              · have q5 : (t.kind == 5) = false := by rw [beq_eq_false_iff_ne]; exact k5
                clear k5
                have HG2 : Hid (G = pre (acc ++ [{ t with pos := ((p + k : Nat) : Int) }]) (lexA (s.data.toList.drop (p + k + n)) ((p + k + n : Nat) : Int) (op))) := by
                  show _ = _; rw [HG.out, LA.out, if_neg (by unfold tooDeep opens; rw [q5]; simp), show opA t op = op from by unfold opA opens shuts; rw [q5]; rfl, pre_cons]
                clear LA HG
                have HCN : Hid (cellsOf (acc ++ [{ t with pos := ((p + k : Nat) : Int) }]) = cellsOf acc ++ [.int .i64 t.kind, .int .i64 ((p + k : Nat) : Int), .string (bs t.text), .int .u64 t.bits]) := cellsOf_snoc _ _
                have HLN : Hid ((acc ++ [{ t with pos := ((p + k : Nat) : Int) }]).length = acc.length + 1) := by show _ = _; simp
                generalize acc ++ [{ t with pos := ((p + k : Nat) : Int) }] = acc2 at *
                generalize hcl : cellsOf acc = xs at *
                generalize hal : acc.length = len at *
                have hi := HII.out
                have hz0 := HZ0.out
                have hz1 := HZ1.out
                have hz2 := HZ2.out
                have HPC : Hid ((p : Int) + (k : Int) = ((p + k : Nat) : Int)) := by show _ = _; omega
                go_wp2_with (at_builtin; refine wpList_append_own _ rfl _ _ 22 rfl w.heap.size 35 i0 _ 4 40 Try.underlying22 hi hz0 hz1 hz2 rfl (by decide) _ _ _ rfl ((HW2.out.alloc _).alloc _) ⟨w2.heap.size + 1, 0, none⟩ 1 1 [.int .i64 t.kind, .int .i64 ((p : Int) + (k : Int)), .string (bs t.text), .int .u64 t.bits] rfl rfl ?c1 ?c2 ?c3 ?c4 ?c5 ?_)
                case c1 =>
                  exact tok_new1 _ _ _ _ _ _
                case c2 => exact tok_ones _ _ _ _
                case c3 => unfold maxLen; omega
                case c4 => omega
                case c5 => simp; omega
                intro v' w3 hown' hgrow _
                have hbel : Below w.heap.size w2 w3 := (((Below.refl _ w2).alloc hsz2 _).alloc (by simp; omega) _).grown hgrow (by simp; omega) (fun k hk => (HW2.out.lt k hk).1)
                rw [HPC.out, ← HLN.out, ← HCN.out] at hown'
                have HW3 := Lib.hid hown'
                have HB3 := Lib.hid (HB2.out.trans hbel)
                clear hown' hgrow hbel hi hz0 hz1 hz2
                go_wp2_with fail
                go_roundg (s.size - (p + k + n))
                case measure => omega
                case rel =>
                  have hl2 := HLN.out
                  exact ⟨p + k + n, op, acc2, rfl, by go_num, by go_num, by omega, by omega, by omega, by omega, HW3.out, HB3.out, HG2.out⟩
    · have hce : ce = 4 := HCE.out
      have hca : ca = (k : Int) := HCA.out
      subst hce hca
      have E : Hid (G = .error ((k : Int), 4)) := HL2.out
      go_enter Try.func9, Try.ntmps9
      go_wp2_with fail
      refine (CK.out _).mono ?_; rintro e w1 ⟨rfl, hB⟩
      go_wp2_with fail
      go_ret3
      exact fp_err E.out rfl hB
end Go.Proofs.Ytcpjggcpimghjaa
