/- The smallest steps of the reader of trees. -/
import Derived.Test.YtnkfodelgpidkaaGreatDoorHp
namespace Go.Proofs.YtnkfodelgpidkaaGreatDoor
open Go.RowKit
set_option linter.unusedVariables false

def Cx.R (c : Cx) (k : Nat) : List Tk := c.ts.drop k
theorem R_hd (c : Cx) (k : Nat) : hd c.E (c.R k) = c.T k := rfl
theorem R_tail (c : Cx) (k : Nat) : (c.R k).tail = c.R (k + 1) := tail_drop _ _
theorem isF_T (c : Cx) (s : List UInt8) (k : Nat) : isF c.E s (c.R k) = (fx (c.T k) == s) := rfl
/-- What the reader gives up with. -/
def sflt (p : Int) : Ending := .panicked [{ v := .iface 56 (.agg #[.int .i64 p]), recovered := false }]

theorem str_eq (x : List UInt8) (s : ByteArray) : ((bs x).toList == s.toList) = (x == s.data.toList) := by rw [Lib.toList_data, Lib.toList_data]; rfl

set_option maxRecDepth 100000 in
set_option maxHeartbeats 1000000 in
theorem is_any (c : Cx) (k : Nat) (s : ByteArray) (w : World) (h : In c w k) :
    Calls Tryz.prog 142 #[.pointer (some ⟨c.b, 0, none⟩), .string s] w fun e w' => e = .returned (.bool (isF c.E s.data.toList (c.R k))) ∧ Below w.heap.size w w' := by
  have T := Lib.hid (fixed_any c k w h)
  rw [isF_T, ← str_eq]
  generalize bs (fx (c.T k)) = x at *
  go_enter Tryz.func142, Tryz.ntmps142
  go_wp2_with fail
  refine T.out.mono ?_; rintro e w1 ⟨rfl, hB1⟩
  go_wp2_with fail
  go_ret
  exact ⟨rfl, hB1⟩

/-- A step of the reader: the reader's block alone, of what was there, has turned. -/
def Go1 (c : Cx) (w w' : World) (k : Nat) : Prop := In c w' k ∧ Off c.b w w'
theorem isF_in {c : Cx} {k : Nat} {s : List UInt8} (hk : k ≤ c.ts.length) (hs : s ≠ []) (h : isF c.E s (c.R k) = true) : k < c.ts.length := by
  refine fx_in hk ?_
  rw [isF_T, beq_iff_eq] at h
  rw [h]; exact hs

set_option maxRecDepth 100000 in
set_option maxHeartbeats 1000000 in
theorem skip_yes (c : Cx) (k : Nat) (s : ByteArray) (hs : s.data.toList ≠ []) (w : World) (h : In c w k) (hq : isF c.E s.data.toList (c.R k) = true) :
    Calls Tryz.prog 86 #[.pointer (some ⟨c.b, 0, none⟩), .string s] w fun e w' => e = .returned (.bool true) ∧ Go1 c w w' (k + 1) := by
  have T := Lib.hid (is_any c k s w h)
  have hk := isF_in h.le hs hq
  have hf := h.ok.few
  rw [hq] at T
  have H := Lib.hid h
  clear h hq
  go_enter Tryz.func86, Tryz.ntmps86
  go_wp2_with fail
  refine T.out.mono ?_; rintro e w1 ⟨rfl, hB1⟩
  have H1 := Lib.hid (H.out.below hB1)
  have HO := Lib.hid ((Off.refl c.b w).below hB1)
  have c1 := H1.out.c1
  have f1 := H1.out.fz 1
  clear hB1
  go_wp2_with fail
  go_ret
  exact ⟨rfl, H1.out.next (j := k + 1) (by omega), HO.out.set 1 _⟩

set_option maxRecDepth 100000 in
set_option maxHeartbeats 1000000 in
theorem skip_no (c : Cx) (k : Nat) (s : ByteArray) (w : World) (h : In c w k) (hq : isF c.E s.data.toList (c.R k) = false) :
    Calls Tryz.prog 86 #[.pointer (some ⟨c.b, 0, none⟩), .string s] w fun e w' => e = .returned (.bool false) ∧ Below w.heap.size w w' := by
  have T := Lib.hid (is_any c k s w h)
  rw [hq] at T
  clear h hq
  go_enter Tryz.func86, Tryz.ntmps86
  go_wp2_with fail
  refine T.out.mono ?_; rintro e w1 ⟨rfl, hB1⟩
  go_wp2_with fail
  go_ret
  exact ⟨rfl, hB1⟩

set_option maxRecDepth 100000 in
set_option maxHeartbeats 1000000 in
theorem sgiveUp_any (c : Cx) (k : Nat) (w : World) (h : In c w k) :
    Calls Tryz.prog 148 #[.pointer (some ⟨c.b, 0, none⟩)] w fun e w' => e = sflt (c.T k).pos ∧ Below w.heap.size w w' := by
  have T := Lib.hid (stoken_any c k w h)
  unfold tkW at T
  generalize c.T k = t at *
  obtain ⟨tk, tp, tx, tb⟩ := t
  have hfl : ∀ w, (Instr.field 42 (.agg #[.int .i64 tk, .int .i64 tp, .string (bs tx), .int .u64 tb]) 1).run Tryz.prog w = .ok (.int .i64 tp) w := fun _ => rfl
  go_enter Tryz.func148, Tryz.ntmps148
  go_wp2_with fail
  refine T.out.mono ?_; rintro e w1 ⟨rfl, hB1⟩
  go_wp2_with fail
  exact bodyPost_panic rfl ⟨rfl, hB1⟩

set_option maxRecDepth 100000 in
set_option maxHeartbeats 1000000 in
theorem need_yes (c : Cx) (k : Nat) (s : ByteArray) (hs : s.data.toList ≠ []) (w : World) (h : In c w k) (hq : isF c.E s.data.toList (c.R k) = true) :
    Calls Tryz.prog 143 #[.pointer (some ⟨c.b, 0, none⟩), .string s] w fun e w' => e = .returned (.tuple #[]) ∧ Go1 c w w' (k + 1) := by
  have T := Lib.hid (skip_yes c k s hs w h hq)
  clear h hq
  go_enter Tryz.func143, Tryz.ntmps143
  go_wp2_with fail
  refine T.out.mono ?_; rintro e w1 ⟨rfl, hG⟩
  go_wp2_with fail
  go_end0
  exact ⟨rfl, hG⟩

set_option maxRecDepth 100000 in
set_option maxHeartbeats 1000000 in
theorem need_no (c : Cx) (k : Nat) (s : ByteArray) (w : World) (h : In c w k) (hq : isF c.E s.data.toList (c.R k) = false) :
    Calls Tryz.prog 143 #[.pointer (some ⟨c.b, 0, none⟩), .string s] w fun e w' => e = sflt (c.T k).pos ∧ Below w.heap.size w w' := by
  have T := Lib.hid (skip_no c k s w h hq)
  have G := Lib.hid (fun w1 (hb : Below w.heap.size w w1) => sgiveUp_any c k w1 (h.below hb))
  unfold sflt at G ⊢
  clear h hq
  go_enter Tryz.func143, Tryz.ntmps143
  go_wp2_with fail
  refine T.out.mono ?_; rintro e w1 ⟨rfl, hB1⟩
  go_wp2_with fail
  refine (G.out _ hB1).mono ?_; rintro e w2 ⟨rfl, hB2⟩
  go_wp2_with fail
  exact bodyPost_panic rfl ⟨rfl, below_trans hB1 hB2 hB1.size⟩

set_option maxRecDepth 100000 in
set_option maxHeartbeats 1000000 in
theorem sname_yes (c : Cx) (k : Nat) (w : World) (h : In c w k) (hq : (c.T k).kind = 1) :
    Calls Tryz.prog 88 #[.pointer (some ⟨c.b, 0, none⟩)] w fun e w' => e = .returned (.string (bs (c.T k).text)) ∧ Go1 c w w' (k + 1) := by
  have T := Lib.hid (stoken_any c k w h)
  have hk := kind_in h.le (by rw [hq]; decide)
  have hf := h.ok.few
  have H := Lib.hid h
  unfold tkW at T
  generalize c.T k = t at *
  obtain ⟨tk, tp, tx, tb⟩ := t
  simp only at hq
  subst hq
  clear h
  go_enter Tryz.func88, Tryz.ntmps88
  go_wp2_with fail
  refine T.out.mono ?_; rintro e w1 ⟨rfl, hB1⟩
  have hba := hB1.alloc hB1.size (.cells #[.int .i64 1, .int .i64 tp, .string (bs tx), .int .u64 tb] 42)
  have H1 := Lib.hid (H.out.below hba)
  have HO := Lib.hid ((Off.refl c.b w).below hba)
  have c1 := H1.out.c1
  have f1 := H1.out.fz 1
  clear hba
  go_wp2_with fail
  go_ret
  exact ⟨rfl, H1.out.next (j := k + 1) (by omega), HO.out.set 1 _⟩

set_option maxRecDepth 100000 in
set_option maxHeartbeats 1000000 in
theorem sname_no (c : Cx) (k : Nat) (w : World) (h : In c w k) (hq : ¬ (c.T k).kind = 1) :
    Calls Tryz.prog 88 #[.pointer (some ⟨c.b, 0, none⟩)] w fun e w' => e = sflt (c.T k).pos ∧ Below w.heap.size w w' := by
  have T := Lib.hid (stoken_any c k w h)
  have G := Lib.hid (fun w1 (hb : Below w.heap.size w w1) => sgiveUp_any c k w1 (h.below hb))
  unfold tkW at T
  unfold sflt at G ⊢
  generalize c.T k = t at *
  obtain ⟨tk, tp, tx, tb⟩ := t
  have hk1 : (tk == 1) = false := by rw [beq_eq_false_iff_ne]; exact hq
  clear h hq
  go_enter Tryz.func88, Tryz.ntmps88
  go_wp2_with fail
  refine T.out.mono ?_; rintro e w1 ⟨rfl, hB1⟩
  have HBA := Lib.hid (hB1.alloc hB1.size (.cells #[.int .i64 tk, .int .i64 tp, .string (bs tx), .int .u64 tb] 42))
  clear hB1
  go_wp2_with fail
  refine (G.out _ HBA.out).mono ?_; rintro e w2 ⟨rfl, hB2⟩
  go_wp2_with fail
  exact bodyPost_panic rfl ⟨rfl, below_trans HBA.out hB2 HBA.out.size⟩

set_option maxRecDepth 100000 in
set_option maxHeartbeats 1000000 in
theorem skey_yes (c : Cx) (k : Nat) (w : World) (h : In c w k) (hq : (c.T k).kind = 1 ∨ (c.T k).kind = 2) :
    Calls Tryz.prog 258 #[.pointer (some ⟨c.b, 0, none⟩)] w fun e w' => e = .returned (.string (bs (c.T k).text)) ∧ Go1 c w w' (k + 1) := by
  have T := Lib.hid (stoken_any c k w h)
  have hk := kind_in h.le (by omega)
  have hf := h.ok.few
  have H := Lib.hid h
  unfold tkW at T
  generalize c.T k = t at *
  obtain ⟨tk, tp, tx, tb⟩ := t
  simp only at hq
  clear h
  rcases hq with rfl | rfl
  · go_enter Tryz.func258, Tryz.ntmps258
    go_wp2_with fail
    refine T.out.mono ?_; rintro e w1 ⟨rfl, hB1⟩
    have hba := hB1.alloc hB1.size (.cells #[.int .i64 1, .int .i64 tp, .string (bs tx), .int .u64 tb] 42)
    have H1 := Lib.hid (H.out.below hba)
    have HO := Lib.hid ((Off.refl c.b w).below hba)
    have c1 := H1.out.c1
    have f1 := H1.out.fz 1
    clear hba
    go_wp2_with fail
    go_ret
    exact ⟨rfl, H1.out.next (j := k + 1) (by omega), HO.out.set 1 _⟩
  · go_enter Tryz.func258, Tryz.ntmps258
    go_wp2_with fail
    refine T.out.mono ?_; rintro e w1 ⟨rfl, hB1⟩
    have hba := hB1.alloc hB1.size (.cells #[.int .i64 2, .int .i64 tp, .string (bs tx), .int .u64 tb] 42)
    have H1 := Lib.hid (H.out.below hba)
    have HO := Lib.hid ((Off.refl c.b w).below hba)
    have c1 := H1.out.c1
    have f1 := H1.out.fz 1
    clear hba
    go_wp2_with fail
    go_ret
    exact ⟨rfl, H1.out.next (j := k + 1) (by omega), HO.out.set 1 _⟩
end Go.Proofs.YtnkfodelgpidkaaGreatDoor
