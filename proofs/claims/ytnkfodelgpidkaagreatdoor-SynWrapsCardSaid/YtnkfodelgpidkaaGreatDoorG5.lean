/- Leaves, words that are nodes, a name that may lack: by the reader of trees. -/
import Derived.Test.YtnkfodelgpidkaaGreatDoorG4
namespace Go.Proofs.YtnkfodelgpidkaaGreatDoor
open Go.RowKit
set_option linter.unusedVariables false

set_option maxRecDepth 100000 in
set_option maxHeartbeats 1000000 in
theorem leaf_any (c : Cx) (k : Nat) (kind : Int) (w : World) (h : In c w k) (hk : k < c.ts.length) :
    Calls Tryz.prog 260 #[.pointer (some ⟨c.b, 0, none⟩), .int .i64 kind] w fun e w' => ∃ a, e = .returned (.pointer (some ⟨a, 0, none⟩)) ∧ Go1 c w w' (k + 1) ∧ IsT w' (F w.heap.size w'.heap.size) (.pointer (some ⟨a, 0, none⟩)) (.node kind (c.T k).text (c.T k).bits []) := by
  have hbl := h.lt
  have hfew := h.ok.few
  have G0 : Hid (Go1 c w w k) := ⟨h, Off.refl _ _⟩
  clear h
  go_enter Tryz.func260, Tryz.ntmps260
  go_wp2_with fail
  refine (stoken_agg c k _ G0.out.1).mono ?_; rintro e w3 ⟨rfl, hB⟩
  have hB2 := hB.alloc hB.size (.cells #[.int .i64 (c.T k).kind, .int .i64 (c.T k).pos, .string (bs (c.T k).text), .int .u64 (c.T k).bits] 42)
  have G4 : Hid (Go1 c w (w3.alloc (.cells #[.int .i64 (c.T k).kind, .int .i64 (c.T k).pos, .string (bs (c.T k).text), .int .u64 (c.T k).bits] 42)) k) := ⟨G0.out.1.below hB2, G0.out.2.below hB2⟩
  have B3 : Hid (B4 (w3.alloc (.cells #[.int .i64 (c.T k).kind, .int .i64 (c.T k).pos, .string (bs (c.T k).text), .int .u64 (c.T k).bits] 42)) w3.heap.size (.int .i64 (c.T k).kind) (.int .i64 (c.T k).pos) (.string (bs (c.T k).text)) (.int .u64 (c.T k).bits)) := B4.new w3 _ _ _ _
  have lb3 : c.b < w3.heap.size := Nat.lt_of_lt_of_le G0.out.1.lt hB.size
  have hI3 := Lib.hid (G0.out.1.below hB)
  have hO3 := Lib.hid (G0.out.2.below hB)
  have hz3 := Lib.hid hB.size
  clear hB hB2
  have ac1 := G4.out.1.c1
  have af1 := G4.out.1.fz 1
  go_wp2_with fail
  go_ret
  have i1 := hI3.out.next (j := k + 1) (by omega)
  have hz := hz3.out
  have o1 := hO3.out.set 1 (.int .i64 ((k : Int) + 1))
  have e1 : (w3.setCell ⟨c.b, 1, none⟩ (.int .i64 (((k + 1 : Nat) : Int)))) = (w3.setCell ⟨c.b, 1, none⟩ (.int .i64 ((k : Int) + 1))) := rfl
  rw [e1] at i1
  have hzX : (w3.setCell ⟨c.b, 1, none⟩ (.int .i64 ((k : Int) + 1))).heap.size = w3.heap.size := by simp [World.setCell]
  generalize w3.setCell ⟨c.b, 1, none⟩ (.int .i64 ((k : Int) + 1)) = X at *
  have b1 := (Below.refl X.heap.size X).alloc (Nat.le_refl _) (.cells #[.int .i64 (c.T k).kind, .int .i64 (c.T k).pos, .string (bs (c.T k).text), .int .u64 (c.T k).bits] 42)
  have b2 := b1.alloc b1.size (.cells #[.int .i64 kind, .string (bs (c.T k).text), .int .u64 (c.T k).bits, .slice none 0 0] 89)
  have hn := heap_alloc_new (X.alloc (.cells #[.int .i64 (c.T k).kind, .int .i64 (c.T k).pos, .string (bs (c.T k).text), .int .u64 (c.T k).bits] 42)) (.cells #[.int .i64 kind, .string (bs (c.T k).text), .int .u64 (c.T k).bits, .slice none 0 0] 89)
  have hz2 : (X.alloc (.cells #[.int .i64 (c.T k).kind, .int .i64 (c.T k).pos, .string (bs (c.T k).text), .int .u64 (c.T k).bits] 42)).heap.size = w3.heap.size + 1 := by simp [hzX]
  rw [hz2] at hn
  exact ⟨_, rfl, ⟨i1.below b2, o1.below b2⟩, isT_made ⟨by omega, lt_of_get hn⟩ hn (.inl ⟨rfl, none, 0, rfl⟩) (IsTs.nil _ _)⟩

set_option maxRecDepth 100000 in
set_option maxHeartbeats 1000000 in
theorem const_any (c : Cx) (k : Nat) (kind : Int) (w : World) (h : In c w k) (hk : k < c.ts.length) :
    Calls Tryz.prog 262 #[.pointer (some ⟨c.b, 0, none⟩), .int .i64 kind] w fun e w' => ∃ a, e = .returned (.pointer (some ⟨a, 0, none⟩)) ∧ Go1 c w w' (k + 1) ∧ IsT w' (F w.heap.size w'.heap.size) (.pointer (some ⟨a, 0, none⟩)) (nd kind [] []) := by
  have hfew := h.ok.few
  have c1 := h.c1
  have f1 := h.fz 1
  have hO := Lib.hid ((Off.refl c.b w).set 1 (.int .i64 ((k : Int) + 1)))
  have hI := Lib.hid (h.next (j := k + 1) (by omega))
  have hz := Lib.hid hO.out.size
  clear h
  go_enter Tryz.func262, Tryz.ntmps262
  go_wp2_with fail
  refine (newNode_any _ _ _ _ _ _).mono ?_; rintro e w2 hm
  obtain ⟨a, rfl, hT, hB⟩ := node_none (k := kind) (x := []) hz.out hm
  go_wp2_with fail
  go_ret
  exact ⟨_, rfl, ⟨hI.out.below hB, hO.out.below hB⟩, hT⟩

set_option maxRecDepth 100000 in
set_option maxHeartbeats 1000000 in
theorem optName_none (c : Cx) (k : Nat) (w : World) (h : In c w k) (hq : isF c.E [40] (c.R k) = true) :
    Calls Tryz.prog 264 #[.pointer (some ⟨c.b, 0, none⟩)] w fun e w' => e = .returned (.string (bs [])) ∧ Below w.heap.size w w' := by
  have T := Lib.hid (is_at c k ⟨#[40]⟩ w h hq)
  clear h hq
  go_enter Tryz.func264, Tryz.ntmps264
  go_wp2_with fail
  refine T.out.mono ?_; rintro e w1 ⟨rfl, hB⟩
  go_wp2_with fail
  go_ret
  exact ⟨rfl, hB⟩
set_option maxRecDepth 100000 in
set_option maxHeartbeats 1000000 in
theorem optName_some (c : Cx) (k : Nat) (w : World) (h : In c w k) (hq : isF c.E [40] (c.R k) = false) (hk : (c.T k).kind = 1) :
    Calls Tryz.prog 264 #[.pointer (some ⟨c.b, 0, none⟩)] w fun e w' => e = .returned (.string (bs (c.T k).text)) ∧ Go1 c w w' (k + 1) := by
  have T := Lib.hid (is_at c k ⟨#[40]⟩ w h hq)
  have N := Lib.hid (fun w1 (hb : Below w.heap.size w w1) => sname_yes c k w1 (h.below hb) hk)
  clear h hq
  go_enter Tryz.func264, Tryz.ntmps264
  go_wp2_with fail
  refine T.out.mono ?_; rintro e w1 ⟨rfl, hB⟩
  have HO := Lib.hid ((Off.refl c.b w).below hB)
  go_wp2_with fail
  refine (N.out _ hB).mono ?_; rintro e w2 ⟨rfl, hG⟩
  go_wp2_with fail
  go_ret
  exact ⟨rfl, hG.1, HO.out.trans hG.2⟩
set_option maxRecDepth 100000 in
set_option maxHeartbeats 1000000 in
theorem optName_no (c : Cx) (k : Nat) (w : World) (h : In c w k) (hq : isF c.E [40] (c.R k) = false) (hk : ¬ (c.T k).kind = 1) :
    Calls Tryz.prog 264 #[.pointer (some ⟨c.b, 0, none⟩)] w fun e w' => e = sflt (c.T k).pos ∧ Below w.heap.size w w' := by
  have T := Lib.hid (is_at c k ⟨#[40]⟩ w h hq)
  have N := Lib.hid (fun w1 (hb : Below w.heap.size w w1) => sname_no c k w1 (h.below hb) hk)
  unfold sflt at N ⊢
  clear h hq
  go_enter Tryz.func264, Tryz.ntmps264
  go_wp2_with fail
  refine T.out.mono ?_; rintro e w1 ⟨rfl, hB⟩
  go_wp2_with fail
  refine (N.out _ hB).mono ?_; rintro e w2 ⟨rfl, hB2⟩
  go_wp2_with fail
  exact bodyPost_panic rfl ⟨rfl, below_trans hB hB2 hB.size⟩
end Go.Proofs.YtnkfodelgpidkaaGreatDoor
