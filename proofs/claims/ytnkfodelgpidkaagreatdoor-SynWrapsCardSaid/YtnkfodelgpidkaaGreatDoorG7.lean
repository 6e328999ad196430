/- Signs ahead, behind and between, by the reader of trees. -/
import Derived.Test.YtnkfodelgpidkaaGreatDoorG6
namespace Go.Proofs.YtnkfodelgpidkaaGreatDoor
open Go.RowKit
set_option linter.unusedVariables false

theorem level_range (x : List UInt8) : 0 ≤ levelI x ∧ levelI x ≤ 10 := by
  unfold levelI
  cases h : levels.lookup x with
  | none => exact ⟨by decide, by decide⟩
  | some v =>
    have : ∀ (l : List (List UInt8 × Int)), l.lookup x = some v → ∃ p ∈ l, p.2 = v := by
      intro l
      induction l with
      | nil => intro h; cases h
      | cons q r ih =>
        intro h
        obtain ⟨a, b⟩ := q
        rw [List.lookup_cons] at h
        split at h
        · injection h with h; exact ⟨_, List.mem_cons_self, h⟩
        · obtain ⟨p, h1, h2⟩ := ih h; exact ⟨p, List.mem_cons_of_mem _ h1, h2⟩
    obtain ⟨p, h1, h2⟩ := this levels h
    have all : levels.all (fun p => decide (0 ≤ p.2 ∧ p.2 ≤ 10)) = true := by decide
    have := List.all_eq_true.1 all p h1
    simp only [decide_eq_true_eq] at this
    rw [h2] at this; exact this

/-- A node with all that is new about it: to be written to once more. -/
def Bare (lo : Nat) (w : World) (a : Nat) (k : Int) (x : List UInt8) (kids : List Tr) : Prop :=
  ∃ v vs S, lo ≤ a ∧ w.heap[a]? = some (.cells #[.int .i64 k, .string (bs x), .int .u64 0, v] 89 (0, 0)) ∧ PRow w S v vs ∧ IsTs w S vs kids ∧ (∀ i, S i → F lo w.heap.size i) ∧ ¬ S a
theorem node_parts {wN w5 : World} {lo : Nat} {vs : List Value} {kids : List Tr} {k : Int} {x : List UInt8} {e : Ending} (hk : IsTs wN (F lo wN.heap.size) vs kids) (hlo : lo ≤ wN.heap.size)
    (hm : Made (wN.alloc (.cells vs.toArray 59)) k (bs x) (.slice (some ⟨wN.heap.size, 0, none⟩) vs.length vs.length) e w5) :
    ∃ a, e = .returned (.pointer (some ⟨a, 0, none⟩)) ∧ Bare lo w5 a k x kids ∧ Below wN.heap.size wN w5 := by
  obtain ⟨a, rfl, ha, hh, hB⟩ := hm
  have h1 : Below wN.heap.size wN (wN.alloc (.cells vs.toArray 59)) := (Below.refl _ _).alloc (Nat.le_refl _) _
  have h2 := below_trans h1 hB h1.size
  have hz : (wN.alloc (.cells vs.toArray 59)).heap.size = wN.heap.size + 1 := by simp
  have ha5 := lt_of_get hh
  refine ⟨a, rfl, ⟨_, vs, fun i => lo ≤ i ∧ i ≤ wN.heap.size, by omega, hh, ?_, hk.keep (fun i hi => ⟨hi.1, Nat.le_of_lt hi.2⟩) fun i hi => h2.block i hi.2, fun i hi => ⟨hi.1, by have := hB.size; omega⟩, fun hi => by omega⟩, h2⟩
  exact .inr ⟨wN.heap.size, vs.length, ⟨hlo, Nat.le_refl _⟩, rfl, fun i hi => (hB.cell (p := ⟨wN.heap.size, i, none⟩) (by show wN.heap.size < _; omega)).trans (new_cells wN vs _ i hi)⟩
theorem Bare.c2 {lo : Nat} {w : World} {a : Nat} {k : Int} {x : List UInt8} {kids : List Tr} (h : Bare lo w a k x kids) : w.cell? ⟨a, 2, none⟩ = some (.int .u64 0) := by
  obtain ⟨v, vs, S, _, hh, _⟩ := h; simp [World.cell?, hh]
theorem Bare.fz {lo : Nat} {w : World} {a : Nat} {k : Int} {x : List UInt8} {kids : List Tr} (h : Bare lo w a k x kids) : w.frozen? ⟨a, 2, none⟩ = false := by
  obtain ⟨v, vs, S, _, hh, _⟩ := h; simp [World.frozen?, hh]
theorem Bare.lo {lo : Nat} {w : World} {a : Nat} {k : Int} {x : List UInt8} {kids : List Tr} (h : Bare lo w a k x kids) : lo ≤ a := by
  obtain ⟨v, vs, S, hl, _⟩ := h; exact hl
theorem Bare.bits {lo : Nat} {w : World} {a : Nat} {k : Int} {x : List UInt8} {kids : List Tr} (h : Bare lo w a k x kids) :
    IsT (w.setCell ⟨a, 2, none⟩ (.int .u64 1)) (F lo (w.setCell ⟨a, 2, none⟩ (.int .u64 1)).heap.size) (.pointer (some ⟨a, 0, none⟩)) (.node k x 1 kids) := by
  obtain ⟨v, vs, S, hl, hh, hr, hk, hS, hn⟩ := h
  have hz : (w.setCell ⟨a, 2, none⟩ (.int .u64 1)).heap.size = w.heap.size := by simp [World.setCell]
  have hw : ∀ i, S i → (w.setCell ⟨a, 2, none⟩ (.int .u64 1)).heap[i]? = w.heap[i]? := fun i hi => Below.heap_setCell w _ _ i (fun e => hn (by have e' : i = a := e; rw [← e']; exact hi))
  rw [hz]
  refine isT_made ⟨hl, lt_of_get hh⟩ (v := v) ?_ (hr.keep hS hw) (hk.keep hS hw)
  simp [World.setCell, Array.getElem?_modify, hh]
theorem Go1.set {c : Cx} {w w' : World} {k : Nat} (h : Go1 c w w' k) {p : Addr} (hp : w.heap.size ≤ p.block) (hg : c.g < w.heap.size) (hb : c.b < w.heap.size) (h0 : c.w0.heap.size ≤ w.heap.size) (u : Value) : Go1 c w (w'.setCell p u) k :=
  ⟨⟨(Below.heap_setCell w' p u c.b (by omega)).trans h.1.rd, (Below.heap_setCell w' p u c.g (by omega)).trans h.1.row, h.1.le, h.1.ok, h.1.base.setCell (by omega) u⟩, h.2.newSet hp u⟩
set_option maxRecDepth 100000 in
set_option maxHeartbeats 1000000 in
theorem unary_any (c : Cx) (k : Nat) (ihu : ∀ j, k < j → Ok c .unary 241 #[c.p] j) (ihp : Ok c .postfx 247 #[c.p] k) : Ok c .unary 241 #[c.p] k := by
  intro w h
  have hbl := h.lt
  have hfew := h.ok.few
  have G0 : Hid (Go1 c w w k) := ⟨h, Off.refl _ _⟩
  have IHU := Lib.hid ihu
  have IHP := Lib.hid ihp
  clear h ihu ihp
  go_enter Tryz.func241, Tryz.ntmps241
  go_wp2_with fail
  refine (stoken_agg c k _ G0.out.1).mono ?_; rintro e w1 ⟨rfl, hB⟩
  have hB2 := hB.alloc hB.size (.cells #[.int .i64 (c.T k).kind, .int .i64 (c.T k).pos, .string (bs (c.T k).text), .int .u64 (c.T k).bits] 42)
  have G2 : Hid (Go1 c w (w1.alloc (.cells #[.int .i64 (c.T k).kind, .int .i64 (c.T k).pos, .string (bs (c.T k).text), .int .u64 (c.T k).bits] 42)) k) := ⟨G0.out.1.below hB2, G0.out.2.below hB2⟩
  have B1 : Hid (B4 (w1.alloc (.cells #[.int .i64 (c.T k).kind, .int .i64 (c.T k).pos, .string (bs (c.T k).text), .int .u64 (c.T k).bits] 42)) w1.heap.size (.int .i64 (c.T k).kind) (.int .i64 (c.T k).pos) (.string (bs (c.T k).text)) (.int .u64 (c.T k).bits)) := B4.new w1 _ _ _ _
  have lb1 : c.b < w1.heap.size := Nat.lt_of_lt_of_le G0.out.1.lt hB.size
  clear hB hB2
  go_wp2_with fail
  generalize w1.alloc (.cells #[.int .i64 (c.T k).kind, .int .i64 (c.T k).pos, .string (bs (c.T k).text), .int .u64 (c.T k).bits] 42) = u1 at *
  refine (fixed_any c k _ G2.out.1).mono ?_; rintro e w3 ⟨rfl, hB⟩
  have G4 : Hid (Go1 c w w3 k) := ⟨G2.out.1.below hB, G2.out.2.below hB⟩
  have B5 := Lib.hid (B1.out.stay hB)
  clear hB
  by_cases x3_0 : fx (c.T k) = [100, 101, 108, 101, 116, 101]
  · have n3_0 : ((bs (fx (c.T k))).toList == [100, 101, 108, 101, 116, 101]) = true := gl_true (by rw [bs_list, x3_0])
    have Q3_0_0 : Hid (prefixes.contains (fx (c.T k)) = true) := by show _ = _; rw [x3_0]; rfl
    have hlt : k < c.ts.length := fx_in G4.out.1.le (by rw [x3_0]; decide)
    clear x3_0
    have o1_0 := B5.out.c0
    have o1_1 := B5.out.c1
    have o1_2 := B5.out.c2
    have o1_3 := B5.out.c3
    have ac1 := G4.out.1.c1
    have af1 := G4.out.1.fz 1
    go_wp2_with fail
    clear o1_0 o1_1 o1_2 o1_3 ac1 af1
    have hG : Go1 c w3 (w3.setCell ⟨c.b, 1, none⟩ (.int .i64 ((k : Int) + 1))) (k + 1) := ⟨G4.out.1.next (j := k + 1) (by omega), (Off.refl _ _).set 1 _⟩
    have G7 : Hid (Go1 c w (w3.setCell ⟨c.b, 1, none⟩ (.int .i64 ((k : Int) + 1))) (k + 1)) := ⟨hG.1, G4.out.2.trans hG.2⟩
    have B8 := Lib.hid (B5.out.off hG.2 (by omega))
    clear hG
    have hz6 : (w3.setCell ⟨c.b, 1, none⟩ (.int .i64 ((k : Int) + 1))).heap.size = w3.heap.size := by simp [World.setCell]
    generalize w3.setCell ⟨c.b, 1, none⟩ (.int .i64 ((k : Int) + 1)) = u6 at *
    have hBd : Below u6.heap.size u6 u6.drew := (Below.refl _ _).drew
    have G9 : Hid (Go1 c w u6.drew (k + 1)) := ⟨G7.out.1.below hBd, G7.out.2.below hBd⟩
    have B10 := Lib.hid (B8.out.stay hBd)
    have oS := B10.out.c2
    go_region_held (fun w' => w'.cell? ⟨w1.heap.size, 2, none⟩ = some (.string (bs (c.T k).text))) (first | assumption | exact cell_alloc (by assumption) _ | exact cell_drew (by assumption))
      (first | (go_at_call 241
                refine (IHU.out (k + 1) (by omega) _ G9.out.1).mono ?_
                rintro e w11 ⟨r, hD, hr⟩
                rcases r with p | ⟨t11, R1⟩
                · obtain ⟨rfl, hO⟩ := hr
                  have HO := Lib.hid (G9.out.2.trans hO)
                  have D11 := Lib.hid hD
                  clear hD hO
                  unfold sflt
                  exact bodyPost_panic rfl (post_err (show D c.E .unary (c.R k) (.error p) from D.mk1 D11.out fun m h0 => by simp only [body, R_hd, if_true, R_tail, bnd, Q3_0_0.out, h0]) rfl HO.out)
                obtain ⟨j11, vv, rfl, hj11, rfl, hG, hT⟩ := hr
                obtain ⟨v11, rfl⟩ := hT.ptr
                have G12 : Hid (Go1 c w w11 j11) := ⟨hG.1, G9.out.2.trans hG.2⟩
                have B13 := Lib.hid (B10.out.off hG.2 (by omega))
                have T11 := Lib.hid (hT.lower G9.out.2.size)
                have D11 := Lib.hid hD
                have oS11 := B13.out.c2
                clear hD hG hT)
             | (go_at_call 46
                refine (newNode_any _ _ _ _ _ _).mono ?_
                rintro e w14 hm
                obtain ⟨a14, rfl, hT, hB⟩ := node_kids (k := 36) (x := (c.T k).text) (vs := [(.pointer (some ⟨v11, 0, none⟩))]) (kids := [t11]) (IsTs.cons T11.out (IsTs.nil _ _)) G12.out.2.size hm
                have G15 : Hid (Go1 c w w14 j11) := ⟨G12.out.1.below hB, G12.out.2.below hB⟩
                have B16 := Lib.hid (B13.out.stay hB)
                have T17 := Lib.hid (T11.out.stay hB)
                have T14 := Lib.hid hT
                have oS14 := B16.out.c2
                clear hT hB hm))
    clear oS
    go_wp2_with fail
    go_ret
    exact post_ok (show D c.E .unary (c.R k) (.ok ((nd 36 (c.T k).text [t11]), c.R j11)) from D.mk1 D11.out fun m h0 => by simp only [body, R_hd, if_true, R_tail, bnd, ret, Q3_0_0.out, h0]) (by omega) rfl G15.out.1 G15.out.2 T14.out
  · skip
    by_cases x3_1 : fx (c.T k) = [118, 111, 105, 100]
    · have n3_0 : ((bs (fx (c.T k))).toList == [100, 101, 108, 101, 116, 101]) = false := gl_false (by rw [bs_list, x3_1]; decide)
      have n3_1 : ((bs (fx (c.T k))).toList == [118, 111, 105, 100]) = true := gl_true (by rw [bs_list, x3_1])
      have Q3_1_0 : Hid (prefixes.contains (fx (c.T k)) = true) := by show _ = _; rw [x3_1]; rfl
      have hlt : k < c.ts.length := fx_in G4.out.1.le (by rw [x3_1]; decide)
      clear x3_0 x3_1
      have o1_0 := B5.out.c0
      have o1_1 := B5.out.c1
      have o1_2 := B5.out.c2
      have o1_3 := B5.out.c3
      have ac1 := G4.out.1.c1
      have af1 := G4.out.1.fz 1
      go_wp2_with fail
      clear o1_0 o1_1 o1_2 o1_3 ac1 af1
      have hG : Go1 c w3 (w3.setCell ⟨c.b, 1, none⟩ (.int .i64 ((k : Int) + 1))) (k + 1) := ⟨G4.out.1.next (j := k + 1) (by omega), (Off.refl _ _).set 1 _⟩
      have G19 : Hid (Go1 c w (w3.setCell ⟨c.b, 1, none⟩ (.int .i64 ((k : Int) + 1))) (k + 1)) := ⟨hG.1, G4.out.2.trans hG.2⟩
      have B20 := Lib.hid (B5.out.off hG.2 (by omega))
      clear hG
      have hz18 : (w3.setCell ⟨c.b, 1, none⟩ (.int .i64 ((k : Int) + 1))).heap.size = w3.heap.size := by simp [World.setCell]
      generalize w3.setCell ⟨c.b, 1, none⟩ (.int .i64 ((k : Int) + 1)) = u18 at *
      have hBd : Below u18.heap.size u18 u18.drew := (Below.refl _ _).drew
      have G21 : Hid (Go1 c w u18.drew (k + 1)) := ⟨G19.out.1.below hBd, G19.out.2.below hBd⟩
      have B22 := Lib.hid (B20.out.stay hBd)
      have oS := B22.out.c2
      go_region_held (fun w' => w'.cell? ⟨w1.heap.size, 2, none⟩ = some (.string (bs (c.T k).text))) (first | assumption | exact cell_alloc (by assumption) _ | exact cell_drew (by assumption))
        (first | (go_at_call 241
                  refine (IHU.out (k + 1) (by omega) _ G21.out.1).mono ?_
                  rintro e w23 ⟨r, hD, hr⟩
                  rcases r with p | ⟨t23, R1⟩
                  · obtain ⟨rfl, hO⟩ := hr
                    have HO := Lib.hid (G21.out.2.trans hO)
                    have D23 := Lib.hid hD
                    clear hD hO
                    unfold sflt
                    exact bodyPost_panic rfl (post_err (show D c.E .unary (c.R k) (.error p) from D.mk1 D23.out fun m h0 => by simp only [body, R_hd, if_true, R_tail, bnd, Q3_1_0.out, h0]) rfl HO.out)
                  obtain ⟨j23, vv, rfl, hj23, rfl, hG, hT⟩ := hr
                  obtain ⟨v23, rfl⟩ := hT.ptr
                  have G24 : Hid (Go1 c w w23 j23) := ⟨hG.1, G21.out.2.trans hG.2⟩
                  have B25 := Lib.hid (B22.out.off hG.2 (by omega))
                  have T23 := Lib.hid (hT.lower G21.out.2.size)
                  have D23 := Lib.hid hD
                  have oS23 := B25.out.c2
                  clear hD hG hT)
               | (go_at_call 46
                  refine (newNode_any _ _ _ _ _ _).mono ?_
                  rintro e w26 hm
                  obtain ⟨a26, rfl, hT, hB⟩ := node_kids (k := 36) (x := (c.T k).text) (vs := [(.pointer (some ⟨v23, 0, none⟩))]) (kids := [t23]) (IsTs.cons T23.out (IsTs.nil _ _)) G24.out.2.size hm
                  have G27 : Hid (Go1 c w w26 j23) := ⟨G24.out.1.below hB, G24.out.2.below hB⟩
                  have B28 := Lib.hid (B25.out.stay hB)
                  have T29 := Lib.hid (T23.out.stay hB)
                  have T26 := Lib.hid hT
                  have oS26 := B28.out.c2
                  clear hT hB hm))
      clear oS
      go_wp2_with fail
      go_ret
      exact post_ok (show D c.E .unary (c.R k) (.ok ((nd 36 (c.T k).text [t23]), c.R j23)) from D.mk1 D23.out fun m h0 => by simp only [body, R_hd, if_true, R_tail, bnd, ret, Q3_1_0.out, h0]) (by omega) rfl G27.out.1 G27.out.2 T26.out
    · skip
      by_cases x3_2 : fx (c.T k) = [116, 121, 112, 101, 111, 102]
      · have n3_0 : ((bs (fx (c.T k))).toList == [100, 101, 108, 101, 116, 101]) = false := gl_false (by rw [bs_list, x3_2]; decide)
        have n3_1 : ((bs (fx (c.T k))).toList == [118, 111, 105, 100]) = false := gl_false (by rw [bs_list, x3_2]; decide)
        have n3_2 : ((bs (fx (c.T k))).toList == [116, 121, 112, 101, 111, 102]) = true := gl_true (by rw [bs_list, x3_2])
        have Q3_2_0 : Hid (prefixes.contains (fx (c.T k)) = true) := by show _ = _; rw [x3_2]; rfl
        have hlt : k < c.ts.length := fx_in G4.out.1.le (by rw [x3_2]; decide)
        clear x3_0 x3_1 x3_2
        have o1_0 := B5.out.c0
        have o1_1 := B5.out.c1
        have o1_2 := B5.out.c2
        have o1_3 := B5.out.c3
        have ac1 := G4.out.1.c1
        have af1 := G4.out.1.fz 1
        go_wp2_with fail
        clear o1_0 o1_1 o1_2 o1_3 ac1 af1
        have hG : Go1 c w3 (w3.setCell ⟨c.b, 1, none⟩ (.int .i64 ((k : Int) + 1))) (k + 1) := ⟨G4.out.1.next (j := k + 1) (by omega), (Off.refl _ _).set 1 _⟩
        have G31 : Hid (Go1 c w (w3.setCell ⟨c.b, 1, none⟩ (.int .i64 ((k : Int) + 1))) (k + 1)) := ⟨hG.1, G4.out.2.trans hG.2⟩
        have B32 := Lib.hid (B5.out.off hG.2 (by omega))
        clear hG
        have hz30 : (w3.setCell ⟨c.b, 1, none⟩ (.int .i64 ((k : Int) + 1))).heap.size = w3.heap.size := by simp [World.setCell]
        generalize w3.setCell ⟨c.b, 1, none⟩ (.int .i64 ((k : Int) + 1)) = u30 at *
        have hBd : Below u30.heap.size u30 u30.drew := (Below.refl _ _).drew
        have G33 : Hid (Go1 c w u30.drew (k + 1)) := ⟨G31.out.1.below hBd, G31.out.2.below hBd⟩
        have B34 := Lib.hid (B32.out.stay hBd)
        have oS := B34.out.c2
        go_region_held (fun w' => w'.cell? ⟨w1.heap.size, 2, none⟩ = some (.string (bs (c.T k).text))) (first | assumption | exact cell_alloc (by assumption) _ | exact cell_drew (by assumption))
          (first | (go_at_call 241
                    refine (IHU.out (k + 1) (by omega) _ G33.out.1).mono ?_
                    rintro e w35 ⟨r, hD, hr⟩
                    rcases r with p | ⟨t35, R1⟩
                    · obtain ⟨rfl, hO⟩ := hr
                      have HO := Lib.hid (G33.out.2.trans hO)
                      have D35 := Lib.hid hD
                      clear hD hO
                      unfold sflt
                      exact bodyPost_panic rfl (post_err (show D c.E .unary (c.R k) (.error p) from D.mk1 D35.out fun m h0 => by simp only [body, R_hd, if_true, R_tail, bnd, Q3_2_0.out, h0]) rfl HO.out)
                    obtain ⟨j35, vv, rfl, hj35, rfl, hG, hT⟩ := hr
                    obtain ⟨v35, rfl⟩ := hT.ptr
                    have G36 : Hid (Go1 c w w35 j35) := ⟨hG.1, G33.out.2.trans hG.2⟩
                    have B37 := Lib.hid (B34.out.off hG.2 (by omega))
                    have T35 := Lib.hid (hT.lower G33.out.2.size)
                    have D35 := Lib.hid hD
                    have oS35 := B37.out.c2
                    clear hD hG hT)
                 | (go_at_call 46
                    refine (newNode_any _ _ _ _ _ _).mono ?_
                    rintro e w38 hm
                    obtain ⟨a38, rfl, hT, hB⟩ := node_kids (k := 36) (x := (c.T k).text) (vs := [(.pointer (some ⟨v35, 0, none⟩))]) (kids := [t35]) (IsTs.cons T35.out (IsTs.nil _ _)) G36.out.2.size hm
                    have G39 : Hid (Go1 c w w38 j35) := ⟨G36.out.1.below hB, G36.out.2.below hB⟩
                    have B40 := Lib.hid (B37.out.stay hB)
                    have T41 := Lib.hid (T35.out.stay hB)
                    have T38 := Lib.hid hT
                    have oS38 := B40.out.c2
                    clear hT hB hm))
        clear oS
        go_wp2_with fail
        go_ret
        exact post_ok (show D c.E .unary (c.R k) (.ok ((nd 36 (c.T k).text [t35]), c.R j35)) from D.mk1 D35.out fun m h0 => by simp only [body, R_hd, if_true, R_tail, bnd, ret, Q3_2_0.out, h0]) (by omega) rfl G39.out.1 G39.out.2 T38.out
      · skip
        by_cases x3_3 : fx (c.T k) = [43]
        · have n3_0 : ((bs (fx (c.T k))).toList == [100, 101, 108, 101, 116, 101]) = false := gl_false (by rw [bs_list, x3_3]; decide)
          have n3_1 : ((bs (fx (c.T k))).toList == [118, 111, 105, 100]) = false := gl_false (by rw [bs_list, x3_3]; decide)
          have n3_2 : ((bs (fx (c.T k))).toList == [116, 121, 112, 101, 111, 102]) = false := gl_false (by rw [bs_list, x3_3]; decide)
          have n3_3 : ((bs (fx (c.T k))).toList == [43]) = true := gl_true (by rw [bs_list, x3_3])
          have Q3_3_0 : Hid (prefixes.contains (fx (c.T k)) = true) := by show _ = _; rw [x3_3]; rfl
          have hlt : k < c.ts.length := fx_in G4.out.1.le (by rw [x3_3]; decide)
          clear x3_0 x3_1 x3_2 x3_3
          have o1_0 := B5.out.c0
          have o1_1 := B5.out.c1
          have o1_2 := B5.out.c2
          have o1_3 := B5.out.c3
          have ac1 := G4.out.1.c1
          have af1 := G4.out.1.fz 1
          go_wp2_with fail
          clear o1_0 o1_1 o1_2 o1_3 ac1 af1
          have hG : Go1 c w3 (w3.setCell ⟨c.b, 1, none⟩ (.int .i64 ((k : Int) + 1))) (k + 1) := ⟨G4.out.1.next (j := k + 1) (by omega), (Off.refl _ _).set 1 _⟩
          have G43 : Hid (Go1 c w (w3.setCell ⟨c.b, 1, none⟩ (.int .i64 ((k : Int) + 1))) (k + 1)) := ⟨hG.1, G4.out.2.trans hG.2⟩
          have B44 := Lib.hid (B5.out.off hG.2 (by omega))
          clear hG
          have hz42 : (w3.setCell ⟨c.b, 1, none⟩ (.int .i64 ((k : Int) + 1))).heap.size = w3.heap.size := by simp [World.setCell]
          generalize w3.setCell ⟨c.b, 1, none⟩ (.int .i64 ((k : Int) + 1)) = u42 at *
          have hBd : Below u42.heap.size u42 u42.drew := (Below.refl _ _).drew
          have G45 : Hid (Go1 c w u42.drew (k + 1)) := ⟨G43.out.1.below hBd, G43.out.2.below hBd⟩
          have B46 := Lib.hid (B44.out.stay hBd)
          have oS := B46.out.c2
          go_region_held (fun w' => w'.cell? ⟨w1.heap.size, 2, none⟩ = some (.string (bs (c.T k).text))) (first | assumption | exact cell_alloc (by assumption) _ | exact cell_drew (by assumption))
            (first | (go_at_call 241
                      refine (IHU.out (k + 1) (by omega) _ G45.out.1).mono ?_
                      rintro e w47 ⟨r, hD, hr⟩
                      rcases r with p | ⟨t47, R1⟩
                      · obtain ⟨rfl, hO⟩ := hr
                        have HO := Lib.hid (G45.out.2.trans hO)
                        have D47 := Lib.hid hD
                        clear hD hO
                        unfold sflt
                        exact bodyPost_panic rfl (post_err (show D c.E .unary (c.R k) (.error p) from D.mk1 D47.out fun m h0 => by simp only [body, R_hd, if_true, R_tail, bnd, Q3_3_0.out, h0]) rfl HO.out)
                      obtain ⟨j47, vv, rfl, hj47, rfl, hG, hT⟩ := hr
                      obtain ⟨v47, rfl⟩ := hT.ptr
                      have G48 : Hid (Go1 c w w47 j47) := ⟨hG.1, G45.out.2.trans hG.2⟩
                      have B49 := Lib.hid (B46.out.off hG.2 (by omega))
                      have T47 := Lib.hid (hT.lower G45.out.2.size)
                      have D47 := Lib.hid hD
                      have oS47 := B49.out.c2
                      clear hD hG hT)
                   | (go_at_call 46
                      refine (newNode_any _ _ _ _ _ _).mono ?_
                      rintro e w50 hm
                      obtain ⟨a50, rfl, hT, hB⟩ := node_kids (k := 36) (x := (c.T k).text) (vs := [(.pointer (some ⟨v47, 0, none⟩))]) (kids := [t47]) (IsTs.cons T47.out (IsTs.nil _ _)) G48.out.2.size hm
                      have G51 : Hid (Go1 c w w50 j47) := ⟨G48.out.1.below hB, G48.out.2.below hB⟩
                      have B52 := Lib.hid (B49.out.stay hB)
                      have T53 := Lib.hid (T47.out.stay hB)
                      have T50 := Lib.hid hT
                      have oS50 := B52.out.c2
                      clear hT hB hm))
          clear oS
          go_wp2_with fail
          go_ret
          exact post_ok (show D c.E .unary (c.R k) (.ok ((nd 36 (c.T k).text [t47]), c.R j47)) from D.mk1 D47.out fun m h0 => by simp only [body, R_hd, if_true, R_tail, bnd, ret, Q3_3_0.out, h0]) (by omega) rfl G51.out.1 G51.out.2 T50.out
        · skip
          by_cases x3_4 : fx (c.T k) = [45]
          · have n3_0 : ((bs (fx (c.T k))).toList == [100, 101, 108, 101, 116, 101]) = false := gl_false (by rw [bs_list, x3_4]; decide)
            have n3_1 : ((bs (fx (c.T k))).toList == [118, 111, 105, 100]) = false := gl_false (by rw [bs_list, x3_4]; decide)
            have n3_2 : ((bs (fx (c.T k))).toList == [116, 121, 112, 101, 111, 102]) = false := gl_false (by rw [bs_list, x3_4]; decide)
            have n3_3 : ((bs (fx (c.T k))).toList == [43]) = false := gl_false (by rw [bs_list, x3_4]; decide)
            have n3_4 : ((bs (fx (c.T k))).toList == [45]) = true := gl_true (by rw [bs_list, x3_4])
            have Q3_4_0 : Hid (prefixes.contains (fx (c.T k)) = true) := by show _ = _; rw [x3_4]; rfl
            have hlt : k < c.ts.length := fx_in G4.out.1.le (by rw [x3_4]; decide)
            clear x3_0 x3_1 x3_2 x3_3 x3_4
            have o1_0 := B5.out.c0
            have o1_1 := B5.out.c1
            have o1_2 := B5.out.c2
            have o1_3 := B5.out.c3
            have ac1 := G4.out.1.c1
            have af1 := G4.out.1.fz 1
            go_wp2_with fail
            clear o1_0 o1_1 o1_2 o1_3 ac1 af1
            have hG : Go1 c w3 (w3.setCell ⟨c.b, 1, none⟩ (.int .i64 ((k : Int) + 1))) (k + 1) := ⟨G4.out.1.next (j := k + 1) (by omega), (Off.refl _ _).set 1 _⟩
            have G55 : Hid (Go1 c w (w3.setCell ⟨c.b, 1, none⟩ (.int .i64 ((k : Int) + 1))) (k + 1)) := ⟨hG.1, G4.out.2.trans hG.2⟩
            have B56 := Lib.hid (B5.out.off hG.2 (by omega))
            clear hG
            have hz54 : (w3.setCell ⟨c.b, 1, none⟩ (.int .i64 ((k : Int) + 1))).heap.size = w3.heap.size := by simp [World.setCell]
            generalize w3.setCell ⟨c.b, 1, none⟩ (.int .i64 ((k : Int) + 1)) = u54 at *
            have hBd : Below u54.heap.size u54 u54.drew := (Below.refl _ _).drew
            have G57 : Hid (Go1 c w u54.drew (k + 1)) := ⟨G55.out.1.below hBd, G55.out.2.below hBd⟩
            have B58 := Lib.hid (B56.out.stay hBd)
            have oS := B58.out.c2
            go_region_held (fun w' => w'.cell? ⟨w1.heap.size, 2, none⟩ = some (.string (bs (c.T k).text))) (first | assumption | exact cell_alloc (by assumption) _ | exact cell_drew (by assumption))
              (first | (go_at_call 241
                        refine (IHU.out (k + 1) (by omega) _ G57.out.1).mono ?_
                        rintro e w59 ⟨r, hD, hr⟩
                        rcases r with p | ⟨t59, R1⟩
                        · obtain ⟨rfl, hO⟩ := hr
                          have HO := Lib.hid (G57.out.2.trans hO)
                          have D59 := Lib.hid hD
                          clear hD hO
                          unfold sflt
                          exact bodyPost_panic rfl (post_err (show D c.E .unary (c.R k) (.error p) from D.mk1 D59.out fun m h0 => by simp only [body, R_hd, if_true, R_tail, bnd, Q3_4_0.out, h0]) rfl HO.out)
                        obtain ⟨j59, vv, rfl, hj59, rfl, hG, hT⟩ := hr
                        obtain ⟨v59, rfl⟩ := hT.ptr
                        have G60 : Hid (Go1 c w w59 j59) := ⟨hG.1, G57.out.2.trans hG.2⟩
                        have B61 := Lib.hid (B58.out.off hG.2 (by omega))
                        have T59 := Lib.hid (hT.lower G57.out.2.size)
                        have D59 := Lib.hid hD
                        have oS59 := B61.out.c2
                        clear hD hG hT)
                     | (go_at_call 46
                        refine (newNode_any _ _ _ _ _ _).mono ?_
                        rintro e w62 hm
                        obtain ⟨a62, rfl, hT, hB⟩ := node_kids (k := 36) (x := (c.T k).text) (vs := [(.pointer (some ⟨v59, 0, none⟩))]) (kids := [t59]) (IsTs.cons T59.out (IsTs.nil _ _)) G60.out.2.size hm
                        have G63 : Hid (Go1 c w w62 j59) := ⟨G60.out.1.below hB, G60.out.2.below hB⟩
                        have B64 := Lib.hid (B61.out.stay hB)
                        have T65 := Lib.hid (T59.out.stay hB)
                        have T62 := Lib.hid hT
                        have oS62 := B64.out.c2
                        clear hT hB hm))
            clear oS
            go_wp2_with fail
            go_ret
            exact post_ok (show D c.E .unary (c.R k) (.ok ((nd 36 (c.T k).text [t59]), c.R j59)) from D.mk1 D59.out fun m h0 => by simp only [body, R_hd, if_true, R_tail, bnd, ret, Q3_4_0.out, h0]) (by omega) rfl G63.out.1 G63.out.2 T62.out
          · skip
            by_cases x3_5 : fx (c.T k) = [126]
            · have n3_0 : ((bs (fx (c.T k))).toList == [100, 101, 108, 101, 116, 101]) = false := gl_false (by rw [bs_list, x3_5]; decide)
              have n3_1 : ((bs (fx (c.T k))).toList == [118, 111, 105, 100]) = false := gl_false (by rw [bs_list, x3_5]; decide)
              have n3_2 : ((bs (fx (c.T k))).toList == [116, 121, 112, 101, 111, 102]) = false := gl_false (by rw [bs_list, x3_5]; decide)
              have n3_3 : ((bs (fx (c.T k))).toList == [43]) = false := gl_false (by rw [bs_list, x3_5]; decide)
              have n3_4 : ((bs (fx (c.T k))).toList == [45]) = false := gl_false (by rw [bs_list, x3_5]; decide)
              have n3_5 : ((bs (fx (c.T k))).toList == [126]) = true := gl_true (by rw [bs_list, x3_5])
              have Q3_5_0 : Hid (prefixes.contains (fx (c.T k)) = true) := by show _ = _; rw [x3_5]; rfl
              have hlt : k < c.ts.length := fx_in G4.out.1.le (by rw [x3_5]; decide)
              clear x3_0 x3_1 x3_2 x3_3 x3_4 x3_5
              have o1_0 := B5.out.c0
              have o1_1 := B5.out.c1
              have o1_2 := B5.out.c2
              have o1_3 := B5.out.c3
              have ac1 := G4.out.1.c1
              have af1 := G4.out.1.fz 1
              go_wp2_with fail
              clear o1_0 o1_1 o1_2 o1_3 ac1 af1
              have hG : Go1 c w3 (w3.setCell ⟨c.b, 1, none⟩ (.int .i64 ((k : Int) + 1))) (k + 1) := ⟨G4.out.1.next (j := k + 1) (by omega), (Off.refl _ _).set 1 _⟩
              have G67 : Hid (Go1 c w (w3.setCell ⟨c.b, 1, none⟩ (.int .i64 ((k : Int) + 1))) (k + 1)) := ⟨hG.1, G4.out.2.trans hG.2⟩
              have B68 := Lib.hid (B5.out.off hG.2 (by omega))
              clear hG
              have hz66 : (w3.setCell ⟨c.b, 1, none⟩ (.int .i64 ((k : Int) + 1))).heap.size = w3.heap.size := by simp [World.setCell]
              generalize w3.setCell ⟨c.b, 1, none⟩ (.int .i64 ((k : Int) + 1)) = u66 at *
              have hBd : Below u66.heap.size u66 u66.drew := (Below.refl _ _).drew
              have G69 : Hid (Go1 c w u66.drew (k + 1)) := ⟨G67.out.1.below hBd, G67.out.2.below hBd⟩
              have B70 := Lib.hid (B68.out.stay hBd)
              have oS := B70.out.c2
              go_region_held (fun w' => w'.cell? ⟨w1.heap.size, 2, none⟩ = some (.string (bs (c.T k).text))) (first | assumption | exact cell_alloc (by assumption) _ | exact cell_drew (by assumption))
                (first | (go_at_call 241
                          refine (IHU.out (k + 1) (by omega) _ G69.out.1).mono ?_
                          rintro e w71 ⟨r, hD, hr⟩
                          rcases r with p | ⟨t71, R1⟩
                          · obtain ⟨rfl, hO⟩ := hr
                            have HO := Lib.hid (G69.out.2.trans hO)
                            have D71 := Lib.hid hD
                            clear hD hO
                            unfold sflt
                            exact bodyPost_panic rfl (post_err (show D c.E .unary (c.R k) (.error p) from D.mk1 D71.out fun m h0 => by simp only [body, R_hd, if_true, R_tail, bnd, Q3_5_0.out, h0]) rfl HO.out)
                          obtain ⟨j71, vv, rfl, hj71, rfl, hG, hT⟩ := hr
                          obtain ⟨v71, rfl⟩ := hT.ptr
                          have G72 : Hid (Go1 c w w71 j71) := ⟨hG.1, G69.out.2.trans hG.2⟩
                          have B73 := Lib.hid (B70.out.off hG.2 (by omega))
                          have T71 := Lib.hid (hT.lower G69.out.2.size)
                          have D71 := Lib.hid hD
                          have oS71 := B73.out.c2
                          clear hD hG hT)
                       | (go_at_call 46
                          refine (newNode_any _ _ _ _ _ _).mono ?_
                          rintro e w74 hm
                          obtain ⟨a74, rfl, hT, hB⟩ := node_kids (k := 36) (x := (c.T k).text) (vs := [(.pointer (some ⟨v71, 0, none⟩))]) (kids := [t71]) (IsTs.cons T71.out (IsTs.nil _ _)) G72.out.2.size hm
                          have G75 : Hid (Go1 c w w74 j71) := ⟨G72.out.1.below hB, G72.out.2.below hB⟩
                          have B76 := Lib.hid (B73.out.stay hB)
                          have T77 := Lib.hid (T71.out.stay hB)
                          have T74 := Lib.hid hT
                          have oS74 := B76.out.c2
                          clear hT hB hm))
              clear oS
              go_wp2_with fail
              go_ret
              exact post_ok (show D c.E .unary (c.R k) (.ok ((nd 36 (c.T k).text [t71]), c.R j71)) from D.mk1 D71.out fun m h0 => by simp only [body, R_hd, if_true, R_tail, bnd, ret, Q3_5_0.out, h0]) (by omega) rfl G75.out.1 G75.out.2 T74.out
            · skip
              by_cases x3_6 : fx (c.T k) = [33]
              · have n3_0 : ((bs (fx (c.T k))).toList == [100, 101, 108, 101, 116, 101]) = false := gl_false (by rw [bs_list, x3_6]; decide)
                have n3_1 : ((bs (fx (c.T k))).toList == [118, 111, 105, 100]) = false := gl_false (by rw [bs_list, x3_6]; decide)
                have n3_2 : ((bs (fx (c.T k))).toList == [116, 121, 112, 101, 111, 102]) = false := gl_false (by rw [bs_list, x3_6]; decide)
                have n3_3 : ((bs (fx (c.T k))).toList == [43]) = false := gl_false (by rw [bs_list, x3_6]; decide)
                have n3_4 : ((bs (fx (c.T k))).toList == [45]) = false := gl_false (by rw [bs_list, x3_6]; decide)
                have n3_5 : ((bs (fx (c.T k))).toList == [126]) = false := gl_false (by rw [bs_list, x3_6]; decide)
                have n3_6 : ((bs (fx (c.T k))).toList == [33]) = true := gl_true (by rw [bs_list, x3_6])
                have Q3_6_0 : Hid (prefixes.contains (fx (c.T k)) = true) := by show _ = _; rw [x3_6]; rfl
                have hlt : k < c.ts.length := fx_in G4.out.1.le (by rw [x3_6]; decide)
                clear x3_0 x3_1 x3_2 x3_3 x3_4 x3_5 x3_6
                have o1_0 := B5.out.c0
                have o1_1 := B5.out.c1
                have o1_2 := B5.out.c2
                have o1_3 := B5.out.c3
                have ac1 := G4.out.1.c1
                have af1 := G4.out.1.fz 1
                go_wp2_with fail
                clear o1_0 o1_1 o1_2 o1_3 ac1 af1
                have hG : Go1 c w3 (w3.setCell ⟨c.b, 1, none⟩ (.int .i64 ((k : Int) + 1))) (k + 1) := ⟨G4.out.1.next (j := k + 1) (by omega), (Off.refl _ _).set 1 _⟩
                have G79 : Hid (Go1 c w (w3.setCell ⟨c.b, 1, none⟩ (.int .i64 ((k : Int) + 1))) (k + 1)) := ⟨hG.1, G4.out.2.trans hG.2⟩
                have B80 := Lib.hid (B5.out.off hG.2 (by omega))
                clear hG
                have hz78 : (w3.setCell ⟨c.b, 1, none⟩ (.int .i64 ((k : Int) + 1))).heap.size = w3.heap.size := by simp [World.setCell]
                generalize w3.setCell ⟨c.b, 1, none⟩ (.int .i64 ((k : Int) + 1)) = u78 at *
                have hBd : Below u78.heap.size u78 u78.drew := (Below.refl _ _).drew
                have G81 : Hid (Go1 c w u78.drew (k + 1)) := ⟨G79.out.1.below hBd, G79.out.2.below hBd⟩
                have B82 := Lib.hid (B80.out.stay hBd)
                have oS := B82.out.c2
                go_region_held (fun w' => w'.cell? ⟨w1.heap.size, 2, none⟩ = some (.string (bs (c.T k).text))) (first | assumption | exact cell_alloc (by assumption) _ | exact cell_drew (by assumption))
                  (first | (go_at_call 241
                            refine (IHU.out (k + 1) (by omega) _ G81.out.1).mono ?_
                            rintro e w83 ⟨r, hD, hr⟩
                            rcases r with p | ⟨t83, R1⟩
                            · obtain ⟨rfl, hO⟩ := hr
                              have HO := Lib.hid (G81.out.2.trans hO)
                              have D83 := Lib.hid hD
                              clear hD hO
                              unfold sflt
                              exact bodyPost_panic rfl (post_err (show D c.E .unary (c.R k) (.error p) from D.mk1 D83.out fun m h0 => by simp only [body, R_hd, if_true, R_tail, bnd, Q3_6_0.out, h0]) rfl HO.out)
                            obtain ⟨j83, vv, rfl, hj83, rfl, hG, hT⟩ := hr
                            obtain ⟨v83, rfl⟩ := hT.ptr
                            have G84 : Hid (Go1 c w w83 j83) := ⟨hG.1, G81.out.2.trans hG.2⟩
                            have B85 := Lib.hid (B82.out.off hG.2 (by omega))
                            have T83 := Lib.hid (hT.lower G81.out.2.size)
                            have D83 := Lib.hid hD
                            have oS83 := B85.out.c2
                            clear hD hG hT)
                         | (go_at_call 46
                            refine (newNode_any _ _ _ _ _ _).mono ?_
                            rintro e w86 hm
                            obtain ⟨a86, rfl, hT, hB⟩ := node_kids (k := 36) (x := (c.T k).text) (vs := [(.pointer (some ⟨v83, 0, none⟩))]) (kids := [t83]) (IsTs.cons T83.out (IsTs.nil _ _)) G84.out.2.size hm
                            have G87 : Hid (Go1 c w w86 j83) := ⟨G84.out.1.below hB, G84.out.2.below hB⟩
                            have B88 := Lib.hid (B85.out.stay hB)
                            have T89 := Lib.hid (T83.out.stay hB)
                            have T86 := Lib.hid hT
                            have oS86 := B88.out.c2
                            clear hT hB hm))
                clear oS
                go_wp2_with fail
                go_ret
                exact post_ok (show D c.E .unary (c.R k) (.ok ((nd 36 (c.T k).text [t83]), c.R j83)) from D.mk1 D83.out fun m h0 => by simp only [body, R_hd, if_true, R_tail, bnd, ret, Q3_6_0.out, h0]) (by omega) rfl G87.out.1 G87.out.2 T86.out
              · skip
                by_cases x3_7 : fx (c.T k) = [43, 43]
                · have n3_0 : ((bs (fx (c.T k))).toList == [100, 101, 108, 101, 116, 101]) = false := gl_false (by rw [bs_list, x3_7]; decide)
                  have n3_1 : ((bs (fx (c.T k))).toList == [118, 111, 105, 100]) = false := gl_false (by rw [bs_list, x3_7]; decide)
                  have n3_2 : ((bs (fx (c.T k))).toList == [116, 121, 112, 101, 111, 102]) = false := gl_false (by rw [bs_list, x3_7]; decide)
                  have n3_3 : ((bs (fx (c.T k))).toList == [43]) = false := gl_false (by rw [bs_list, x3_7]; decide)
                  have n3_4 : ((bs (fx (c.T k))).toList == [45]) = false := gl_false (by rw [bs_list, x3_7]; decide)
                  have n3_5 : ((bs (fx (c.T k))).toList == [126]) = false := gl_false (by rw [bs_list, x3_7]; decide)
                  have n3_6 : ((bs (fx (c.T k))).toList == [33]) = false := gl_false (by rw [bs_list, x3_7]; decide)
                  have n3_7 : ((bs (fx (c.T k))).toList == [43, 43]) = true := gl_true (by rw [bs_list, x3_7])
                  have Q3_7_0 : Hid (prefixes.contains (fx (c.T k)) = false) := by show _ = _; rw [x3_7]; rfl
                  have Q3_7_1 : Hid (steps.contains (fx (c.T k)) = true) := by show _ = _; rw [x3_7]; rfl
                  have hlt : k < c.ts.length := fx_in G4.out.1.le (by rw [x3_7]; decide)
                  clear x3_0 x3_1 x3_2 x3_3 x3_4 x3_5 x3_6 x3_7
                  have o1_0 := B5.out.c0
                  have o1_1 := B5.out.c1
                  have o1_2 := B5.out.c2
                  have o1_3 := B5.out.c3
                  have ac1 := G4.out.1.c1
                  have af1 := G4.out.1.fz 1
                  go_wp2_with fail
                  clear o1_0 o1_1 o1_2 o1_3 ac1 af1
                  have hG : Go1 c w3 (w3.setCell ⟨c.b, 1, none⟩ (.int .i64 ((k : Int) + 1))) (k + 1) := ⟨G4.out.1.next (j := k + 1) (by omega), (Off.refl _ _).set 1 _⟩
                  have G91 : Hid (Go1 c w (w3.setCell ⟨c.b, 1, none⟩ (.int .i64 ((k : Int) + 1))) (k + 1)) := ⟨hG.1, G4.out.2.trans hG.2⟩
                  have B92 := Lib.hid (B5.out.off hG.2 (by omega))
                  clear hG
                  have hz90 : (w3.setCell ⟨c.b, 1, none⟩ (.int .i64 ((k : Int) + 1))).heap.size = w3.heap.size := by simp [World.setCell]
                  generalize w3.setCell ⟨c.b, 1, none⟩ (.int .i64 ((k : Int) + 1)) = u90 at *
                  refine (IHU.out (k + 1) (by omega) _ G91.out.1).mono ?_; rintro e w93 ⟨r, hD, hr⟩
                  rcases r with p | ⟨t93, R1⟩
                  · obtain ⟨rfl, hO⟩ := hr
                    have HO := Lib.hid (G91.out.2.trans hO)
                    have D93 := Lib.hid hD
                    clear hD hO
                    unfold sflt
                    go_wp2_with fail
                    exact bodyPost_panic rfl (post_err (show D c.E .unary (c.R k) (.error p) from D.mk1 D93.out fun m h0 => by simp only [body, R_hd, Bool.false_eq_true, if_false, if_true, R_tail, bnd, Q3_7_0.out, Q3_7_1.out, h0]) rfl HO.out)
                  · obtain ⟨j93, vv, rfl, hj93, rfl, hG, hT⟩ := hr
                    obtain ⟨v93, rfl⟩ := hT.ptr
                    have G94 : Hid (Go1 c w w93 j93) := ⟨hG.1, G91.out.2.trans hG.2⟩
                    have B95 := Lib.hid (B92.out.off hG.2 (by omega))
                    have T93 := Lib.hid (hT.lower G91.out.2.size)
                    have D93 := Lib.hid hD
                    clear hD hG hT
                    have o1_0 := B95.out.c0
                    have o1_1 := B95.out.c1
                    have o1_2 := B95.out.c2
                    have o1_3 := B95.out.c3
                    go_wp2_with fail
                    clear o1_0 o1_1 o1_2 o1_3
                    cases hq : targetB t93
                    · refine (target_no _ _ _ _ (c.T k) T93.out hq).mono ?_; rintro e w96 ⟨rfl, hB⟩
                      have HO := Lib.hid (G94.out.2.below hB)
                      have Q96 := Lib.hid hq
                      clear hB hq
                      unfold sflt
                      go_wp2_with fail
                      exact bodyPost_panic rfl (post_err (show D c.E .unary (c.R k) (.error (c.T k).pos) from D.mk1 D93.out fun m h0 => by simp only [body, R_hd, Bool.false_eq_true, if_false, if_true, R_tail, bnd, bad, Q3_7_0.out, Q3_7_1.out, Q96.out, h0]) rfl HO.out)
                    · refine (target_yes _ _ _ _ (c.T k) T93.out hq).mono ?_; rintro e w96 ⟨rfl, hB⟩
                      have G97 : Hid (Go1 c w w96 j93) := ⟨G94.out.1.below hB, G94.out.2.below hB⟩
                      have B98 := Lib.hid (B95.out.stay hB)
                      have T99 := Lib.hid (T93.out.stay hB)
                      have Q96 := Lib.hid hq
                      clear hB hq
                      have o1_0 := B98.out.c0
                      have o1_1 := B98.out.c1
                      have o1_2 := B98.out.c2
                      have o1_3 := B98.out.c3
                      go_wp2_with fail
                      clear o1_0 o1_1 o1_2 o1_3
                      refine (newNode_any _ _ _ _ _ _).mono ?_; rintro e w100 hm
                      obtain ⟨a100, rfl, hT, hB⟩ := node_kids (k := 37) (x := (c.T k).text) (vs := [(.pointer (some ⟨v93, 0, none⟩))]) (kids := [t93]) (IsTs.cons T99.out (IsTs.nil _ _)) G97.out.2.size hm
                      have G101 : Hid (Go1 c w w100 j93) := ⟨G97.out.1.below hB, G97.out.2.below hB⟩
                      have B102 := Lib.hid (B98.out.stay hB)
                      have T103 := Lib.hid (T99.out.stay hB)
                      have T100 := Lib.hid hT
                      clear hT hB hm
                      have o1_0 := B102.out.c0
                      have o1_1 := B102.out.c1
                      have o1_2 := B102.out.c2
                      have o1_3 := B102.out.c3
                      go_wp2_with fail
                      clear o1_0 o1_1 o1_2 o1_3
                      go_ret
                      exact post_ok (show D c.E .unary (c.R k) (.ok ((nd 37 (c.T k).text [t93]), c.R j93)) from D.mk1 D93.out fun m h0 => by simp only [body, R_hd, Bool.false_eq_true, if_false, if_true, R_tail, bnd, ret, Q3_7_0.out, Q3_7_1.out, Q96.out, h0]) (by omega) rfl G101.out.1 G101.out.2 T100.out
                · skip
                  by_cases x3_8 : fx (c.T k) = [45, 45]
                  · have n3_0 : ((bs (fx (c.T k))).toList == [100, 101, 108, 101, 116, 101]) = false := gl_false (by rw [bs_list, x3_8]; decide)
                    have n3_1 : ((bs (fx (c.T k))).toList == [118, 111, 105, 100]) = false := gl_false (by rw [bs_list, x3_8]; decide)
                    have n3_2 : ((bs (fx (c.T k))).toList == [116, 121, 112, 101, 111, 102]) = false := gl_false (by rw [bs_list, x3_8]; decide)
                    have n3_3 : ((bs (fx (c.T k))).toList == [43]) = false := gl_false (by rw [bs_list, x3_8]; decide)
                    have n3_4 : ((bs (fx (c.T k))).toList == [45]) = false := gl_false (by rw [bs_list, x3_8]; decide)
                    have n3_5 : ((bs (fx (c.T k))).toList == [126]) = false := gl_false (by rw [bs_list, x3_8]; decide)
                    have n3_6 : ((bs (fx (c.T k))).toList == [33]) = false := gl_false (by rw [bs_list, x3_8]; decide)
                    have n3_7 : ((bs (fx (c.T k))).toList == [43, 43]) = false := gl_false (by rw [bs_list, x3_8]; decide)
                    have n3_8 : ((bs (fx (c.T k))).toList == [45, 45]) = true := gl_true (by rw [bs_list, x3_8])
                    have Q3_8_0 : Hid (prefixes.contains (fx (c.T k)) = false) := by show _ = _; rw [x3_8]; rfl
                    have Q3_8_1 : Hid (steps.contains (fx (c.T k)) = true) := by show _ = _; rw [x3_8]; rfl
                    have hlt : k < c.ts.length := fx_in G4.out.1.le (by rw [x3_8]; decide)
                    clear x3_0 x3_1 x3_2 x3_3 x3_4 x3_5 x3_6 x3_7 x3_8
                    have o1_0 := B5.out.c0
                    have o1_1 := B5.out.c1
                    have o1_2 := B5.out.c2
                    have o1_3 := B5.out.c3
                    have ac1 := G4.out.1.c1
                    have af1 := G4.out.1.fz 1
                    go_wp2_with fail
                    clear o1_0 o1_1 o1_2 o1_3 ac1 af1
                    have hG : Go1 c w3 (w3.setCell ⟨c.b, 1, none⟩ (.int .i64 ((k : Int) + 1))) (k + 1) := ⟨G4.out.1.next (j := k + 1) (by omega), (Off.refl _ _).set 1 _⟩
                    have G105 : Hid (Go1 c w (w3.setCell ⟨c.b, 1, none⟩ (.int .i64 ((k : Int) + 1))) (k + 1)) := ⟨hG.1, G4.out.2.trans hG.2⟩
                    have B106 := Lib.hid (B5.out.off hG.2 (by omega))
                    clear hG
                    have hz104 : (w3.setCell ⟨c.b, 1, none⟩ (.int .i64 ((k : Int) + 1))).heap.size = w3.heap.size := by simp [World.setCell]
                    generalize w3.setCell ⟨c.b, 1, none⟩ (.int .i64 ((k : Int) + 1)) = u104 at *
                    refine (IHU.out (k + 1) (by omega) _ G105.out.1).mono ?_; rintro e w107 ⟨r, hD, hr⟩
                    rcases r with p | ⟨t107, R1⟩
                    · obtain ⟨rfl, hO⟩ := hr
                      have HO := Lib.hid (G105.out.2.trans hO)
                      have D107 := Lib.hid hD
                      clear hD hO
                      unfold sflt
                      go_wp2_with fail
                      exact bodyPost_panic rfl (post_err (show D c.E .unary (c.R k) (.error p) from D.mk1 D107.out fun m h0 => by simp only [body, R_hd, Bool.false_eq_true, if_false, if_true, R_tail, bnd, Q3_8_0.out, Q3_8_1.out, h0]) rfl HO.out)
                    · obtain ⟨j107, vv, rfl, hj107, rfl, hG, hT⟩ := hr
                      obtain ⟨v107, rfl⟩ := hT.ptr
                      have G108 : Hid (Go1 c w w107 j107) := ⟨hG.1, G105.out.2.trans hG.2⟩
                      have B109 := Lib.hid (B106.out.off hG.2 (by omega))
                      have T107 := Lib.hid (hT.lower G105.out.2.size)
                      have D107 := Lib.hid hD
                      clear hD hG hT
                      have o1_0 := B109.out.c0
                      have o1_1 := B109.out.c1
                      have o1_2 := B109.out.c2
                      have o1_3 := B109.out.c3
                      go_wp2_with fail
                      clear o1_0 o1_1 o1_2 o1_3
                      cases hq : targetB t107
                      · refine (target_no _ _ _ _ (c.T k) T107.out hq).mono ?_; rintro e w110 ⟨rfl, hB⟩
                        have HO := Lib.hid (G108.out.2.below hB)
                        have Q110 := Lib.hid hq
                        clear hB hq
                        unfold sflt
                        go_wp2_with fail
                        exact bodyPost_panic rfl (post_err (show D c.E .unary (c.R k) (.error (c.T k).pos) from D.mk1 D107.out fun m h0 => by simp only [body, R_hd, Bool.false_eq_true, if_false, if_true, R_tail, bnd, bad, Q3_8_0.out, Q3_8_1.out, Q110.out, h0]) rfl HO.out)
                      · refine (target_yes _ _ _ _ (c.T k) T107.out hq).mono ?_; rintro e w110 ⟨rfl, hB⟩
                        have G111 : Hid (Go1 c w w110 j107) := ⟨G108.out.1.below hB, G108.out.2.below hB⟩
                        have B112 := Lib.hid (B109.out.stay hB)
                        have T113 := Lib.hid (T107.out.stay hB)
                        have Q110 := Lib.hid hq
                        clear hB hq
                        have o1_0 := B112.out.c0
                        have o1_1 := B112.out.c1
                        have o1_2 := B112.out.c2
                        have o1_3 := B112.out.c3
                        go_wp2_with fail
                        clear o1_0 o1_1 o1_2 o1_3
                        refine (newNode_any _ _ _ _ _ _).mono ?_; rintro e w114 hm
                        obtain ⟨a114, rfl, hT, hB⟩ := node_kids (k := 37) (x := (c.T k).text) (vs := [(.pointer (some ⟨v107, 0, none⟩))]) (kids := [t107]) (IsTs.cons T113.out (IsTs.nil _ _)) G111.out.2.size hm
                        have G115 : Hid (Go1 c w w114 j107) := ⟨G111.out.1.below hB, G111.out.2.below hB⟩
                        have B116 := Lib.hid (B112.out.stay hB)
                        have T117 := Lib.hid (T113.out.stay hB)
                        have T114 := Lib.hid hT
                        clear hT hB hm
                        have o1_0 := B116.out.c0
                        have o1_1 := B116.out.c1
                        have o1_2 := B116.out.c2
                        have o1_3 := B116.out.c3
                        go_wp2_with fail
                        clear o1_0 o1_1 o1_2 o1_3
                        go_ret
                        exact post_ok (show D c.E .unary (c.R k) (.ok ((nd 37 (c.T k).text [t107]), c.R j107)) from D.mk1 D107.out fun m h0 => by simp only [body, R_hd, Bool.false_eq_true, if_false, if_true, R_tail, bnd, ret, Q3_8_0.out, Q3_8_1.out, Q110.out, h0]) (by omega) rfl G115.out.1 G115.out.2 T114.out
                  · have n3_0 : ((bs (fx (c.T k))).toList == [100, 101, 108, 101, 116, 101]) = false := gl_false (by rw [bs_list]; exact x3_0)
                    have n3_1 : ((bs (fx (c.T k))).toList == [118, 111, 105, 100]) = false := gl_false (by rw [bs_list]; exact x3_1)
                    have n3_2 : ((bs (fx (c.T k))).toList == [116, 121, 112, 101, 111, 102]) = false := gl_false (by rw [bs_list]; exact x3_2)
                    have n3_3 : ((bs (fx (c.T k))).toList == [43]) = false := gl_false (by rw [bs_list]; exact x3_3)
                    have n3_4 : ((bs (fx (c.T k))).toList == [45]) = false := gl_false (by rw [bs_list]; exact x3_4)
                    have n3_5 : ((bs (fx (c.T k))).toList == [126]) = false := gl_false (by rw [bs_list]; exact x3_5)
                    have n3_6 : ((bs (fx (c.T k))).toList == [33]) = false := gl_false (by rw [bs_list]; exact x3_6)
                    have n3_7 : ((bs (fx (c.T k))).toList == [43, 43]) = false := gl_false (by rw [bs_list]; exact x3_7)
                    have n3_8 : ((bs (fx (c.T k))).toList == [45, 45]) = false := gl_false (by rw [bs_list]; exact x3_8)
                    have Q3_d_0 : Hid (prefixes.contains (fx (c.T k)) = false) := by show _ = _; simp [prefixes, x3_0, x3_1, x3_2, x3_3, x3_4, x3_5, x3_6]
                    have Q3_d_1 : Hid (steps.contains (fx (c.T k)) = false) := by show _ = _; simp [steps, x3_7, x3_8]
                    clear x3_0 x3_1 x3_2 x3_3 x3_4 x3_5 x3_6 x3_7 x3_8
                    have o1_0 := B5.out.c0
                    have o1_1 := B5.out.c1
                    have o1_2 := B5.out.c2
                    have o1_3 := B5.out.c3
                    go_wp2_with fail
                    clear o1_0 o1_1 o1_2 o1_3
                    refine (IHP.out _ G4.out.1).mono ?_; rintro e w118 ⟨r, hD, hr⟩
                    rcases r with p | ⟨t118, R1⟩
                    · obtain ⟨rfl, hO⟩ := hr
                      have HO := Lib.hid (G4.out.2.trans hO)
                      have D118 := Lib.hid hD
                      clear hD hO
                      unfold sflt
                      go_wp2_with fail
                      exact bodyPost_panic rfl (post_err (show D c.E .unary (c.R k) (.error p) from D.mk1 D118.out fun m h0 => by simp only [body, R_hd, Bool.false_eq_true, if_false, Q3_d_0.out, Q3_d_1.out, h0]) rfl HO.out)
                    · obtain ⟨j118, v118, rfl, hj118, rfl, hG, hT⟩ := hr
                      have G119 : Hid (Go1 c w w118 j118) := ⟨hG.1, G4.out.2.trans hG.2⟩
                      have B120 := Lib.hid (B5.out.off hG.2 (by omega))
                      have T118 := Lib.hid (hT.lower G4.out.2.size)
                      have D118 := Lib.hid hD
                      clear hD hG hT
                      go_wp2_with fail
                      go_ret
                      exact post_ok (show D c.E .unary (c.R k) (.ok (t118, c.R j118)) from D.mk1 D118.out fun m h0 => by simp only [body, R_hd, Bool.false_eq_true, if_false, Q3_d_0.out, Q3_d_1.out, h0]) (by omega) rfl G119.out.1 G119.out.2 T118.out
set_option maxRecDepth 100000 in
set_option maxHeartbeats 1000000 in
theorem postfix_any (c : Cx) (k : Nat) (ihm : Ok c .member 251 #[c.p] k) : Ok c .postfx 247 #[c.p] k := by
  intro w h
  have hbl := h.lt
  have hfew := h.ok.few
  have G0 : Hid (Go1 c w w k) := ⟨h, Off.refl _ _⟩
  have IHM := Lib.hid ihm
  clear h ihm
  have HG0 : Hid (c.g < w.heap.size ∧ c.b < w.heap.size ∧ c.w0.heap.size ≤ w.heap.size) := ⟨G0.out.1.ltg, G0.out.1.lt, G0.out.1.base.size⟩
  go_enter Tryz.func247, Tryz.ntmps247
  go_wp2_with fail
  refine (IHM.out _ G0.out.1).mono ?_; rintro e w1 ⟨r, hD, hr⟩
  rcases r with p | ⟨t1, R1⟩
  · obtain ⟨rfl, hO⟩ := hr
    have HO := Lib.hid (G0.out.2.trans hO)
    have D1 := Lib.hid hD
    clear hD hO
    unfold sflt
    go_wp2_with fail
    exact bodyPost_panic rfl (post_err (show D c.E .postfx (c.R k) (.error p) from D.mk1 D1.out fun m h0 => by simp only [body, bnd, h0]) rfl HO.out)
  · obtain ⟨j1, vv, rfl, hj1, rfl, hG, hT⟩ := hr
    obtain ⟨v1, rfl⟩ := hT.ptr
    have G2 : Hid (Go1 c w w1 j1) := ⟨hG.1, G0.out.2.trans hG.2⟩
    have T1 := Lib.hid (hT.lower G0.out.2.size)
    have D1 := Lib.hid hD
    clear hD hG hT
    go_wp2_with fail
    cases hq : isF c.E [43, 43] (c.R j1)
    · refine (is_at c j1 ⟨#[43, 43]⟩ _ G2.out.1 hq).mono ?_; rintro e w3 ⟨rfl, hB⟩
      have G4 : Hid (Go1 c w w3 j1) := ⟨G2.out.1.below hB, G2.out.2.below hB⟩
      have T5 := Lib.hid (T1.out.stay hB)
      have Q3 := Lib.hid hq
      clear hB hq
      go_wp2_with fail
      cases hq : isF c.E [45, 45] (c.R j1)
      · refine (is_at c j1 ⟨#[45, 45]⟩ _ G4.out.1 hq).mono ?_; rintro e w6 ⟨rfl, hB⟩
        have G7 : Hid (Go1 c w w6 j1) := ⟨G4.out.1.below hB, G4.out.2.below hB⟩
        have T8 := Lib.hid (T5.out.stay hB)
        have Q6 := Lib.hid hq
        clear hB hq
        go_wp2_with fail
        have Q9 : Hid (steps.contains (fx (c.T j1)) = false) := by
          have a := Q3.out
          have b := Q6.out
          rw [isF_T] at a b
          show _ = _
          simp only [steps, List.contains_cons, List.contains_nil, a, b, Bool.or_false]
        go_ret
        exact post_ok (show D c.E .postfx (c.R k) (.ok (t1, c.R j1)) from D.mk1 D1.out fun m h0 => by simp only [body, bnd, R_hd, Bool.false_eq_true, if_false, ret, Q9.out, h0]) (by omega) rfl G7.out.1 G7.out.2 T8.out
      · refine (is_at c j1 ⟨#[45, 45]⟩ _ G4.out.1 hq).mono ?_; rintro e w6 ⟨rfl, hB⟩
        have G10 : Hid (Go1 c w w6 j1) := ⟨G4.out.1.below hB, G4.out.2.below hB⟩
        have T11 := Lib.hid (T5.out.stay hB)
        have Q6 := Lib.hid hq
        clear hB hq
        go_wp2_with fail
        have Q12 : Hid (steps.contains (fx (c.T j1)) = true) := by
          have a := Q6.out
          rw [isF_T, beq_iff_eq] at a
          show _ = _
          rw [a]; rfl
        have hlt : j1 < c.ts.length := fx_in G10.out.1.le fun e => by have h := Q12.out; rw [e] at h; exact absurd h (by decide)
        refine (stoken_agg c j1 _ G10.out.1).mono ?_; rintro e w13 ⟨rfl, hB⟩
        have hB2 := hB.alloc hB.size (.cells #[.int .i64 (c.T j1).kind, .int .i64 (c.T j1).pos, .string (bs (c.T j1).text), .int .u64 (c.T j1).bits] 42)
        have G14 : Hid (Go1 c w (w13.alloc (.cells #[.int .i64 (c.T j1).kind, .int .i64 (c.T j1).pos, .string (bs (c.T j1).text), .int .u64 (c.T j1).bits] 42)) j1) := ⟨G10.out.1.below hB2, G10.out.2.below hB2⟩
        have T15 := Lib.hid (T11.out.stay hB2)
        have B13 : Hid (B4 (w13.alloc (.cells #[.int .i64 (c.T j1).kind, .int .i64 (c.T j1).pos, .string (bs (c.T j1).text), .int .u64 (c.T j1).bits] 42)) w13.heap.size (.int .i64 (c.T j1).kind) (.int .i64 (c.T j1).pos) (.string (bs (c.T j1).text)) (.int .u64 (c.T j1).bits)) := B4.new w13 _ _ _ _
        have lb13 : c.b < w13.heap.size := Nat.lt_of_lt_of_le G10.out.1.lt hB.size
        clear hB hB2
        go_wp2_with fail
        generalize w13.alloc (.cells #[.int .i64 (c.T j1).kind, .int .i64 (c.T j1).pos, .string (bs (c.T j1).text), .int .u64 (c.T j1).bits] 42) = u13 at *
        cases hq : targetB t1
        · refine (target_no _ _ _ _ (c.T j1) T15.out hq).mono ?_; rintro e w16 ⟨rfl, hB⟩
          have HO := Lib.hid (G14.out.2.below hB)
          have Q16 := Lib.hid hq
          clear hB hq
          unfold sflt
          go_wp2_with fail
          exact bodyPost_panic rfl (post_err (show D c.E .postfx (c.R k) (.error (c.T j1).pos) from D.mk1 D1.out fun m h0 => by simp only [body, bnd, R_hd, if_true, Bool.false_eq_true, if_false, bad, Q12.out, Q16.out, h0]) rfl HO.out)
        · refine (target_yes _ _ _ _ (c.T j1) T15.out hq).mono ?_; rintro e w16 ⟨rfl, hB⟩
          have G17 : Hid (Go1 c w w16 j1) := ⟨G14.out.1.below hB, G14.out.2.below hB⟩
          have B18 := Lib.hid (B13.out.stay hB)
          have T19 := Lib.hid (T15.out.stay hB)
          have Q16 := Lib.hid hq
          clear hB hq
          have o13_0 := B18.out.c0
          have o13_1 := B18.out.c1
          have o13_2 := B18.out.c2
          have o13_3 := B18.out.c3
          have ac1 := G17.out.1.c1
          have af1 := G17.out.1.fz 1
          go_wp2_with fail
          clear o13_0 o13_1 o13_2 o13_3 ac1 af1
          have hG : Go1 c w16 (w16.setCell ⟨c.b, 1, none⟩ (.int .i64 ((j1 : Int) + 1))) (j1 + 1) := ⟨G17.out.1.next (j := j1 + 1) (by omega), (Off.refl _ _).set 1 _⟩
          have G21 : Hid (Go1 c w (w16.setCell ⟨c.b, 1, none⟩ (.int .i64 ((j1 : Int) + 1))) (j1 + 1)) := ⟨hG.1, G17.out.2.trans hG.2⟩
          have B22 := Lib.hid (B18.out.off hG.2 (by omega))
          have T23 := Lib.hid (T19.out.off hG.2 hbl)
          clear hG
          have hz20 : (w16.setCell ⟨c.b, 1, none⟩ (.int .i64 ((j1 : Int) + 1))).heap.size = w16.heap.size := by simp [World.setCell]
          generalize w16.setCell ⟨c.b, 1, none⟩ (.int .i64 ((j1 : Int) + 1)) = u20 at *
          refine (newNode_any _ _ _ _ _ _).mono ?_; rintro e w24 hm
          rw [← hz20] at hm
          obtain ⟨a24, rfl, hH, hB⟩ := node_parts (k := 37) (x := (c.T j1).text) (vs := [(.pointer (some ⟨v1, 0, none⟩))]) (kids := [t1]) (IsTs.cons T23.out (IsTs.nil _ _)) G21.out.2.size hm
          have G25 : Hid (Go1 c w w24 (j1 + 1)) := ⟨G21.out.1.below hB, G21.out.2.below hB⟩
          have HH := Lib.hid hH
          have bc2 := hH.c2
          have bf2 := hH.fz
          clear hH hB hm
          go_wp2_with fail
          go_ret
          have HG := G25.out.set (p := ⟨a24, 2, none⟩) HH.out.lo HG0.out.1 HG0.out.2.1 HG0.out.2.2 (.int .u64 1)
          exact post_ok (show D c.E .postfx (c.R k) (.ok ((.node 37 (c.T j1).text 1 [t1]), c.R (j1 + 1))) from D.mk1 D1.out fun m h0 => by simp only [body, bnd, R_hd, if_true, R_tail, ret, Q12.out, Q16.out, h0]) (by omega) rfl HG.1 HG.2 HH.out.bits
    · refine (is_at c j1 ⟨#[43, 43]⟩ _ G2.out.1 hq).mono ?_; rintro e w3 ⟨rfl, hB⟩
      have G26 : Hid (Go1 c w w3 j1) := ⟨G2.out.1.below hB, G2.out.2.below hB⟩
      have T27 := Lib.hid (T1.out.stay hB)
      have Q3 := Lib.hid hq
      clear hB hq
      go_wp2_with fail
      have Q28 : Hid (steps.contains (fx (c.T j1)) = true) := by
        have a := Q3.out
        rw [isF_T, beq_iff_eq] at a
        show _ = _
        rw [a]; rfl
      have hlt : j1 < c.ts.length := fx_in G26.out.1.le fun e => by have h := Q28.out; rw [e] at h; exact absurd h (by decide)
      refine (stoken_agg c j1 _ G26.out.1).mono ?_; rintro e w29 ⟨rfl, hB⟩
      have hB2 := hB.alloc hB.size (.cells #[.int .i64 (c.T j1).kind, .int .i64 (c.T j1).pos, .string (bs (c.T j1).text), .int .u64 (c.T j1).bits] 42)
      have G30 : Hid (Go1 c w (w29.alloc (.cells #[.int .i64 (c.T j1).kind, .int .i64 (c.T j1).pos, .string (bs (c.T j1).text), .int .u64 (c.T j1).bits] 42)) j1) := ⟨G26.out.1.below hB2, G26.out.2.below hB2⟩
      have T31 := Lib.hid (T27.out.stay hB2)
      have B29 : Hid (B4 (w29.alloc (.cells #[.int .i64 (c.T j1).kind, .int .i64 (c.T j1).pos, .string (bs (c.T j1).text), .int .u64 (c.T j1).bits] 42)) w29.heap.size (.int .i64 (c.T j1).kind) (.int .i64 (c.T j1).pos) (.string (bs (c.T j1).text)) (.int .u64 (c.T j1).bits)) := B4.new w29 _ _ _ _
      have lb29 : c.b < w29.heap.size := Nat.lt_of_lt_of_le G26.out.1.lt hB.size
      clear hB hB2
      go_wp2_with fail
      generalize w29.alloc (.cells #[.int .i64 (c.T j1).kind, .int .i64 (c.T j1).pos, .string (bs (c.T j1).text), .int .u64 (c.T j1).bits] 42) = u29 at *
      cases hq : targetB t1
      · refine (target_no _ _ _ _ (c.T j1) T31.out hq).mono ?_; rintro e w32 ⟨rfl, hB⟩
        have HO := Lib.hid (G30.out.2.below hB)
        have Q32 := Lib.hid hq
        clear hB hq
        unfold sflt
        go_wp2_with fail
        exact bodyPost_panic rfl (post_err (show D c.E .postfx (c.R k) (.error (c.T j1).pos) from D.mk1 D1.out fun m h0 => by simp only [body, bnd, R_hd, if_true, Bool.false_eq_true, if_false, bad, Q28.out, Q32.out, h0]) rfl HO.out)
      · refine (target_yes _ _ _ _ (c.T j1) T31.out hq).mono ?_; rintro e w32 ⟨rfl, hB⟩
        have G33 : Hid (Go1 c w w32 j1) := ⟨G30.out.1.below hB, G30.out.2.below hB⟩
        have B34 := Lib.hid (B29.out.stay hB)
        have T35 := Lib.hid (T31.out.stay hB)
        have Q32 := Lib.hid hq
        clear hB hq
        have o29_0 := B34.out.c0
        have o29_1 := B34.out.c1
        have o29_2 := B34.out.c2
        have o29_3 := B34.out.c3
        have ac1 := G33.out.1.c1
        have af1 := G33.out.1.fz 1
        go_wp2_with fail
        clear o29_0 o29_1 o29_2 o29_3 ac1 af1
        have hG : Go1 c w32 (w32.setCell ⟨c.b, 1, none⟩ (.int .i64 ((j1 : Int) + 1))) (j1 + 1) := ⟨G33.out.1.next (j := j1 + 1) (by omega), (Off.refl _ _).set 1 _⟩
        have G37 : Hid (Go1 c w (w32.setCell ⟨c.b, 1, none⟩ (.int .i64 ((j1 : Int) + 1))) (j1 + 1)) := ⟨hG.1, G33.out.2.trans hG.2⟩
        have B38 := Lib.hid (B34.out.off hG.2 (by omega))
        have T39 := Lib.hid (T35.out.off hG.2 hbl)
        clear hG
        have hz36 : (w32.setCell ⟨c.b, 1, none⟩ (.int .i64 ((j1 : Int) + 1))).heap.size = w32.heap.size := by simp [World.setCell]
        generalize w32.setCell ⟨c.b, 1, none⟩ (.int .i64 ((j1 : Int) + 1)) = u36 at *
        refine (newNode_any _ _ _ _ _ _).mono ?_; rintro e w40 hm
        rw [← hz36] at hm
        obtain ⟨a40, rfl, hH, hB⟩ := node_parts (k := 37) (x := (c.T j1).text) (vs := [(.pointer (some ⟨v1, 0, none⟩))]) (kids := [t1]) (IsTs.cons T39.out (IsTs.nil _ _)) G37.out.2.size hm
        have G41 : Hid (Go1 c w w40 (j1 + 1)) := ⟨G37.out.1.below hB, G37.out.2.below hB⟩
        have HH := Lib.hid hH
        have bc2 := hH.c2
        have bf2 := hH.fz
        clear hH hB hm
        go_wp2_with fail
        go_ret
        have HG := G41.out.set (p := ⟨a40, 2, none⟩) HH.out.lo HG0.out.1 HG0.out.2.1 HG0.out.2.2 (.int .u64 1)
        exact post_ok (show D c.E .postfx (c.R k) (.ok ((.node 37 (c.T j1).text 1 [t1]), c.R (j1 + 1))) from D.mk1 D1.out fun m h0 => by simp only [body, bnd, R_hd, if_true, R_tail, ret, Q28.out, Q32.out, h0]) (by omega) rfl HG.1 HG.2 HH.out.bits
set_option maxRecDepth 100000 in
set_option maxHeartbeats 1000000 in
theorem binary_any (c : Cx) (k : Nat) (least : Int) (hl1 : 1 ≤ least) (hl2 : least ≤ 11) (ihu : Ok c .unary 241 #[c.p] k) (ihb : ∀ j, k < j → ∀ l : Int, 1 ≤ l → l ≤ 11 → Ok c (.binary l) 230 #[c.p, .int .i64 l] j) : Ok c (.binary least) 230 #[c.p, .int .i64 least] k := by
  intro w h
  have hbl := h.lt
  have hfew := h.ok.few
  have G0 : Hid (Go1 c w w k) := ⟨h, Off.refl _ _⟩
  have IHU := Lib.hid ihu
  have IHB := Lib.hid ihb
  clear h ihb ihu
  go_enter Tryz.func230, Tryz.ntmps230
  go_wp2_with fail
  refine (IHU.out _ G0.out.1).mono ?_; rintro e w1 ⟨r, hD, hr⟩
  rcases r with p | ⟨t1, R1⟩
  · obtain ⟨rfl, hO⟩ := hr
    have HO := Lib.hid (G0.out.2.trans hO)
    have D1 := Lib.hid hD
    clear hD hO
    unfold sflt
    go_wp2_with fail
    exact bodyPost_panic rfl (post_err (show D c.E (.binary least) (c.R k) (.error p) from D.mk1 D1.out fun m h0 => by simp only [body, bnd, h0]) rfl HO.out)
  · obtain ⟨j1, vv, rfl, hj1, rfl, hG, hT⟩ := hr
    obtain ⟨v1, rfl⟩ := hT.ptr
    have G2 : Hid (Go1 c w w1 j1) := ⟨hG.1, G0.out.2.trans hG.2⟩
    have T1 := Lib.hid (hT.lower G0.out.2.size)
    have D1 := Lib.hid hD
    clear hD hG hT
    go_wp2_with fail
    have DC : Hid (∀ r, D c.E (.binMore least t1) (c.R j1) r → D c.E (.binary least) (c.R k) r) := fun r h => D.mk2 D1.out h fun m h0 h1 => by simp only [body, bnd, h0, h1]
    go_loopg [5] (c.ts.length - j1) (fun g xx wr => ∃ (kj a : Nat) (t : Tr), xx = .pointer (some ⟨a, 0, none⟩) ∧ g = c.ts.length - kj ∧ k < kj ∧ Hid (Go1 c w wr kj) ∧ Hid (IsT wr (F w.heap.size wr.heap.size) (.pointer (some ⟨a, 0, none⟩)) t) ∧ Hid (∀ r, D c.E (.binMore least t) (c.R kj) r → D c.E (.binary least) (c.R k) r))
    case atStart => exact ⟨j1, _, _, rfl, rfl, by omega, G2.out, T1.out, DC.out⟩
    case round =>
      obtain ⟨kj, aL, tL, rfl, rfl, hkj, GL, TL, DL⟩ := hrel
      go_wp2_with fail
      refine (fixed_any c kj _ GL.out.1).mono ?_; rintro e w3 ⟨rfl, hB⟩
      have G4 : Hid (Go1 c w w3 kj) := ⟨GL.out.1.below hB, GL.out.2.below hB⟩
      have T5 := Lib.hid (TL.out.stay hB)
      clear hB
      go_wp2_with fail
      refine (level_any _ _).mono ?_; rintro e w' ⟨rfl, rfl⟩
      have hlr := level_range (fx (c.T kj))
      have hl0 := hlr.1
      have hl1 := hlr.2
      clear hlr
      by_cases hq : levelI (fx (c.T kj)) < least
      · have Q3 := Lib.hid hq
        go_wp2_with fail
        clear hq
        go_ret
        exact post_ok (show D c.E (.binary least) (c.R k) (.ok (tL, c.R kj)) from DL.out _ (D.mk0 fun m => by simp only [body, R_hd, if_true, ret, Q3.out])) (by omega) rfl G4.out.1 G4.out.2 T5.out
      · have Q3 := Lib.hid (eq_false hq)
        have hlt : kj < c.ts.length := fx_in G4.out.1.le fun e => by rw [e] at hq; exact hq (by show (0 : Int) < least; omega)
        by_cases h2 : levelI (fx (c.T kj)) ≤ 2
        · have Q3k := Lib.hid (eq_true h2)
          have ac1 := G4.out.1.c1
          have af1 := G4.out.1.fz 1
          go_wp2_with fail
          clear ac1 af1
          clear hq h2
          have hG : Go1 c w3 (w3.setCell ⟨c.b, 1, none⟩ (.int .i64 ((kj : Int) + 1))) (kj + 1) := ⟨G4.out.1.next (j := kj + 1) (by omega), (Off.refl _ _).set 1 _⟩
          have G7 : Hid (Go1 c w (w3.setCell ⟨c.b, 1, none⟩ (.int .i64 ((kj : Int) + 1))) (kj + 1)) := ⟨hG.1, G4.out.2.trans hG.2⟩
          have T8 := Lib.hid (T5.out.off hG.2 hbl)
          clear hG
          have hz6 : (w3.setCell ⟨c.b, 1, none⟩ (.int .i64 ((kj : Int) + 1))).heap.size = w3.heap.size := by simp [World.setCell]
          generalize w3.setCell ⟨c.b, 1, none⟩ (.int .i64 ((kj : Int) + 1)) = u6 at *
          refine (IHB.out (kj + 1) (by omega) (levelI (fx (c.T kj)) + 1) (by omega) (by omega) _ G7.out.1).mono ?_; rintro e w9 ⟨r, hD, hr⟩
          rcases r with p | ⟨t9, R1⟩
          · obtain ⟨rfl, hO⟩ := hr
            have HO := Lib.hid (G7.out.2.trans hO)
            have D9 := Lib.hid hD
            clear hD hO
            unfold sflt
            go_wp2_with fail
            exact bodyPost_panic rfl (post_err (show D c.E (.binary least) (c.R k) (.error p) from DL.out _ (D.mk1 D9.out fun m h0 => by simp only [body, R_hd, if_false, R_tail, bnd, Q3.out, h0])) rfl HO.out)
          · obtain ⟨j9, vv, rfl, hj9, rfl, hG, hT⟩ := hr
            obtain ⟨v9, rfl⟩ := hT.ptr
            have G10 : Hid (Go1 c w w9 j9) := ⟨hG.1, G7.out.2.trans hG.2⟩
            have T11 := Lib.hid (T8.out.off hG.2 hbl)
            have T9 := Lib.hid (hT.lower G7.out.2.size)
            have D9 := Lib.hid hD
            clear hD hG hT
            go_wp2_with fail
            refine (newNode_any _ _ _ _ _ _).mono ?_; rintro e w12 hm
            obtain ⟨a12, rfl, hT, hB⟩ := node_kids (k := 39) (x := (fx (c.T kj))) (vs := [(.pointer (some ⟨aL, 0, none⟩)), (.pointer (some ⟨v9, 0, none⟩))]) (kids := [tL, t9]) (IsTs.cons T11.out (IsTs.cons T9.out (IsTs.nil _ _))) G10.out.2.size hm
            have G13 : Hid (Go1 c w w12 j9) := ⟨G10.out.1.below hB, G10.out.2.below hB⟩
            have T14 := Lib.hid (T11.out.stay hB)
            have T15 := Lib.hid (T9.out.stay hB)
            have T12 := Lib.hid hT
            clear hT hB hm
            go_wp2_with fail
            have hle := G13.out.1.le
            go_roundg (c.ts.length - j9)
            case measure => omega
            case rel => exact ⟨j9, _, _, rfl, rfl, by omega, G13.out, T12.out, fun r h => DL.out r (D.mk2 D9.out h fun m h0 h1 => by simp only [body, R_hd, if_false, R_tail, bnd, if_true, Q3.out, Q3k.out, h0, h1])⟩
        · have Q3k := Lib.hid (eq_false h2)
          have ac1 := G4.out.1.c1
          have af1 := G4.out.1.fz 1
          go_wp2_with fail
          clear ac1 af1
          clear hq h2
          have hG : Go1 c w3 (w3.setCell ⟨c.b, 1, none⟩ (.int .i64 ((kj : Int) + 1))) (kj + 1) := ⟨G4.out.1.next (j := kj + 1) (by omega), (Off.refl _ _).set 1 _⟩
          have G17 : Hid (Go1 c w (w3.setCell ⟨c.b, 1, none⟩ (.int .i64 ((kj : Int) + 1))) (kj + 1)) := ⟨hG.1, G4.out.2.trans hG.2⟩
          have T18 := Lib.hid (T5.out.off hG.2 hbl)
          clear hG
          have hz16 : (w3.setCell ⟨c.b, 1, none⟩ (.int .i64 ((kj : Int) + 1))).heap.size = w3.heap.size := by simp [World.setCell]
          generalize w3.setCell ⟨c.b, 1, none⟩ (.int .i64 ((kj : Int) + 1)) = u16 at *
          refine (IHB.out (kj + 1) (by omega) (levelI (fx (c.T kj)) + 1) (by omega) (by omega) _ G17.out.1).mono ?_; rintro e w19 ⟨r, hD, hr⟩
          rcases r with p | ⟨t19, R1⟩
          · obtain ⟨rfl, hO⟩ := hr
            have HO := Lib.hid (G17.out.2.trans hO)
            have D19 := Lib.hid hD
            clear hD hO
            unfold sflt
            go_wp2_with fail
            exact bodyPost_panic rfl (post_err (show D c.E (.binary least) (c.R k) (.error p) from DL.out _ (D.mk1 D19.out fun m h0 => by simp only [body, R_hd, if_false, R_tail, bnd, Q3.out, h0])) rfl HO.out)
          · obtain ⟨j19, vv, rfl, hj19, rfl, hG, hT⟩ := hr
            obtain ⟨v19, rfl⟩ := hT.ptr
            have G20 : Hid (Go1 c w w19 j19) := ⟨hG.1, G17.out.2.trans hG.2⟩
            have T21 := Lib.hid (T18.out.off hG.2 hbl)
            have T19 := Lib.hid (hT.lower G17.out.2.size)
            have D19 := Lib.hid hD
            clear hD hG hT
            go_wp2_with fail
            refine (newNode_any _ _ _ _ _ _).mono ?_; rintro e w22 hm
            obtain ⟨a22, rfl, hT, hB⟩ := node_kids (k := 38) (x := (fx (c.T kj))) (vs := [(.pointer (some ⟨aL, 0, none⟩)), (.pointer (some ⟨v19, 0, none⟩))]) (kids := [tL, t19]) (IsTs.cons T21.out (IsTs.cons T19.out (IsTs.nil _ _))) G20.out.2.size hm
            have G23 : Hid (Go1 c w w22 j19) := ⟨G20.out.1.below hB, G20.out.2.below hB⟩
            have T24 := Lib.hid (T21.out.stay hB)
            have T25 := Lib.hid (T19.out.stay hB)
            have T22 := Lib.hid hT
            clear hT hB hm
            go_wp2_with fail
            have hle := G23.out.1.le
            go_roundg (c.ts.length - j19)
            case measure => omega
            case rel => exact ⟨j19, _, _, rfl, rfl, by omega, G23.out, T22.out, fun r h => DL.out r (D.mk2 D19.out h fun m h0 h1 => by simp only [body, R_hd, if_false, R_tail, bnd, Q3.out, Q3k.out, h0, h1])⟩
end Go.Proofs.YtnkfodelgpidkaaGreatDoor
