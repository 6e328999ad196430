/- Height and Kids, of any list of nodes that stands in memory. -/
import Derived.Test.YtnkfodelgpidkaaGreatDoorHt
import Derived.WalkSmall
import Derived.OwnWalk
import Derived.Deep.LoopGhost
namespace Go.Proofs.YtnkfodelgpidkaaGreatDoor
open Go.RowKit
set_option linter.unusedVariables false
set_option linter.unusedSimpArgs false

theorem info_int : (Tryz.prog.info? 3).map (fun i => (i.zero, i.size, i.bytes)) = some (some (.int .i64 0), 1, 8) := by kernel_rfl
/-- A node as a value. -/
def LN.val (l : LN) : Value := .agg #[.int .i64 l.kind, .int .i64 (l.n : Int), .int .i64 (l.size : Int), .string (bs l.text), .int .u64 l.bits]
/-- A list of nodes, to be read. -/
def NRow (w : World) (v : Value) (L : List LN) : Prop :=
  (L = [] ∧ ∃ ao cap, v = .slice ao 0 cap) ∨ ∃ g cap, g < w.heap.size ∧ v = .slice (some ⟨g, 0, none⟩) L.length cap ∧ ∀ (i : Nat) (h : i < L.length), w.cell? ⟨g, i * 5, none⟩ = some (.int .i64 L[i].kind) ∧ w.cell? ⟨g, i * 5 + 1, none⟩ = some (.int .i64 (L[i].n : Int)) ∧ w.cell? ⟨g, i * 5 + 2, none⟩ = some (.int .i64 (L[i].size : Int)) ∧ w.cell? ⟨g, i * 5 + 3, none⟩ = some (.string (bs L[i].text)) ∧ w.cell? ⟨g, i * 5 + 4, none⟩ = some (.int .u64 L[i].bits)
theorem NRow.below {w w' : World} {v : Value} {L : List LN} (h : NRow w v L) (hb : Below w.heap.size w w') : NRow w' v L := by
  rcases h with h | ⟨g, cap, hg, hv, hc⟩
  · exact .inl h
  · refine .inr ⟨g, cap, Nat.lt_of_lt_of_le hg hb.size, hv, fun i hi => ?_⟩
    obtain ⟨h0, h1, h2, h3, h4⟩ := hc i hi
    exact ⟨(hb.cell (p := ⟨g, _, none⟩) hg).trans h0, (hb.cell (p := ⟨g, _, none⟩) hg).trans h1, (hb.cell (p := ⟨g, _, none⟩) hg).trans h2, (hb.cell (p := ⟨g, _, none⟩) hg).trans h3, (hb.cell (p := ⟨g, _, none⟩) hg).trans h4⟩
theorem NRow.slice {w : World} {v : Value} {L : List LN} (h : NRow w v L) : ∃ ao cap, v = .slice ao L.length cap := by
  rcases h with ⟨rfl, ao, cap, h⟩ | ⟨g, cap, _, h, _⟩
  · exact ⟨ao, cap, h⟩
  · exact ⟨_, cap, h⟩
theorem NRow.get {w : World} {ao : Option Addr} {cap : Nat} {L : List LN} (h : NRow w (.slice ao L.length cap) L) (hl : 0 < L.length) : ∃ g, ao = some ⟨g, 0, none⟩ ∧ g < w.heap.size ∧ ∀ (i : Nat) (h : i < L.length), w.cell? ⟨g, i * 5, none⟩ = some (.int .i64 L[i].kind) ∧ w.cell? ⟨g, i * 5 + 1, none⟩ = some (.int .i64 (L[i].n : Int)) ∧ w.cell? ⟨g, i * 5 + 2, none⟩ = some (.int .i64 (L[i].size : Int)) ∧ w.cell? ⟨g, i * 5 + 3, none⟩ = some (.string (bs L[i].text)) ∧ w.cell? ⟨g, i * 5 + 4, none⟩ = some (.int .u64 L[i].bits) := by
  rcases h with ⟨h, _⟩ | ⟨g, cap', hg, hv, hc⟩
  · rw [h] at hl; exact absurd hl (Nat.lt_irrefl 0)
  · injection hv with h1 _ _
    exact ⟨g, h1, hg, hc⟩
theorem cellsL_at : ∀ (L : List LN) (i k : Nat) (h : i < L.length), k < 5 → (cellsL L)[i * 5 + k]? = (L[i].cells)[k]? := by
  intro L
  induction L with
  | nil => intro i k h; simp at h
  | cons l r ih =>
    intro i k h hk
    have e : cellsL (l :: r) = l.cells ++ cellsL r := by simp [cellsL]
    have h5 : l.cells.length = 5 := rfl
    rw [e]
    cases i with
    | zero => rw [Nat.zero_mul, Nat.zero_add, List.getElem?_append_left (by omega)]; rfl
    | succ i =>
      rw [List.getElem?_append_right (by omega), h5, show (i + 1) * 5 + k - 5 = i * 5 + k by omega, ih i k (by simpa using h) hk]
      rfl
/-- A row of one's own is such a list. -/
theorem NRow.own {w : World} {B : Nat} {v : Value} {L : List LN} (h : w.ownsRow B 33 5 v L.length (cellsL L)) : NRow w v L := by
  obtain ⟨ao, cap, rfl⟩ := own_slice h
  by_cases h0 : L.length = 0
  · exact .inl ⟨List.eq_nil_of_length_eq_zero h0, ao, cap, by rw [h0]⟩
  · obtain ⟨g, cp, hv, hg1, hg2⟩ := h.form (by omega)
    injection hv with hv _ _
    subst hv
    refine .inr ⟨g, cap, hg2, rfl, fun i hi => ?_⟩
    have c := fun k (hk : k < 5) => (h.cellAt (i * 5 + k) (by omega)).trans (cellsL_at L i k hi hk)
    exact ⟨c 0 (by omega), c 1 (by omega), c 2 (by omega), c 3 (by omega), c 4 (by omega)⟩

theorem hpop_len : ∀ (j : Nat) (s : List Nat), s.length ≤ j → (hpop s).length ≤ s.length
  | _, [], _ => by simp [hpop]
  | _, 0 :: [], _ => by simp [hpop]
  | 0, 0 :: y :: q, h => by simp at h
  | j + 1, 0 :: y :: q, h => by
    rw [hpop]
    have := hpop_len j ((y - 1) :: q) (by simp at h ⊢; omega)
    simp at this ⊢; omega
  | _, (x + 1) :: r, _ => by simp [hpop]
theorem hpop_good : ∀ (j : Nat) (s : List Nat), s.length ≤ j → (∀ x ∈ s.tail, 1 ≤ x) → ∀ x ∈ hpop s, 1 ≤ x
  | _, [], _, _ => by simp [hpop]
  | _, 0 :: [], _, _ => by simp [hpop]
  | 0, 0 :: y :: q, h, _ => by simp at h
  | j + 1, 0 :: y :: q, h, hs => by
    rw [hpop]
    exact hpop_good j ((y - 1) :: q) (by simp at h ⊢; omega) (fun x hx => hs x (List.mem_cons_of_mem _ hx))
  | _, (x + 1) :: r, _, hs => by
    rw [hpop]
    intro y hy
    rcases List.mem_cons.1 hy with rfl | hy
    · omega
    · exact hs y hy

/-- The ints that are still to come, as a row: the top one last. -/
def ints (s : List Nat) : List Value := s.reverse.map fun (n : Nat) => Value.int .i64 (n : Int)
theorem ints_cons (x : Nat) (s : List Nat) : ints (x :: s) = ints s ++ [.int .i64 (x : Int)] := by simp [ints]
theorem ints_top {w : World} {B g n cap : Nat} {x : Nat} {r : List Nat} (hn : n = r.length + 1) (h : w.ownsRow B 3 1 (.slice (some ⟨g, 0, none⟩) n cap) n (ints (x :: r))) : w.cell? ⟨g, r.length, none⟩ = some (.int .i64 (x : Int)) := by
  subst hn
  have := h.cellAt r.length (by omega)
  rw [this, ints_cons, List.getElem?_append_right (by simp [ints]), show r.length - (ints r).length = 0 by simp [ints]]; rfl
theorem own_cap {w : World} {B g n cap size : Nat} {e : TypeId} {xs : List Value} (h : w.ownsRow B e size (.slice (some ⟨g, 0, none⟩) n cap) n xs) : n ≤ cap := by
  rcases h.2 with ⟨h1, _⟩ | ⟨g', cap', cur, h1, _, _, h2, _⟩
  · cases h1
  · injection h1 with _ _ h1; omega
theorem ints_set (x u : Nat) (r : List Nat) : (ints (x :: r)).set r.length (.int .i64 (u : Int)) = ints (u :: r) := by
  rw [ints_cons, ints_cons, List.set_append_right _ _ (by simp [ints]), show r.length - (ints r).length = 0 by simp [ints]]; rfl
theorem ints_len (s : List Nat) : (ints s).length = s.length := by simp [ints]
set_option maxRecDepth 100000 in
set_option maxHeartbeats 2000000 in
theorem height_any (w : World) (v : Value) (L : List LN) (h : NRow w v L) (hl : L.length ≤ 100000) (hn : ∀ l ∈ L, l.n < 1000000) :
    Calls Tryz.prog 19 #[v] w fun e w' => e = .returned (.int .i64 ((hrun (L.map LN.n) 0 [] : Nat) : Int)) ∧ Below w.heap.size w w' := by
  obtain ⟨ao, cp, rfl⟩ := h.slice
  have HN := Lib.hid h
  obtain ⟨i0, hi, hz0, hz1', hz2⟩ := info_parts info_int
  have HI := Lib.hid hi
  have HZ0 := Lib.hid hz0
  have HZ1 := Lib.hid hz1'
  have HZ2 := Lib.hid hz2
  have HNN := Lib.hid hn
  clear h hi hz0 hz1' hz2 hn
  obtain ⟨G, hG⟩ : ∃ G : Nat, G = hrun (L.map LN.n) 0 [] := ⟨_, rfl⟩
  rw [← hG]
  have HG := Lib.hid hG
  clear hG
  go_enter Tryz.func19, Tryz.ntmps19
  go_wp2_with fail
  go_loopg [3, 4, 9] L.length (fun g hh ll ii wr => ∃ (i m : Nat) (s : List Nat), hh = .int .i64 (m : Int) ∧ ii = .int .i64 (i : Int) ∧ g = L.length - i ∧ i ≤ L.length ∧ s.length ≤ i ∧ m ≤ i ∧ Hid (∀ x ∈ s, 1 ≤ x ∧ x < 1000000) ∧ Hid (wr.ownsRow w.heap.size 3 1 ll s.length (ints s)) ∧ Hid (Below w.heap.size w wr) ∧ Hid (G = hrun ((L.drop i).map LN.n) m s))
  case atStart => exact ⟨0, 0, [], rfl, rfl, rfl, Nat.zero_le _, Nat.zero_le _, Nat.zero_le _, fun x hx => (by simp at hx), World.ownsRow_nil _ _ _ _, Below.refl _ _, HG.out⟩
  case round =>
    obtain ⟨i, m, s, rfl, rfl, rfl, hi, hsi, hmi, HS, HR, HB, HGG⟩ := hrel
    obtain ⟨ao2, cp2, rfl⟩ := own_slice HR.out
    by_cases hlt : i < L.length
    · have HNB := HN.out.below HB.out
      obtain ⟨g, rfl, hg, hc⟩ := HNB.get (by omega)
      obtain ⟨c0, c1, c2, c3, c4⟩ := hc i hlt
      clear hc HNB
      have hni := HNN.out L[i] (List.getElem_mem hlt)
      have hdr : L.drop i = L[i] :: L.drop (i + 1) := List.drop_eq_getElem_cons hlt
      generalize hq : L[i] = q at *
      obtain ⟨qk, qn, qs, qx, qb⟩ := q
      simp only at c0 c1 c2 c3 c4 hni
      have HDR := Lib.hid hdr
      have HQ := Lib.hid hq
      clear hdr hq
      have hown := HR.out
      have hi := HI.out
      have hz0 := HZ0.out
      have hz1 := HZ1.out
      have hz2 := HZ2.out
      have hsz : w.heap.size ≤ wr.heap.size := HB.out.size
      go_wp2_with (at_builtin; refine wpList_append_own _ rfl _ _ 34 rfl w.heap.size 3 i0 _ 1 8 Tryz.underlying34 hi hz0 hz1 hz2 rfl (by decide) _ _ _ rfl ((hown.alloc _).alloc _) ⟨wr.heap.size + 1, 0, none⟩ 1 1 [.int .i64 (qn : Int)] rfl rfl ?c1 ?c2 ?c3 ?c4 ?c5 ?_)
      case c1 =>
        intro j u hj
        match j, hj with
        | 0, hj => simp at hj; subst hj; simp [Addr.add]
      case c2 => intro u hu; simp at hu; subst hu; rfl
      case c3 => unfold maxLen; omega
      case c4 => omega
      case c5 => simp; omega
      intro v' w3 hown' hgrow _
      have hbel : Below w.heap.size wr w3 := (((Below.refl _ wr).alloc hsz _).alloc (by simp; omega) _).grown hgrow (by simp; omega) (fun k hk => (hown.lt k hk).1)
      have HB3 := Lib.hid (HB.out.trans hbel)
      rw [← ints_cons] at hown'
      have HW3 := Lib.hid hown'
      obtain ⟨ao3, cp3, rfl⟩ := own_slice hown'
      clear hown' hgrow hbel hown hi hz0 hz1 hz2 c0 c1 c2 c3 c4 hg
      have HG3 : Hid (G = hrun ((L.drop (i + 1)).map LN.n) (max m (s.length + 1)) (hpop (qn :: s))) := by
        show _ = _; rw [HGG.out, HDR.out, List.map_cons, hrun]
      have HS3 : Hid (∀ x ∈ (qn :: s), x < 1000000) := fun x hx => by
        rcases List.mem_cons.1 hx with rfl | hx
        · exact hni
        · exact (HS.out x hx).2
      have HS4 : Hid (∀ x ∈ (qn :: s).tail, 1 ≤ x) := fun x hx => (HS.out x hx).1
      clear HGG HR HB HDR HQ hsz
      go_wp2_with fail
      all_goals
        go_loopg [4] (s.length + 1) (fun g2 ll2 wr2 => ∃ (cur : List Nat), g2 = cur.length ∧ cur.length ≤ i + 1 ∧ Hid (∀ x ∈ cur, x < 1000000) ∧ Hid (∀ x ∈ cur.tail, 1 ≤ x) ∧ Hid (wr2.ownsRow w.heap.size 3 1 ll2 cur.length (ints cur)) ∧ Hid (Below w.heap.size w wr2) ∧ Hid (hpop cur = hpop (qn :: s)))
        case atStart => exact ⟨qn :: s, rfl, by simp; omega, HS3.out, HS4.out, HW3.out, HB3.out, rfl⟩
        case round =>
          obtain ⟨cur, rfl, hcl, C3, C4, CW, CB, CP⟩ := hrel
          obtain ⟨ao4, cp4, rfl⟩ := own_slice CW.out
          cases cur with
          | nil =>
            go_wp2_with fail
            go_roundg (L.length - (i + 1))
            case measure => omega
            case rel => exact ⟨i + 1, max m (s.length + 1), [], by congr 1; omega, rfl, rfl, hlt, Nat.zero_le _, by omega, fun x hx => (by simp at hx), CW.out, CB.out, by have := HG3.out; rw [← CP.out, hpop] at this; exact this⟩
          | cons x r =>
            have hx := C3.out x List.mem_cons_self
            obtain ⟨g4, cp5, hv, hg4, hg5⟩ := CW.out.form (by simp)
            injection hv with hv _ hv2
            subst hv; subst hv2
            have cx := ints_top (by simp) CW.out
            rw [List.length_cons] at CW hcl
            cases x with
            | succ x =>
              have hx1 : ¬ ((x : Int) + 1) < 1 := by omega
              go_wp2_with fail
              go_roundg (L.length - (i + 1))
              case measure => omega
              case rel => exact ⟨i + 1, max m (s.length + 1), (x + 1) :: r, by congr 1; omega, rfl, rfl, hlt, by rw [List.length_cons]; omega, by omega, fun y hy => (by rcases List.mem_cons.1 hy with rfl | hy; exact ⟨by omega, hx⟩; exact ⟨C4.out y hy, C3.out y (List.mem_cons_of_mem _ hy)⟩), CW.out, CB.out, by have := HG3.out; rw [← CP.out, hpop] at this; exact this⟩
            | zero =>
              have hcap := own_cap CW.out
              have hpop1 := ownsRow_pop (w := wr) (n := r.length) (xs := ints r) (last := [.int .i64 ((0 : Nat) : Int)]) (by rw [ints_len, Nat.mul_one]) (by rw [← ints_cons]; exact CW.out)
              have HP1 := Lib.hid hpop1
              clear hpop1
              cases r with
              | nil =>
                have hcap0 : (0 : Int) ≤ (cp4 : Int) := by omega
                have hcap1 : ¬ cp4 = 0 := by have h2 : 0 + 1 ≤ cp4 := hcap; omega
                have cx0 : wr.cell? ⟨g4, 0, none⟩ = some (.int .i64 0) := cx
                go_wp2_with fail
                go_roundg 0
                case measure => simp
                case rel => exact ⟨[], rfl, Nat.zero_le _, fun x hx => (by simp at hx), fun x hx => (by simp at hx), HP1.out, CB.out, by have := CP.out; rw [hpop] at this; rw [hpop]; exact this⟩
              | cons y q =>
                have cy := ints_top (by simp) HP1.out
                have fy : wr.frozen? ⟨g4, q.length, none⟩ = false := HP1.out.frozenAt _
                have hy := C4.out y List.mem_cons_self
                have hy2 := C3.out y (List.mem_cons_of_mem _ List.mem_cons_self)
                simp only [List.length_cons] at CW hcl HP1 cx cy hcap
                have hcap0 : (q.length : Int) + 1 ≤ (cp4 : Int) := by omega
                have hcap1 : ¬ cp4 = 0 := by omega
                go_wp2_with fail
                have hst := (HP1.out.stored q.length (.int .i64 ((y - 1 : Nat) : Int))).1
                rw [ints_set, show ((y - 1 : Nat) : Int) = (y : Int) - 1 by omega] at hst
                go_roundg (q.length + 1)
                case measure => omega
                case rel => exact ⟨(y - 1) :: q, rfl, by simp only [List.length_cons]; omega, fun z hz => (by rcases List.mem_cons.1 hz with rfl | hz; omega; exact C3.out z (List.mem_cons_of_mem _ (List.mem_cons_of_mem _ hz))), fun z hz => C4.out z (List.mem_cons_of_mem _ hz), hst, CB.out.setCell hg4 _, by have := CP.out; rw [hpop] at this; exact this⟩
    · go_wp2_with fail
      have he : i = L.length := by omega
      subst he
      have hgg := HGG.out
      rw [List.drop_length, List.map_nil, hrun] at hgg
      subst hgg
      go_ret
      exact ⟨rfl, HB.out⟩
end Go.Proofs.YtnkfodelgpidkaaGreatDoor
