/- A number read, by the document's answer. -/
import Derived.Test.YtmepgpiihhilaaaDoorRtext
import Derived.Test.YtmepgpiihhilaaaDoorWorks
namespace Go.Proofs.YtmepgpiihhilaaaDoor
open Go.RowKit
set_option linter.unusedVariables false

/-- What a byte counts as a digit; 99: none. -/
def rdigB (c : Int) : Int := if 48 ≤ c ∧ c ≤ 57 then c - 48 else if 97 ≤ c ∧ c ≤ 102 then c - 97 + 10 else if 65 ≤ c ∧ c ≤ 70 then c - 65 + 10 else 99
def blankB (c : Int) : Bool := c == 32 || c == 9 || c == 13 || c == 10

theorem rdig_eq (c : Int) : (digB c < 16 ∧ rdigB c = digB c) ∨ (digB c = 16 ∧ rdigB c = 99) := by
  unfold digB rdigB
  split
  · left; omega
  · split
    · left; omega
    · split
      · left; omega
      · right; exact ⟨rfl, rfl⟩

set_option maxHeartbeats 400000 in
theorem rdigit_any (c : Int) (h0 : 0 ≤ c) (h1 : c < 256) (w : World) :
    Calls Tryd.prog 72 #[.int .u8 c] w fun e w' => e = .returned (.int .i64 (rdigB c)) ∧ w = w' := by
  have HD : Hid (rdigB c = if 48 ≤ c ∧ c ≤ 57 then c - 48 else if 97 ≤ c ∧ c ≤ 102 then c - 97 + 10 else if 65 ≤ c ∧ c ≤ 70 then c - 65 + 10 else 99) := rfl
  generalize rdigB c = d at *
  go_enter Tryd.func72, Tryd.ntmps72
  go_wp2
  all_goals
    go_ret
    refine ⟨ret_int ?_, rfl⟩
    rw [HD.out]
    repeat' split
    all_goals first | omega | rfl | (exfalso; omega)

set_option maxHeartbeats 400000 in
theorem rblank_any (c : Int) (h0 : 0 ≤ c) (h1 : c < 256) (w : World) :
    Calls Tryd.prog 71 #[.int .u8 c] w fun e w' => e = .returned (.bool (blankB c)) ∧ w = w' := by
  have HD : Hid (blankB c = (c == 32 || c == 9 || c == 13 || c == 10)) := rfl
  generalize blankB c = d at *
  go_enter Tryd.func71, Tryd.ntmps71
  go_wp2
  all_goals
    go_ret
    refine ⟨ret_bool ?_, rfl⟩
    rw [HD.out]
    try simp_all

theorem fop_step {base : Int} (hb : base = 10 ∨ base = 16) {x : Nat} (hx : good x) {d : Int} (hd : 0 ≤ d) :
    fop .add (fop .mul (x : Int) (ofI base)) (ofI d) = (stepF base x d : Nat) ∧ good (stepF base x d) := by
  obtain ⟨p, f1, f2, f3⟩ := step_good hb hx hd
  obtain ⟨m, e, h1, h2⟩ := base_read hb
  obtain ⟨p', h3, h4⟩ := mul_good hx h1 h2
  have hp : p = p' := Option.some.inj (f1.symm.trans h3)
  have cg : ∀ y : Nat, good y → canon (y : Int) = y := by
    intro y hy
    unfold good at hy
    have : nanB (y : Int) = false := by unfold nanB; exact decide_eq_false (by omega)
    unfold canon; rw [this]; rfl
  refine ⟨?_, f3⟩
  have e1 : fop .mul (x : Int) (ofI base) = (p : Nat) := by
    unfold fop ofI
    rw [Int.toNat_natCast, Int.toNat_natCast, f1]
    exact cg p (hp ▸ h4)
  rw [e1]
  unfold fop ofI
  rw [Int.toNat_natCast, Int.toNat_natCast, f2]
  exact cg _ f3

set_option maxRecDepth 100000 in
set_option maxHeartbeats 1000000 in
theorem reads_any (s : ByteArray) (hs : s.size ≤ 9223372036854775807) (base : Int) (hb : base = 10 ∨ base = 16) (w : World) :
    Calls Tryd.prog 73 #[.string s, .int .i64 base] w fun e w' => e = .returned (.int .u64 (digitsI base s.data.toList)) ∧ Below w.heap.size w w' := by
  have hb1 : 10 ≤ base := by omega
  have hb2 : base ≤ 16 := by omega
  have HB := Lib.hid hb
  clear hb
  by_cases h0 : s.size = 0
  · have hl : s.data.toList = [] := List.eq_nil_of_length_eq_zero (by rw [← Lib.size_eq]; exact h0)
    have HR : Hid (digitsI base s.data.toList = noneB) := by show _ = _; unfold digitsI; rw [if_pos hl]
    have h1 : s.toList.isEmpty = true := by rw [Lib.toList_data, hl]; rfl
    clear hl h0
    go_enter Tryd.func73, Tryd.ntmps73
    go_wp2
    go_ret
    exact ⟨ret_int HR.out.symm, Below.refl _ _⟩
  · have hl : s.data.toList ≠ [] := by
      intro h
      exact h0 (by rw [Lib.size_eq, h]; rfl)
    have h1 : s.toList.isEmpty = false := by rw [Lib.toList_data]; cases hh : s.data.toList with | nil => exact absurd hh hl | cons => rfl
    have HR : Hid (digitsI base s.data.toList = match sumF base s.data.toList 0 with | some x => canon x | none => noneB) := by show _ = _; unfold digitsI; rw [if_neg hl]; rfl
    clear hl h0
    go_enter Tryd.func73, Tryd.ntmps73
    go_wp2
    go_loopw [5, 6] (fun v i wr => ∃ x k : Nat, v = .int .u64 (x : Int) ∧ i = .int .i64 (k : Int) ∧ k ≤ s.size ∧ Hid (good x ∧ sumF base s.data.toList 0 = sumF base (s.data.toList.drop k) x) ∧ Below w.heap.size w wr) (fun _ i _ => s.size - (intOf i).toNat)
    case atStart => exact ⟨0, 0, rfl, rfl, Nat.zero_le _, ⟨good_zero, by rw [List.drop_zero]⟩, Below.refl _ _⟩
    case round =>
      rename_i wr hrel
      obtain ⟨x, k, rfl, rfl, hk, HS, hB⟩ := hrel
      by_cases hlt : k < s.size
      · have hll : k < s.data.toList.length := by rw [← Lib.size_eq]; exact hlt
        have hc0 : (0 : Int) ≤ (s[k].toNat : Int) := Int.natCast_nonneg _
        have hc1 : (s[k].toNat : Int) < 256 := by have := s[k].toNat_lt; omega
        have C := Lib.hid (fun w => rdigit_any (s[k].toNat : Int) hc0 hc1 w)
        have hdl := digB_lo (s[k].toNat : Int)
        have hdrop : s.data.toList.drop k = s[k] :: s.data.toList.drop (k + 1) := drop_cons' hll
        have HN : Hid (sumF base (s.data.toList.drop k) x = if digB (s[k].toNat : Int) < base then sumF base (s.data.toList.drop (k + 1)) (stepF base x (digB (s[k].toNat : Int))) else none) := by
          show _ = _; rw [hdrop, sumF]
        have FSt := Lib.hid (fop_step HB.out HS.out.1 hdl)
        have hre := rdig_eq (s[k].toNat : Int)
        generalize digB (s[k].toNat : Int) = d at *
        generalize rdigB (s[k].toNat : Int) = rd at *
        generalize stepF base x d = y at *
        clear hdrop
        by_cases hlow : d < base
        · have hrd : rd = d := by rcases hre with h | h <;> omega
          subst hrd
          clear hre
          go_wp2_with (first | (go_at_call 72; refine (C.out _).mono ?_; rintro e w' ⟨rfl, rfl⟩) | (go_at_call 41; refine (rof_any _ _).mono ?_; rintro e w' ⟨rfl, rfl⟩) | (go_at_call 20; refine (rmul_any _ _ _).mono ?_; rintro e w2 ⟨rfl, hB2⟩) | (go_at_call 16; refine (radd_any _ _ _).mono ?_; rintro e w3 ⟨rfl, hB3⟩))
          rw [FSt.out.1]
          refine ⟨⟨y, k + 1, rfl, by go_num, by omega, ⟨FSt.out.2, by rw [HS.out.2, HN.out, if_pos hlow]⟩, below_trans (below_trans hB hB2) hB3⟩, by simp [intOf]; omega⟩
        · have hrd : base ≤ rd := by rcases hre with h | h <;> omega
          clear hre
          go_wp2_with (go_at_call 72; refine (C.out _).mono ?_; rintro e w' ⟨rfl, rfl⟩)
          go_ret
          exact ⟨ret_int (by rw [HR.out, HS.out.2, HN.out, if_neg (by omega)]; rfl), hB⟩
      · have HN : Hid (sumF base (s.data.toList.drop k) x = some x) := by
          show _ = _
          rw [List.drop_eq_nil_of_le (by rw [← Lib.size_eq]; omega), sumF]
        go_wp2
        go_ret
        refine ⟨ret_int ?_, hB⟩
        rw [HR.out, HS.out.2, HN.out]
        have hy := HS.out.1
        unfold good at hy
        have : nanB (x : Int) = false := by unfold nanB; exact decide_eq_false (by omega)
        show (x : Int) = canon x
        unfold canon; rw [this]; rfl
end Go.Proofs.YtmepgpiihhilaaaDoor
