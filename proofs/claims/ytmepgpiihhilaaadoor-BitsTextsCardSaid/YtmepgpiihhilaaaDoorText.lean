/- A number as a text, by the program. -/
import Derived.Test.YtmepgpiihhilaaaDoorHex
import Derived.Test.YtmepgpiihhilaaaDoorShelf
namespace Go.Proofs.YtmepgpiihhilaaaDoor
open Go.RowKit Go.Sort

theorem below_grow (w : World) (k : Nat) (os : Array Obj) : Below w.heap.size w (grow (w.drewN k) os) :=
  ⟨rfl, rfl, rfl, by simp [grow, World.drewN], fun i hi => by simp [grow, World.drewN, Array.getElem?_append, hi]⟩

def tab (w : World) : Prop := Lib.TabIs Tryd.prog w "internal/strconv.uint64pow10" .u64 Lib.pow10Tab

theorem itoa_any (n : Int) (h0 : -9223372036854775808 ≤ n) (h1 : n ≤ 9223372036854775807) (w : World) (htab : tab w) :
    Calls Tryd.prog 63 #[.int .i64 n] w fun e w' => e = .returned (.string ⟨(Lib.itoa n).toArray⟩) ∧ Below w.heap.size w w' := by
  have h := Any.strconv_Itoa Tryd.laysM171 n h0 h1 w htab
  change Calls Tryd.prog 63 _ _ _ at h
  exact h.mono fun e w' ⟨he, k, os, hw⟩ => ⟨he, hw ▸ below_grow w k os⟩

def nanS : ByteArray := ⟨#[78, 97, 78]⟩
def infS : ByteArray := ⟨#[73, 110, 102, 105, 110, 105, 116, 121]⟩
def negInfS : ByteArray := ⟨#[45, 73, 110, 102, 105, 110, 105, 116, 121]⟩
def wholeS (n : Int) : ByteArray := ⟨(Lib.itoa n).toArray⟩
def tildeS (b : Int) : ByteArray := ⟨#[126]⟩ ++ hexS b
def textI (b : Int) : ByteArray :=
  if nanB b = true then nanS else if infB b = true then (if 9223372036854775808 ≤ b then negInfS else infS) else if wholeB b = true then wholeS (wholeV b) else tildeS b

theorem hexS_size (b : Int) : (hexS b).size = 16 := by unfold hexS; rw [strOfNums_size]; rfl

theorem wholeV_lo {b : Int} : -9007199254740992 ≤ wholeV b ∧ wholeV b ≤ 9007199254740992 := by
  unfold wholeV
  split
  · rename_i h
    have hi : insideN b.toNat = true := by unfold wholeB at h; simp only [Bool.and_eq_true] at h; exact h.1
    have := inside_cut hi
    split <;> omega
  · omega

set_option maxHeartbeats 1000000 in
theorem text_any (b : Int) (hb0 : 0 ≤ b) (hb : b < 18446744073709551616) (w : World) (htab : tab w) :
    Calls Tryd.prog 42 #[.int .u64 b] w fun e w' => e = .returned (.string (textI b)) ∧ Below w.heap.size w w' := by
  have c1 := isNone_any b hb0 hb w
  have c2 := isInfinite_any b hb0 hb w
  have c3 := whole_any b hb0 hb w
  have c4 := hex_any b hb0 hb w
  have wv := wholeV_lo (b := b)
  have c5 := itoa_any (wholeV b) (by omega) (by omega) w htab
  have hadd : ∀ W : World, (binOp .add 9 (.string ⟨#[126]⟩) (.string (hexS b))).run Tryd.prog W = .ok (.string (tildeS b)) W := by
    intro W
    have := run_string_add_sum (P := Tryd.prog) (w := W) ⟨#[126]⟩ (hexS b) (by rw [hexS_size]; decide)
    simpa [binOp, tildeS] using this
  have hadd2 : ∀ W : World, (Op.stringOp .add ⟨#[126]⟩ (hexS b)).run Tryd.prog W = .ok (.string (tildeS b)) W := by
    intro W
    have := run_string_add_sum (P := Tryd.prog) (w := W) ⟨#[126]⟩ (hexS b) (by rw [hexS_size]; decide)
    exact this
  have HT : Hid (textI b = if nanB b = true then nanS else if infB b = true then (if 9223372036854775808 ≤ b then negInfS else infS) else if wholeB b = true then wholeS (wholeV b) else tildeS b) := rfl
  have SG : ∀ v, (bits .and .u64 b 9223372036854775808 != 0) = v → ((9223372036854775808 ≤ b) ↔ v = true) := fun v hs => sign_set hb0 hb hs
  have SGH := Lib.hid SG
  generalize textI b = t at *
  generalize hexS b = hs at *
  generalize tildeS b = ts at *
  cases hn : nanB b
  · cases hi : infB b
    · cases hw : wholeB b
      · rw [hn, hi, hw] at HT
        rw [hn] at c1
        rw [hi] at c2
        rw [hw] at c3
        have C1 := Lib.hid c1
        have C2 := Lib.hid c2
        have C3 := Lib.hid c3
        have C4 := Lib.hid c4
        clear c1 c2 c3 c4 c5 hn hi hw SG htab
        go_enter Tryd.func42, Tryd.ntmps42
        go_wp2_with (first | (go_at_call 50; refine C1.out.mono ?_; rintro e w' ⟨rfl, rfl⟩) | (go_at_call 52; refine C2.out.mono ?_; rintro e w' ⟨rfl, rfl⟩) | (go_at_call 34; refine C3.out.mono ?_; rintro e w' ⟨rfl, rfl⟩) | (go_at_call 64; refine C4.out.mono ?_; rintro e w1 ⟨rfl, hB⟩))
        go_ret
        exact ⟨congrArg (fun s => Ending.returned (.string s)) HT.out.symm, hB⟩
      · rw [hn, hi, hw] at HT
        rw [hn] at c1
        rw [hi] at c2
        rw [hw] at c3
        have C1 := Lib.hid c1
        have C2 := Lib.hid c2
        have C3 := Lib.hid c3
        have C5 := Lib.hid c5
        clear c1 c2 c3 c4 c5 hn hi hw SG htab
        go_enter Tryd.func42, Tryd.ntmps42
        go_wp2_with (first | (go_at_call 50; refine C1.out.mono ?_; rintro e w' ⟨rfl, rfl⟩) | (go_at_call 52; refine C2.out.mono ?_; rintro e w' ⟨rfl, rfl⟩) | (go_at_call 34; refine C3.out.mono ?_; rintro e w' ⟨rfl, rfl⟩) | (go_at_call 63; refine C5.out.mono ?_; rintro e w1 ⟨rfl, hB⟩))
        go_ret
        exact ⟨congrArg (fun s => Ending.returned (.string s)) HT.out.symm, hB⟩
    · rw [hn, hi] at HT
      rw [hn] at c1
      rw [hi] at c2
      have C1 := Lib.hid c1
      have C2 := Lib.hid c2
      clear c1 c2 c3 c4 c5 hn hi SG htab
      go_enter Tryd.func42, Tryd.ntmps42
      go_wp2_with (first | (go_at_call 50; refine C1.out.mono ?_; rintro e w' ⟨rfl, rfl⟩) | (go_at_call 52; refine C2.out.mono ?_; rintro e w' ⟨rfl, rfl⟩))
      all_goals
        rename_i hsg
        go_ret
        refine ⟨congrArg (fun s => Ending.returned (.string s)) ?_, Below.refl _ _⟩
        have h2 := SGH.out _ hsg
        rw [HT.out]
        simp only [h2]
        rfl
  · rw [hn] at HT
    rw [hn] at c1
    have C1 := Lib.hid c1
    clear c1 c2 c3 c4 c5 hn SG htab
    go_enter Tryd.func42, Tryd.ntmps42
    go_wp2_with (go_at_call 50; refine C1.out.mono ?_; rintro e w' ⟨rfl, rfl⟩)
    go_ret
    exact ⟨congrArg (fun s => Ending.returned (.string s)) HT.out.symm, Below.refl _ _⟩
end Go.Proofs.YtmepgpiihhilaaaDoor
