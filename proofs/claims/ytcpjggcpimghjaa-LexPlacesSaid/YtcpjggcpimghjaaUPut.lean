/- A sign put, by the program and by the document's answer. -/
import Derived.Test.YtcpjggcpimghjaaUBase
import Derived.Deep.OwnRows
import Derived.Laws.BytesArg
import Derived.LoopTactic
import Derived.Deep.QuietTactic
import Derived.BigQuiet
namespace Go.Proofs.Ytcpjggcpimghjaa
open Go.RowKit
set_option linter.unusedVariables false

theorem info_u8 : (Try.prog.info? 5).map (fun i => (i.zero, i.size, i.bytes)) = some (some (.int .u8 0), 1, 1) := by kernel_rfl

set_option maxRecDepth 100000 in
set_option maxHeartbeats 1000000 in
theorem text_any (xs : List Int) (n : Nat) (hn : xs.length = n) (h1 : 1 ≤ n) (h4 : n ≤ 4) (hr : ∀ i, i < n → 0 ≤ xs.getD i 0 ∧ xs.getD i 0 < 256) (b : Nat) (w : World) (hb : b < w.heap.size)
    (hcell : ∀ i, i < n → w.cell? ⟨b, i, none⟩ = some (.int .i64 (xs.getD i 0))) :
    Calls Try.prog 76 #[.slice (some ⟨b, 0, none⟩) n n] w fun e w' => e = .returned (.string (strOfNums xs)) ∧ Below w.heap.size w w' := by
  have HC := Lib.hid hcell
  have HR := Lib.hid hr
  have HNN := Lib.hid hn
  clear hcell hr hn
  have hmk := fun w => run_make_row' (P := Try.prog) 31 5 (.int .u8 0) 1 Try.underlying31 info_u8 rfl .i64 .i64 n (by omega) (by omega) w
  go_enter Try.func76, Try.ntmps76
  go_wp2
  go_loopw [4, 5, 11] (fun _ _ i wr => ∃ k : Nat, i = .int .i64 (k : Int) ∧ k ≤ n ∧ Below w.heap.size w wr ∧ Hid (wr.rowIs w.heap.size 5 n (fun j => .int .u8 (if j < k then xs.getD j 0 else 0)))) (fun _ _ i _ => n - (intOf i).toNat)
  case atStart =>
    refine ⟨0, rfl, Nat.zero_le _, (Below.refl _ _).alloc (Nat.le_refl _) _, ?_⟩
    have := World.rowIs_made w (.int .u8 0) n 5
    exact this
  case round =>
    rename_i wr hrel
    obtain ⟨k, rfl, hk, hB, HW⟩ := hrel
    by_cases hlt : k < n
    · have hx := HR.out k hlt
      have hc1 : wr.cell? ⟨b, k, none⟩ = some (.int .i64 (xs.getD k 0)) := (hB.cell (p := ⟨b, k, none⟩) hb).trans (HC.out k hlt)
      have hc2 := HW.out.cell hlt
      have hf2 := HW.out.frozen k
      go_wp2
      refine ⟨⟨k + 1, by go_num, by omega, hB.setCell (Nat.le_refl _) _, ?_⟩, by simp [intOf]; omega⟩
      exact (HW.out.set k _).congr fun j hj => by
        by_cases e : j = k
        · subst e; rw [if_pos rfl, if_pos (by omega), ← List.getD_eq_getElem?_getD, Int.emod_eq_of_lt hx.1 hx.2]
        · rw [if_neg e]
          by_cases e2 : j < k
          · rw [if_pos e2, if_pos (by omega)]
          · rw [if_neg e2, if_neg (by omega)]
    · have hrun := run_convert_bytes_arg (P := Try.prog) wr 31 5 Try.underlying31 Try.underlying5 w.heap.size 0 n n xs HNN.out (fun i hi => by
        rw [Nat.zero_add, HW.out.cell hi, if_pos (by omega)]) 9 Try.underlying9
      go_wp2
      go_ret
      exact ⟨rfl, hB⟩

theorem putL_two {n : Int} (h : sizeI n = 2) : strOfNums [192 + n / 64, 128 + n % 64] = putS n := by
  unfold putS putL; rw [if_neg (by omega), if_neg (by omega), if_pos h]; rfl
theorem putL_one {n : Int} (h : sizeI n = 1) : strOfNums [n] = putS n := by
  unfold putS putL; rw [if_neg (by omega), if_pos h]; rfl
theorem putL_three {n : Int} (h : sizeI n = 3) : strOfNums [224 + n / 4096, 128 + n / 64 % 64, 128 + n % 64] = putS n := by
  unfold putS putL; rw [if_neg (by omega), if_neg (by omega), if_neg (by omega), if_pos h]; rfl
theorem putL_four {n : Int} (h : sizeI n = 4) : strOfNums [240 + n / 262144, 128 + n / 4096 % 64, 128 + n / 64 % 64, 128 + n % 64] = putS n := by
  unfold putS putL; rw [if_neg (by omega), if_neg (by omega), if_neg (by omega), if_neg (by omega)]; rfl
theorem putL_none {n : Int} (h : sizeI n = 0) : putS n = ⟨#[]⟩ := by
  unfold putS putL; rw [if_pos h]
theorem size_bounds {n : Int} : (sizeI n = 1 → 0 ≤ n ∧ n < 128) ∧ (sizeI n = 2 → 128 ≤ n ∧ n < 2048) ∧ (sizeI n = 3 → 2048 ≤ n ∧ n < 65536) ∧ (sizeI n = 4 → 65536 ≤ n ∧ n ≤ 1114111) := by
  unfold sizeI; repeat' split
  all_goals omega

theorem new_ints (w : World) (t : TypeId) (xs : List Int) : ∀ i, i < xs.length → (w.alloc (.cells (xs.map (Value.int .i64)).toArray t)).cell? ⟨w.heap.size, i, none⟩ = some (.int .i64 (xs.getD i 0)) := by
  intro i hi
  refine (World.rowIs_alloc w (xs.map (Value.int .i64)).toArray t (fun i => .int .i64 (xs.getD i 0)) (fun j hj => ?_)).cell (by simpa using hi)
  have hj' : j < xs.length := by simpa using hj
  simp [List.getD_eq_getElem?_getD, List.getElem?_eq_getElem hj']
theorem below_new {w w1 : World} {o : Obj} (h : Below (w.alloc o).heap.size (w.alloc o) w1) : Below w.heap.size w w1 :=
  ((Below.refl _ _).alloc (Nat.le_refl _) o).trans (h.mono (by simp))
theorem bytes2 {a b : Int} (ha : 0 ≤ a ∧ a < 256) (hb : 0 ≤ b ∧ b < 256) : ∀ i, i < 2 → 0 ≤ [a, b].getD i 0 ∧ [a, b].getD i 0 < 256 := by
  intro i hi
  rcases (by omega : i = 0 ∨ i = 1) with rfl | rfl
  · exact ha
  · exact hb
theorem bytes3 {a b c : Int} (ha : 0 ≤ a ∧ a < 256) (hb : 0 ≤ b ∧ b < 256) (hc : 0 ≤ c ∧ c < 256) : ∀ i, i < 3 → 0 ≤ [a, b, c].getD i 0 ∧ [a, b, c].getD i 0 < 256 := by
  intro i hi
  rcases (by omega : i = 0 ∨ i = 1 ∨ i = 2) with rfl | rfl | rfl
  · exact ha
  · exact hb
  · exact hc
theorem bytes4 {a b c d : Int} (ha : 0 ≤ a ∧ a < 256) (hb : 0 ≤ b ∧ b < 256) (hc : 0 ≤ c ∧ c < 256) (hd : 0 ≤ d ∧ d < 256) : ∀ i, i < 4 → 0 ≤ [a, b, c, d].getD i 0 ∧ [a, b, c, d].getD i 0 < 256 := by
  intro i hi
  rcases (by omega : i = 0 ∨ i = 1 ∨ i = 2 ∨ i = 3) with rfl | rfl | rfl | rfl
  · exact ha
  · exact hb
  · exact hc
  · exact hd

set_option maxRecDepth 100000 in
set_option maxHeartbeats 1000000 in
theorem put_any (n : Int) (w : World) :
    Calls Try.prog 71 #[.int .i64 n] w fun e w' => e = .returned (.tuple #[.string (putS n), .int .i64 (putE n)]) ∧ Below w.heap.size w w' := by
  have C := Lib.hid (fun w => sizeOf_any n w)
  have hr := sizeI_range n
  have hb := @size_bounds n
  have HE : Hid (putE n = if sizeI n = 0 then 2 else 0) := rfl
  have P1 := Lib.hid (@putL_one n)
  have P2 := Lib.hid (@putL_two n)
  have P3 := Lib.hid (@putL_three n)
  have P4 := Lib.hid (@putL_four n)
  have P0 := Lib.hid (@putL_none n)
  generalize putS n = z at *
  generalize putE n = pe at *
  generalize sizeI n = k at *
  have hk : k = 0 ∨ k = 1 ∨ k = 2 ∨ k = 3 ∨ k = 4 := by omega
  have HS := Lib.hid hk
  clear hk
  rcases HS.out with rfl | rfl | rfl | rfl | rfl
  · have Q := Lib.hid (P0.out rfl)
    have QE := Lib.hid (HE.out)
    clear hb hr P0 P1 P2 P3 P4 HE
    go_enter Try.func71, Try.ntmps71
    go_wp2_with (go_at_call 33; refine (C.out _).mono ?_; rintro e w' ⟨rfl, rfl⟩)
    go_ret2
    exact ⟨ret_text Q.out.symm (by rw [QE.out]; rfl), Below.refl _ _⟩
  · obtain ⟨b0, b1⟩ := hb.1 rfl
    have Q := Lib.hid (P1.out rfl)
    have QE := Lib.hid (HE.out)
    clear hb hr P0 P1 P2 P3 P4 HE
    go_enter Try.func71, Try.ntmps71
    go_wp2_with (go_at_call 33; refine (C.out _).mono ?_; rintro e w' ⟨rfl, rfl⟩)
    refine (text_any [n] 1 rfl (by omega) (by omega) (fun i hi => by rw [show i = 0 by omega]; exact ⟨b0, by show n < 256; omega⟩) w.heap.size _ (by simp) (new_ints w 3 [n])).mono ?_
    rintro e w1 ⟨rfl, hB⟩
    go_wp2_with fail
    go_ret2
    exact ⟨ret_text Q.out (by rw [QE.out]; rfl), below_new hB⟩
  · obtain ⟨b0, b1⟩ := hb.2.1 rfl
    have Q := Lib.hid (P2.out rfl)
    have QE := Lib.hid (HE.out)
    clear hb hr P0 P1 P2 P3 P4 HE
    go_enter Try.func71, Try.ntmps71
    go_wp2_with (first | (go_at_call 33; refine (C.out _).mono ?_; rintro e w' ⟨rfl, rfl⟩) | (go_at_call 77; refine (tail_any _ (by omega) (by omega) _).mono ?_; rintro e w' ⟨rfl, rfl⟩))
    rw [ior6 (x := 192) (by decide) (by decide) (by decide) (by omega) (by omega)]
    refine (text_any [192 + n / 64, 128 + n % 64] 2 rfl (by omega) (by omega) (bytes2 (by omega) (by omega)) w.heap.size _ (by simp) (new_ints w 3 [192 + n / 64, 128 + n % 64])).mono ?_
    rintro e w1 ⟨rfl, hB⟩
    go_wp2_with fail
    go_ret2
    exact ⟨ret_text Q.out (by rw [QE.out]; rfl), below_new hB⟩
  · obtain ⟨b0, b1⟩ := hb.2.2.1 rfl
    have Q := Lib.hid (P3.out rfl)
    have QE := Lib.hid (HE.out)
    clear hb hr P0 P1 P2 P3 P4 HE
    go_enter Try.func71, Try.ntmps71
    go_wp2_with (first | (go_at_call 33; refine (C.out _).mono ?_; rintro e w' ⟨rfl, rfl⟩) | (go_at_call 77; refine (tail_any _ (by omega) (by omega) _).mono ?_; rintro e w' ⟨rfl, rfl⟩))
    rw [ior224 (by omega) (by omega)]
    refine (text_any [224 + n / 4096, 128 + n / 64 % 64, 128 + n % 64] 3 rfl (by omega) (by omega) (bytes3 (by omega) (by omega) (by omega)) w.heap.size _ (by simp) (new_ints w 3 [224 + n / 4096, 128 + n / 64 % 64, 128 + n % 64])).mono ?_
    rintro e w1 ⟨rfl, hB⟩
    go_wp2_with fail
    go_ret2
    exact ⟨ret_text Q.out (by rw [QE.out]; rfl), below_new hB⟩
  · obtain ⟨b0, b1⟩ := hb.2.2.2 rfl
    have Q := Lib.hid (P4.out rfl)
    have QE := Lib.hid (HE.out)
    clear hb hr P0 P1 P2 P3 P4 HE
    go_enter Try.func71, Try.ntmps71
    go_wp2_with (first | (go_at_call 33; refine (C.out _).mono ?_; rintro e w' ⟨rfl, rfl⟩) | (go_at_call 77; refine (tail_any _ (by omega) (by omega) _).mono ?_; rintro e w' ⟨rfl, rfl⟩))
    rw [ior240 (by omega) (by omega)]
    refine (text_any [240 + n / 262144, 128 + n / 4096 % 64, 128 + n / 64 % 64, 128 + n % 64] 4 rfl (by omega) (by omega) (bytes4 (by omega) (by omega) (by omega) (by omega)) w.heap.size _ (by simp) (new_ints w 3 [240 + n / 262144, 128 + n / 4096 % 64, 128 + n / 64 % 64, 128 + n % 64])).mono ?_
    rintro e w1 ⟨rfl, hB⟩
    go_wp2_with fail
    go_ret2
    exact ⟨ret_text Q.out (by rw [QE.out]; rfl), below_new hB⟩

theorem conv_new (w : World) (xs : List Int) :
    (convert 31 9 (.slice (some ⟨w.heap.size, 0, none⟩) xs.length xs.length)).run Try.prog (w.alloc (.cells (xs.map (Value.int .u8)).toArray 5)) = .ok (.string (strOfNums xs)) (w.alloc (.cells (xs.map (Value.int .u8)).toArray 5)) :=
  run_convert_bytes_arg (P := Try.prog) _ 31 5 Try.underlying31 Try.underlying5 w.heap.size 0 xs.length xs.length xs rfl (fun i hi => by
    rw [Nat.zero_add]
    refine (World.rowIs_alloc w (xs.map (Value.int .u8)).toArray 5 (fun i => .int .u8 (xs.getD i 0)) (fun j hj => ?_)).cell (by simpa using hi)
    have hj' : j < xs.length := by simpa using hj
    simp [List.getD_eq_getElem?_getD, List.getElem?_eq_getElem hj']) 9 Try.underlying9

set_option maxRecDepth 100000 in
set_option maxHeartbeats 1000000 in
theorem rput_any (n : Int) (w : World) :
    Calls Try.prog 40 #[.int .i64 n] w fun e w' => e = .returned (.tuple #[.string (putS n), .int .i64 (putE n)]) ∧ Below w.heap.size w w' := by
  have C := Lib.hid (fun w => Sign_any n w)
  have hr := sizeI_range n
  have hb := @size_bounds n
  have HE : Hid (putE n = if sizeI n = 0 then 2 else 0) := rfl
  have P1 := Lib.hid (@putL_one n)
  have P2 := Lib.hid (@putL_two n)
  have P3 := Lib.hid (@putL_three n)
  have P4 := Lib.hid (@putL_four n)
  have P0 := Lib.hid (@putL_none n)
  generalize putS n = z at *
  generalize putE n = pe at *
  generalize sizeI n = k at *
  have hk : k = 0 ∨ k = 1 ∨ k = 2 ∨ k = 3 ∨ k = 4 := by omega
  have HS := Lib.hid hk
  clear hk
  rcases HS.out with rfl | rfl | rfl | rfl | rfl
  · have Q := Lib.hid (P0.out rfl)
    have QE := Lib.hid (HE.out)
    clear hb hr P0 P1 P2 P3 P4 HE
    go_enter Try.func40, Try.ntmps40
    go_wp2_with (go_at_call 59; refine (C.out _).mono ?_; rintro e w' ⟨rfl, rfl⟩)
    go_ret2
    exact ⟨ret_text Q.out.symm (by rw [QE.out]; rfl), Below.refl _ _⟩
  · obtain ⟨b0, b1⟩ := hb.1 rfl
    have Q := Lib.hid (P1.out rfl)
    have QE := Lib.hid (HE.out)
    clear hb hr P0 P1 P2 P3 P4 HE
    have hrun := conv_new w [n]
    simp only [List.map_cons, List.map_nil, List.length_cons, List.length_nil, Nat.zero_add] at hrun
    go_enter Try.func40, Try.ntmps40
    go_wp2_with (go_at_call 59; refine (C.out _).mono ?_; rintro e w' ⟨rfl, rfl⟩)
    go_ret2
    exact ⟨ret_text Q.out (by rw [QE.out]; rfl), (Below.refl _ _).alloc (Nat.le_refl _) _⟩
  · obtain ⟨b0, b1⟩ := hb.2.1 rfl
    have Q := Lib.hid (P2.out rfl)
    have QE := Lib.hid (HE.out)
    clear hb hr P0 P1 P2 P3 P4 HE
    have hrun := conv_new w [192 + n / 64, 128 + n % 64]
    simp only [List.map_cons, List.map_nil, List.length_cons, List.length_nil, Nat.zero_add] at hrun
    go_enter Try.func40, Try.ntmps40
    go_wp2_with (go_at_call 59; refine (C.out _).mono ?_; rintro e w' ⟨rfl, rfl⟩)
    go_ret2
    exact ⟨ret_text Q.out (by rw [QE.out]; rfl), (Below.refl _ _).alloc (Nat.le_refl _) _⟩
  · obtain ⟨b0, b1⟩ := hb.2.2.1 rfl
    have Q := Lib.hid (P3.out rfl)
    have QE := Lib.hid (HE.out)
    clear hb hr P0 P1 P2 P3 P4 HE
    have hrun := conv_new w [224 + n / 4096, 128 + n / 64 % 64, 128 + n % 64]
    simp only [List.map_cons, List.map_nil, List.length_cons, List.length_nil, Nat.zero_add] at hrun
    go_enter Try.func40, Try.ntmps40
    go_wp2_with (go_at_call 59; refine (C.out _).mono ?_; rintro e w' ⟨rfl, rfl⟩)
    go_ret2
    exact ⟨ret_text Q.out (by rw [QE.out]; rfl), (Below.refl _ _).alloc (Nat.le_refl _) _⟩
  · obtain ⟨b0, b1⟩ := hb.2.2.2 rfl
    have Q := Lib.hid (P4.out rfl)
    have QE := Lib.hid (HE.out)
    clear hb hr P0 P1 P2 P3 P4 HE
    have hrun := conv_new w [240 + n / 262144, 128 + n / 4096 % 64, 128 + n / 64 % 64, 128 + n % 64]
    simp only [List.map_cons, List.map_nil, List.length_cons, List.length_nil, Nat.zero_add] at hrun
    go_enter Try.func40, Try.ntmps40
    go_wp2_with (go_at_call 59; refine (C.out _).mono ?_; rintro e w' ⟨rfl, rfl⟩)
    go_ret2
    exact ⟨ret_text Q.out (by rw [QE.out]; rfl), (Below.refl _ _).alloc (Nat.le_refl _) _⟩
end Go.Proofs.Ytcpjggcpimghjaa
