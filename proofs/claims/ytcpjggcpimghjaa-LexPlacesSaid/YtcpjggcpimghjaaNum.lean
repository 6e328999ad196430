/- A number and a name, by the program. -/
import Derived.Test.YtcpjggcpimghjaaWhole
import Derived.Test.YtcpjggcpimghjaaBBase
namespace Go.Proofs.Ytcpjggcpimghjaa
open Go.RowKit
set_option linter.unusedVariables false

/-- What a reader's method comes to: a value, and the reader further on; or it gives up. -/
def Gives (b : Nat) (s : ByteArray) (beg op : Int) (w : World) (r : Option (Value × Nat)) (e : Ending) (w' : World) : Prop :=
  match r with
  | some (v, k) => e = .returned v ∧ Rd w' b s beg (k : Nat) op ∧ Off b w w'
  | none => e = flt beg 5 ∧ Off b w w'
theorem gives_some {b : Nat} {s : ByteArray} {beg op : Int} {w : World} {r : Option (Value × Nat)} {v : Value} {k : Nat} {e : Ending} {w' : World} (h : r = some (v, k)) (he : e = .returned v) (hr : Rd w' b s beg (k : Nat) op) (ho : Off b w w') : Gives b s beg op w r e w' := by
  subst h; exact ⟨he, hr, ho⟩
theorem gives_none {b : Nat} {s : ByteArray} {beg op : Int} {w : World} {r : Option (Value × Nat)} {e : Ending} {w' : World} (h : r = none) (he : e = flt beg 5) (ho : Off b w w') : Gives b s beg op w r e w' := by
  subst h; exact ⟨he, ho⟩
theorem piece_list (s : ByteArray) (k n : Nat) : (s.extract k (k + n)).data.toList = (s.data.toList.drop k).take n := by rw [Lib.extract_data]; congr 1; omega
theorem piece_bs (s : ByteArray) (k n : Nat) : s.extract k (k + n) = bs ((s.data.toList.drop k).take n) := bs_eq (piece_list s k n)

def numR (s : ByteArray) (k : Nat) : Option (Value × Nat) := match numO ((s.data.toList.drop k).take (nmL (s.data.toList.drop k))) with | some v => some (.int .u64 (ofI v), k + nmL (s.data.toList.drop k)) | none => none

set_option maxRecDepth 100000 in
set_option maxHeartbeats 1000000 in
theorem number_any (b : Nat) (s : ByteArray) (hs : s.size ≤ 1000000) (beg op : Int) (k : Nat) (hk : k < s.size) (hc : npB (s[k].toNat : Int) = true) (w : World) (h : Rd w b s beg k op) :
    Calls Try.prog 35 #[.pointer (some ⟨b, 0, none⟩)] w (Gives b s beg op w (numR s k)) := by
  have N := Lib.hid (fun w h => nameParts_any b s hs beg op k (by omega) w h)
  have hle := nm_le (s := s) (k := k) (by omega)
  have h1 : 1 ≤ nmL (s.data.toList.drop k) := by rw [nm_yes hk hc]; omega
  have HPL := Lib.hid (piece_list s k (nmL (s.data.toList.drop k)))
  have HR : Hid (numR s k = match numO ((s.data.toList.drop k).take (nmL (s.data.toList.drop k))) with | some v => some (.int .u64 (ofI v), k + nmL (s.data.toList.drop k)) | none => none) := rfl
  rw [← HPL.out] at HR
  have hsz : (s.extract k (k + nmL (s.data.toList.drop k))).size = nmL (s.data.toList.drop k) := by rw [ByteArray.size_extract]; omega
  generalize nmL (s.data.toList.drop k) = n at *
  generalize s.extract k (k + n) = t at *
  have W := Lib.hid (fun w => whole_any t (by omega) (by omega) w)
  have H := Lib.hid h
  generalize numR s k = R at *
  clear h hsz hc HPL
  generalize numO t.data.toList = q at *
  go_enter Try.func35, Try.ntmps35
  go_wp2_with fail
  refine (N.out _ H.out).mono ?_; rintro e w1 ⟨rfl, hR1, hO1⟩
  have HR1 := Lib.hid hR1
  have HO1 := Lib.hid hO1
  clear hR1 hO1
  go_wp2_with fail
  refine (W.out _).mono ?_; rintro e w2 ⟨nd, rfl, rfl⟩
  cases q with
  | none =>
    have G := Lib.hid (fun w h => giveUp_any b s beg (k + n : Nat) op 5 w h)
    simp only [numV, numK, Option.getD_none, Option.isSome_none]
    go_wp2_with fail
    refine (G.out _ (HR1.out.drewN _)).mono ?_; rintro e w' ⟨rfl, rfl⟩
    unfold flt
    go_wp2_with fail
    exact bodyPost_panic rfl (gives_none HR.out rfl (HO1.out.drewN _))
  | some v =>
    have F := Lib.hid (fun w => of_any v w)
    simp only [numV, numK, Option.getD_some, Option.isSome_some]
    go_wp2_with fail
    refine (F.out _).mono ?_; rintro e w' ⟨rfl, rfl⟩
    go_wp2_with fail
    go_ret
    exact gives_some HR.out rfl (HR1.out.drewN _) (HO1.out.drewN _)

def nameR (s : ByteArray) (k : Nat) : Value := .tuple #[.int .i64 (if wordB ((s.data.toList.drop k).take (nmL (s.data.toList.drop k))) = true then 2 else 1), .string (bs ((s.data.toList.drop k).take (nmL (s.data.toList.drop k))))]

set_option maxRecDepth 100000 in
set_option maxHeartbeats 1000000 in
theorem name_any (b : Nat) (s : ByteArray) (hs : s.size ≤ 1000000) (beg op : Int) (k : Nat) (hk : k < s.size) (w : World) (h : Rd w b s beg k op) :
    Calls Try.prog 36 #[.pointer (some ⟨b, 0, none⟩)] w (Gives b s beg op w (some (nameR s k, k + nmL (s.data.toList.drop k)))) := by
  have N := Lib.hid (fun w h => nameParts_any b s hs beg op k (by omega) w h)
  have HPL := Lib.hid (piece_list s k (nmL (s.data.toList.drop k)))
  have HR : Hid (nameR s k = .tuple #[.int .i64 (if wordB ((s.data.toList.drop k).take (nmL (s.data.toList.drop k))) = true then 2 else 1), .string (bs ((s.data.toList.drop k).take (nmL (s.data.toList.drop k))))]) := rfl
  rw [← HPL.out, ← bs_eq rfl] at HR
  generalize nmL (s.data.toList.drop k) = n at *
  generalize s.extract k (k + n) = t at *
  have W := Lib.hid (fun w => word_any t w)
  have H := Lib.hid h
  generalize nameR s k = R at *
  clear h HPL
  cases hq : wordB t.data.toList
  · rw [hq] at W HR
    clear hq
    go_enter Try.func36, Try.ntmps36
    go_wp2_with fail
    refine (N.out _ H.out).mono ?_; rintro e w1 ⟨rfl, hR1, hO1⟩
    have HR1 := Lib.hid hR1
    have HO1 := Lib.hid hO1
    clear hR1 hO1
    go_wp2_with fail
    refine (W.out _).mono ?_; rintro e w' ⟨rfl, rfl⟩
    go_wp2_with fail
    go_ret2
    exact gives_some rfl (by rw [HR.out]; rfl) HR1.out HO1.out
  · rw [hq] at W HR
    clear hq
    go_enter Try.func36, Try.ntmps36
    go_wp2_with fail
    refine (N.out _ H.out).mono ?_; rintro e w1 ⟨rfl, hR1, hO1⟩
    have HR1 := Lib.hid hR1
    have HO1 := Lib.hid hO1
    clear hR1 hO1
    go_wp2_with fail
    refine (W.out _).mono ?_; rintro e w' ⟨rfl, rfl⟩
    go_wp2_with fail
    go_ret2
    exact gives_some rfl (by rw [HR.out]; rfl) HR1.out HO1.out
end Go.Proofs.Ytcpjggcpimghjaa
