/- The reader gives up, and goes on by a byte. -/
import Derived.Test.YtcpjggcpimghjaaRd
import Derived.WalkKit
import Derived.WalkSpells
import Derived.WalkLawsBesides
import Derived.Deep.QuietTactic
import Derived.BigQuiet
import Derived.Handy
namespace Go.Proofs.Ytcpjggcpimghjaa
open Go.RowKit
set_option linter.unusedVariables false

theorem bodyPost_panic {P : Program} {fn : Func} {R : Ending → World → Prop} {a : Act} {w : World} {chain : List PanicEntry} (hd : a.defers = []) (hR : R (.panicked chain) w) : bodyPost P fn R (.panic chain) a w := ⟨hd, hR⟩

set_option maxHeartbeats 400000 in
theorem giveUp_any (b : Nat) (s : ByteArray) (beg k op e : Int) (w : World) (h : Rd w b s beg k op) :
    Calls Try.prog 47 #[.pointer (some ⟨b, 0, none⟩), .int .i64 e] w fun en w' => en = flt beg e ∧ w = w' := by
  have h1 := h.c1
  have hf := h.fz 1
  have HF : Hid (flt beg e = .panicked [{ v := .iface 40 (.agg #[.int .i64 beg, .int .i64 e]), recovered := false }]) := rfl
  generalize flt beg e = z at *
  go_enter Try.func47, Try.ntmps47
  go_wp2
  exact bodyPost_panic rfl ⟨HF.out.symm, rfl⟩

set_option maxHeartbeats 400000 in
theorem take_in (b : Nat) (s : ByteArray) (hs : s.size ≤ 1000000) (beg op : Int) (k : Nat) (w : World) (h : Rd w b s beg k op) (hk : k < s.size) :
    Calls Try.prog 51 #[.pointer (some ⟨b, 0, none⟩)] w fun en w' => en = .returned (.int .u8 (s[k].toNat : Int)) ∧ Rd w' b s beg (k + 1 : Nat) op ∧ Off b w w' := by
  have H := Lib.hid h
  have h0 := h.c0
  have h2 := h.c2
  have hf := h.fz 2
  have hne : ((k : Int) == (s.size : Int)) = false := by rw [beq_eq_false_iff_ne]; omega
  clear h
  go_enter Try.func51, Try.ntmps51
  go_wp2_with fail
  go_quiet (fail)
  go_wp2_with fail
  go_quiet (fail)
  go_wp2_with fail
  go_ret
  exact ⟨rfl, ((H.out.drewN _).s2 _), ((Off.refl b _).drewN _).set _ _⟩

set_option maxHeartbeats 400000 in
theorem take_out (b : Nat) (s : ByteArray) (hs : s.size ≤ 1000000) (beg op : Int) (k : Nat) (w : World) (h : Rd w b s beg k op) (hk : k = s.size) :
    Calls Try.prog 51 #[.pointer (some ⟨b, 0, none⟩)] w fun en w' => en = flt beg 5 ∧ Off b w w' := by
  subst hk
  have H := Lib.hid h
  have h0 := h.c0
  have h2 := h.c2
  have hf := h.fz 2
  have G := Lib.hid (fun w h => giveUp_any b s beg (s.size : Nat) op 5 w h)
  clear h
  go_enter Try.func51, Try.ntmps51
  go_wp2_with fail
  go_quiet (fail)
  go_wp2_with fail
  refine (G.out _ (H.out.drewN _)).mono ?_; rintro e w' ⟨rfl, rfl⟩
  unfold flt
  go_wp2_with fail
  trace_state
  exact bodyPost_panic rfl ⟨rfl, ((Off.refl b _).drewN _)⟩
end Go.Proofs.Ytcpjggcpimghjaa
