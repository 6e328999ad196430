/- The reader's block in memory: what its four cells hold, and what stays while it is written. -/
import Derived.Test.YtcpjggcpimghjaaRows
import Derived.Below
import Derived.OneCell
import Derived.Deep.Draws
import Derived.Lib.Hide
import Derived.WalkKit
namespace Go.Proofs.Ytcpjggcpimghjaa
open Go.RowKit
set_option linter.unusedVariables false

/-- Block b holds a reader: the source, where the token begins, how far it has come, how many brackets are open. -/
def Rd (w : World) (b : Nat) (s : ByteArray) (beg k op : Int) : Prop :=
  w.heap[b]? = some (.cells #[.string s, .int .i64 beg, .int .i64 k, .int .i64 op] 42 (0, 0))

section
variable {w w' : World} {b : Nat} {s : ByteArray} {beg k op : Int}
theorem Rd.lt (h : Rd w b s beg k op) : b < w.heap.size := by
  rcases Nat.lt_or_ge b w.heap.size with hlt | hge
  · exact hlt
  · unfold Rd at h; rw [Array.getElem?_eq_none hge] at h; cases h
theorem Rd.c0 (h : Rd w b s beg k op) : w.cell? ⟨b, 0, none⟩ = some (.string s) := by unfold Rd at h; simp [World.cell?, h]
theorem Rd.c1 (h : Rd w b s beg k op) : w.cell? ⟨b, 1, none⟩ = some (.int .i64 beg) := by unfold Rd at h; simp [World.cell?, h]
theorem Rd.c2 (h : Rd w b s beg k op) : w.cell? ⟨b, 2, none⟩ = some (.int .i64 k) := by unfold Rd at h; simp [World.cell?, h]
theorem Rd.c3 (h : Rd w b s beg k op) : w.cell? ⟨b, 3, none⟩ = some (.int .i64 op) := by unfold Rd at h; simp [World.cell?, h]
theorem Rd.fz (h : Rd w b s beg k op) (i : Nat) : w.frozen? ⟨b, i, none⟩ = false := by unfold Rd at h; simp [World.frozen?, h]
theorem Rd.s1 (h : Rd w b s beg k op) (x : Int) : Rd (w.setCell ⟨b, 1, none⟩ (.int .i64 x)) b s x k op := by
  unfold Rd at h ⊢; simp [World.setCell, Array.getElem?_modify, h]
theorem Rd.s2 (h : Rd w b s beg k op) (x : Int) : Rd (w.setCell ⟨b, 2, none⟩ (.int .i64 x)) b s beg x op := by
  unfold Rd at h ⊢; simp [World.setCell, Array.getElem?_modify, h]
theorem Rd.s3 (h : Rd w b s beg k op) (x : Int) : Rd (w.setCell ⟨b, 3, none⟩ (.int .i64 x)) b s beg k x := by
  unfold Rd at h ⊢; simp [World.setCell, Array.getElem?_modify, h]
theorem Rd.far (h : Rd w b s beg k op) {p : Addr} (hp : b ≠ p.block) (u : Value) : Rd (w.setCell p u) b s beg k op := (Below.heap_setCell w p u b hp).trans h
theorem Rd.drewN (h : Rd w b s beg k op) (n : Nat) : Rd (w.drewN n) b s beg k op := h
theorem Rd.drew (h : Rd w b s beg k op) : Rd w.drew b s beg k op := h
theorem Rd.alloc (h : Rd w b s beg k op) (o : Obj) : Rd (w.alloc o) b s beg k op := (Below.heap_alloc w o b h.lt).trans h
theorem Rd.below {B : Nat} (h : Rd w b s beg k op) (hb : Below B w w') (hl : b < B) : Rd w' b s beg k op := (hb.block b hl).trans h
end

/-- Nothing that was there has turned, but for block b. -/
structure Off (b : Nat) (w w' : World) : Prop where
  os : w'.os = w.os
  tape : w'.tape = w.tape
  output : w'.output = w.output
  size : w.heap.size ≤ w'.heap.size
  block : ∀ k, k < w.heap.size → k ≠ b → w'.heap[k]? = w.heap[k]?

section
variable {b : Nat} {w w' w'' : World}
theorem Off.refl (b : Nat) (w : World) : Off b w w := ⟨rfl, rfl, rfl, Nat.le_refl _, fun _ _ _ => rfl⟩
theorem Off.trans (h : Off b w w') (g : Off b w' w'') : Off b w w'' :=
  ⟨g.os.trans h.os, g.tape.trans h.tape, g.output.trans h.output, Nat.le_trans h.size g.size, fun k hk hb => (g.block k (Nat.lt_of_lt_of_le hk h.size) hb).trans (h.block k hk hb)⟩
theorem Off.below (h : Off b w w') (g : Below w'.heap.size w' w'') : Off b w w'' :=
  h.trans ⟨g.os, g.tape, g.output, g.size, fun k hk _ => g.block k hk⟩
theorem Off.drewN (h : Off b w w') (n : Nat) : Off b w (w'.drewN n) := h.trans ⟨rfl, rfl, rfl, Nat.le_refl _, fun _ _ _ => rfl⟩
theorem Off.drew (h : Off b w w') : Off b w w'.drew := h.trans ⟨rfl, rfl, rfl, Nat.le_refl _, fun _ _ _ => rfl⟩
theorem Off.set (h : Off b w w') (i : Nat) (u : Value) : Off b w (w'.setCell ⟨b, i, none⟩ u) :=
  h.trans ⟨rfl, rfl, rfl, by simp [World.setCell], fun k _ hb => Below.heap_setCell _ _ _ _ hb⟩
/-- A store into a block that is new. -/
theorem Off.newSet (h : Off b w w') {p : Addr} (hp : w.heap.size ≤ p.block) (u : Value) : Off b w (w'.setCell p u) :=
  ⟨h.os, h.tape, h.output, by simpa [World.setCell] using h.size, fun k hk hb => (Below.heap_setCell _ _ _ _ (by omega)).trans (h.block k hk hb)⟩
theorem Off.alloc (h : Off b w w') (o : Obj) : Off b w (w'.alloc o) :=
  h.trans ⟨rfl, rfl, rfl, by simp, fun k hk _ => Below.heap_alloc _ _ _ hk⟩
theorem Off.of_below (g : Below w.heap.size w w') : Off b w w' := (Off.refl b w).below g
/-- If the block is new, all that was there stays. -/
theorem Off.toBelow {B : Nat} (h : Off b w w') (hb : B ≤ b) (hw : B ≤ w.heap.size) : Below B w w' :=
  ⟨h.os, h.tape, h.output, h.size, fun k hk => h.block k (by omega) (by omega)⟩
theorem Off.cell (h : Off b w w') {p : Addr} (hp : p.block < w.heap.size) (hb : p.block ≠ b) : w'.cell? p = w.cell? p := World.cell?_of_block (w := w) (h.block p.block hp hb)
end

def flt (beg e : Int) : Ending := .panicked [{ v := .iface 40 (.agg #[.int .i64 beg, .int .i64 e]), recovered := false }]
end Go.Proofs.Ytcpjggcpimghjaa
