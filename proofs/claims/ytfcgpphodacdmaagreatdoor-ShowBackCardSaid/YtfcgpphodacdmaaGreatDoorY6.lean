/- Part of a proof: contracts of functions. -/
import Derived.Test.YtfcgpphodacdmaaGreatDoorRows
import Derived.Below
import Derived.OneCell
import Derived.Deep.Draws
import Derived.Lib.Hide
import Derived.WalkKit
import Derived.WalkSpells
import Derived.WalkLawsBesides
import Derived.Deep.QuietTactic
import Derived.BigQuiet
import Derived.Handy
import Derived.Test.YtfcgpphodacdmaaGreatDoorSh
import Derived.Lib.Builder
import Derived.Lib.AppendStr
import Derived.Lib.Slices
import Derived.Lib.UnsafeStr
import Derived.OwnWalk
import Derived.Laws.Externs
import Derived.Test.YtfcgpphodacdmaaGreatDoorY3
import Derived.Lib.Strings
import Derived.LoopTactic
import Derived.Deep.LoopGhost
import Derived.StillTailTactics
set_option maxRecDepth 100000
set_option maxHeartbeats 4000000
set_option linter.all false
namespace Go.Proofs.YtfcgpphodacdmaaGreatDoor
open Go.RowKit
section
def Rd (w : World) (b : Nat) (s : ByteArray) (beg k op : Int) : Prop :=
 w.heap[b]? = some (.cells #[.string s, .int .i64 beg, .int .i64 k, .int .i64 op] 94 (0, 0))
section
variable {w w' : World} {b : Nat} {s : ByteArray} {beg k op : Int}
theorem Rd.lt (h : Rd w b s beg k op) : b < w.heap.size := by
 rcases Nat.lt_or_ge b w.heap.size with hlt | hge
 ·exact hlt
 ·unfold Rd at h; rw [Array.getElem?_eq_none hge] at h; cases h
theorem Rd.c0 (h : Rd w b s beg k op) : w.cell? ⟨b, 0, none⟩ = some (.string s) := by unfold Rd at h; simp [World.cell?, h]
theorem Rd.c1 (h : Rd w b s beg k op) : w.cell? ⟨b, 1, none⟩ = some (.int .i64 beg) := by unfold Rd at h; simp [World.cell?, h]
theorem Rd.c2 (h : Rd w b s beg k op) : w.cell? ⟨b, 2, none⟩ = some (.int .i64 k) := by unfold Rd at h; simp [World.cell?, h]
theorem Rd.c3 (h : Rd w b s beg k op) : w.cell? ⟨b, 3, none⟩ = some (.int .i64 op) := by unfold Rd at h; simp [World.cell?, h]
theorem Rd.fz (h : Rd w b s beg k op) (i : Nat) : w.frozen? ⟨b, i, none⟩ = false := by unfold Rd at h; simp [World.frozen?, h]
theorem Rd.s1 (h : Rd w b s beg k op) (x : Int) : Rd (w.setCell ⟨b, 1, none⟩ (.int .i64 x)) b s x k op := by
 unfold Rd at h ⊢; simp [World.setCell, Array.getElem?_modify, h]
theorem Rd.s2 (h : Rd w b s beg k op) (x : Int) : Rd (w.setCell ⟨b, 2, none⟩ (.int .i64 x)) b s beg x op := by
 unfold Rd at h ⊢; simp [World.setCell, Array.getElem?_modify, h]
theorem Rd.s3 (h : Rd w b s beg k op) (x : Int) : Rd (w.setCell ⟨b, 3, none⟩ (.int .i64 x)) b s beg k x := by
 unfold Rd at h ⊢; simp [World.setCell, Array.getElem?_modify, h]
theorem Rd.far (h : Rd w b s beg k op) {p : Addr} (hp : b ≠ p.block) (u : Value) : Rd (w.setCell p u) b s beg k op := (Below.heap_setCell w p u b hp).trans h
theorem Rd.drewN (h : Rd w b s beg k op) (n : Nat) : Rd (w.drewN n) b s beg k op := h
theorem Rd.drew (h : Rd w b s beg k op) : Rd w.drew b s beg k op := h
theorem Rd.alloc (h : Rd w b s beg k op) (o : Obj) : Rd (w.alloc o) b s beg k op := (Below.heap_alloc w o b h.lt).trans h
theorem Rd.below {B : Nat} (h : Rd w b s beg k op) (hb : Below B w w') (hl : b < B) : Rd w' b s beg k op := (hb.block b hl).trans h
end
structure Off (b : Nat) (w w' : World) : Prop where
 os : w'.os = w.os
 tape : w'.tape = w.tape
 output : w'.output = w.output
 size : w.heap.size ≤ w'.heap.size
 block : ∀ k, k < w.heap.size → k ≠ b → w'.heap[k]? = w.heap[k]?
section
variable {b : Nat} {w w' w'' : World}
theorem Off.refl (b : Nat) (w : World) : Off b w w := ⟨rfl, rfl, rfl, zd _, fun _ _ _ => rfl⟩
theorem Off.trans (h : Off b w w') (g : Off b w' w'') : Off b w w'' :=
 ⟨g.os.trans h.os, g.tape.trans h.tape, g.output.trans h.output, Nat.le_trans h.size g.size, fun k hk hb => (g.block k (Nat.lt_of_lt_of_le hk h.size) hb).trans (h.block k hk hb)⟩
theorem Off.below (h : Off b w w') (g : Below w'.heap.size w' w'') : Off b w w'' :=
 h.trans ⟨g.os, g.tape, g.output, g.size, fun k hk _ => g.block k hk⟩
theorem Off.drewN (h : Off b w w') (n : Nat) : Off b w (w'.drewN n) := h.trans ⟨rfl, rfl, rfl, zd _, fun _ _ _ => rfl⟩
theorem Off.drew (h : Off b w w') : Off b w w'.drew := h.trans ⟨rfl, rfl, rfl, zd _, fun _ _ _ => rfl⟩
theorem Off.set (h : Off b w w') (i : Nat) (u : Value) : Off b w (w'.setCell ⟨b, i, none⟩ u) :=
 h.trans ⟨rfl, rfl, rfl, by simp [World.setCell], fun k _ hb => Below.heap_setCell _ _ _ _ hb⟩
theorem Off.newSet (h : Off b w w') {p : Addr} (hp : w.heap.size ≤ p.block) (u : Value) : Off b w (w'.setCell p u) :=
 ⟨h.os, h.tape, h.output, by simpa [World.setCell] using h.size, fun k hk hb => (Below.heap_setCell _ _ _ _ (by omega)).trans (h.block k hk hb)⟩
theorem Off.alloc (h : Off b w w') (o : Obj) : Off b w (w'.alloc o) :=
 h.trans ⟨rfl, rfl, rfl, by simp, fun k hk _ => Below.heap_alloc _ _ _ hk⟩
theorem Off.of_below (g : Below w.heap.size w w') : Off b w w' := (Off.refl b w).below g
theorem Off.toBelow {B : Nat} (h : Off b w w') (hb : B ≤ b) (hw : B ≤ w.heap.size) : Below B w w' :=
 ⟨h.os, h.tape, h.output, h.size, fun k hk => h.block k (by omega) (by omega)⟩
theorem Off.cell (h : Off b w w') {p : Addr} (hp : p.block < w.heap.size) (hb : p.block ≠ b) : w'.cell? p = w.cell? p := World.cell?_of_block (w := w) (h.block p.block hp hb)
end
def flt (beg e : Int) : Ending := .panicked [{ v := .iface 92 (.agg #[.int .i64 beg, .int .i64 e]), recovered := false }]
end
theorem zf {P : Program} {fn : Func} {R : Ending → World → Prop} {a : Act} {w : World} {chain : List PanicEntry} (hd : a.defers = []) (hR : R (.panicked chain) w) : bodyPost P fn R (.panic chain) a w := ⟨hd, hR⟩
theorem xo (b : Nat) (s : ByteArray) (beg k op e : Int) (w : World) (h : Rd w b s beg k op) :
  Calls Tryz.prog 165 #[.pointer (some ⟨b, 0, none⟩), .int .i64 e] w fun en w' => en = flt beg e ∧ w = w' := by
 have h1 := h.c1;have hf := h.fz 1;have HF : Hid (flt beg e = .panicked [{ v := .iface 92 (.agg #[.int .i64 beg, .int .i64 e]), recovered := false }]) := rfl;generalize flt beg e = z at *
 go_enter Tryz.func165, Tryz.ntmps165
 go_wp2
 exact zf rfl ⟨HF.out.symm, rfl⟩
theorem uH (b : Nat) (s : ByteArray) (hs : s.size ≤ 1000000) (beg op : Int) (k : Nat) (w : World) (h : Rd w b s beg k op) (hk : k < s.size) :
  Calls Tryz.prog 168 #[.pointer (some ⟨b, 0, none⟩)] w fun en w' => en = .returned (.int .u8 (s[k].toNat : Int)) ∧ Rd w' b s beg (k + 1 : Nat) op ∧ Off b w w' := by
 have H := za h;have h0 := h.c0;have h2 := h.c2;have hf := h.fz 2;have hne : ((k : Int) == (s.size : Int)) = false := by rw [zb]; omega
 clear h
 go_enter Tryz.func168, Tryz.ntmps168
 go_wp2_with fail
 go_quiet (fail)
 go_wp2_with fail
 go_quiet (fail)
 go_wp2_with fail;go_ret;exact ⟨rfl, ((H.out.drewN _).s2 _), ((Off.refl b _).drewN _).set _ _⟩
theorem uO (b : Nat) (s : ByteArray) (hs : s.size ≤ 1000000) (beg op : Int) (k : Nat) (w : World) (h : Rd w b s beg k op) (hk : k = s.size) :
  Calls Tryz.prog 168 #[.pointer (some ⟨b, 0, none⟩)] w fun en w' => en = flt beg 5 ∧ Off b w w' := by
 subst hk;have H := za h;have h0 := h.c0;have h2 := h.c2;have hf := h.fz 2;have G := za (fun w h => xo b s beg (s.size : Nat) op 5 w h);clear h
 go_enter Tryz.func168, Tryz.ntmps168
 go_wp2_with fail
 go_quiet (fail)
 go_wp2_with fail;refine (G.out _ (H.out.drewN _)).mono ?_; rintro e w' ⟨rfl, rfl⟩;unfold flt;go_wp2_with fail
 trace_state
 exact zf rfl ⟨rfl, ((Off.refl b _).drewN _)⟩
def Bld (w : World) (B b : Nat) (l : List UInt8) : Prop := Lib.IsBuilder 112 5 B b (Lib.byteCells l) w
theorem zhp {T e : TypeId} {B b rb : Nat} {p : Value} {bs : List Value} {w w' : World} (h : Lib.BuilderAt T e B b p bs w) (o : Off rb w w') (hr : rb < B) : Lib.BuilderAt T e B b p bs w' := by
 have hlt := h.lt;obtain ⟨hB, v, hb, hown, hne⟩ := h;refine ⟨hB, v, (o.block b hlt (by omega)).trans hb, hown.kept (row := some rb) ⟨o.os, o.tape, o.output, o.size, fun k hk hr2 => o.block k hk (fun e => hr2 (by rw [e]))⟩ (.inr ?_), hne⟩;intro e2;rcases hown.2 with ⟨rfl, _⟩ | ⟨g, cap, cur, rfl, hg, _⟩
 ·simp [Value.ownBlock] at e2
 ·simp only [Value.ownBlock, Option.some.injEq] at e2; omega
theorem Bld.off {w w' : World} {B b rb : Nat} {l : List UInt8} (h : Bld w B b l) (o : Off rb w w') (hr : rb < B) : Bld w' B b l := by
 rcases h with h | h
 ·exact .inl (zhp h o hr)
 ·exact .inr (zhp h o hr)
theorem Bld.new (w : World) : Bld (w.alloc (.cells #[.pointer none, .slice none 0 0] 112)) w.heap.size w.heap.size [] := Lib.fresh_isBuilder _ _ w
theorem zkr : (Tryz.prog.info? 112).map (·.size) = some 2 := by kernel_rfl
theorem zoe : liesAt Tryz.prog Tryz.prog.depth 112 (2 / Tryz.prog.cellsOf 112) 0 112 1 = true := by kernel_rfl
theorem zgb : (Tryz.prog.info? 5).map (fun i => (i.zero, i.size, i.bytes)) = some (some (.int .u8 0), 1, 1) := by kernel_rfl
theorem vx (l m : List UInt8) : Lib.byteCells (l ++ m) = Lib.byteCells l ++ Lib.byteCells m := by simp [Lib.byteCells]
theorem zgc (b : Nat) (w : World) (h0 : w.cell? ⟨b, 0, none⟩ = some (.pointer (some ⟨b, 0, none⟩))) :
  Calls Tryz.prog 105 #[.pointer (some ⟨b, 0, none⟩)] w fun e w' => e = .returned (.tuple #[]) ∧ w = w' := by
 obtain ⟨j, hj, _⟩ := Option.map_eq_some_iff.1 zkr
 go_enter Tryz.func105, Tryz.ntmps105
 go_wp2
 rw [Lib.run_neq_ptr_same w _ Tryz.underlying109 hj]
 go_wp2
 go_end0
 exact ⟨rfl, rfl⟩
theorem zeV (b : Nat) (w : World) (h0 : w.cell? ⟨b, 0, none⟩ = some (.pointer none)) (hsh : w.shape? b = some (112, 2)) (hfz : w.frozen? ⟨b, 0, none⟩ = false) :
  Calls Tryz.prog 105 #[.pointer (some ⟨b, 0, none⟩)] w fun e w' => e = .returned (.tuple #[]) ∧ w' = w.setCell ⟨b, 0, none⟩ (.pointer (some ⟨b, 0, none⟩)) := by
 obtain ⟨j, hj, hjs⟩ := Option.map_eq_some_iff.1 zkr
 go_enter Tryz.func105, Tryz.ntmps105
 go_wp2
 rw [Lib.run_to_unsafe w ⟨b, 0, none⟩ Tryz.underlying109 Tryz.underlying159 hj (by rw [hjs]; decide) hsh (Nat.zero_lt_succ 1)];simp only [Result.andThen];rw [Oper.upon_value]
 go_wp2
 rw [run_callFunc_extern Tryz.func154 (by kernel_rfl) (by kernel_rfl) (by kernel_rfl) (e := Extern.AbiNoEscape.same) (by kernel_rfl), Lib.run_noEscape];simp only [Result.andThen];rw [Oper.upon_value]
 go_wp2
 rw [Lib.run_from_unsafe w ⟨b, 0, none⟩ Tryz.underlying159 Tryz.underlying109 hj hsh zoe];simp only [Result.andThen];rw [Oper.upon_value]
 go_wp2
 go_end0
 exact ⟨rfl, rfl⟩
theorem uw (B b : Nat) (bs : List Value) (w : World) (h : Lib.IsBuilder 112 5 B b bs w) :
  Calls Tryz.prog 105 #[.pointer (some ⟨b, 0, none⟩)] w fun e w' => e = .returned (.tuple #[]) ∧ Lib.BuilderAt 112 5 B b (.pointer (some ⟨b, 0, none⟩)) bs w' ∧ Below B w w' := by
 rcases h with h | h
 ·refine (zeV b w h.cell0 h.shape h.frozen0).mono ?_;rintro e w' ⟨rfl, rfl⟩;exact ⟨rfl, h.used _, (ze B w).setCell (p := ⟨b, 0, none⟩) h.1 _⟩
 ·refine (zgc b w h.cell0).mono ?_;rintro e w' ⟨rfl, rfl⟩;exact ⟨rfl, h, ze B _⟩
theorem zgd (B b : Nat) (bs : List Value) (x : UInt8) (w : World) (h : Lib.IsBuilder 112 5 B b bs w) (hl : bs.length ≤ 1000000) (hBw : B ≤ w.heap.size) :
  Calls Tryz.prog 157 #[.pointer (some ⟨b, 0, none⟩), .int .u8 (x.toNat : Int)] w fun e w' => e = .returned .nilIface ∧ Lib.BuilderAt 112 5 B b (.pointer (some ⟨b, 0, none⟩)) (bs ++ [.int .u8 (x.toNat : Int)]) w' ∧ Below B w w' := by
 obtain ⟨i0, hi, hz0, hz1, hz2⟩ := info_parts zgb
 go_enter Tryz.func157, Tryz.ntmps157
 go_wp2_with fail;refine (uw B b bs _ h).mono ?_;rintro e w1 ⟨rfl, h1, hb1⟩;obtain ⟨hB, v, hbk, hown, hne⟩ := h1;have c1 : w1.cell? ⟨b, 1, none⟩ = some v := by rw [Lib.cell_of_heap hbk]; rfl
 go_wp2_with (at_builtin; refine wpList_append_own _ rfl _ _ 110 rfl B 5 i0 (.int .u8 0) 1 1 Tryz.underlying110 hi hz0 hz1 hz2 rfl (by decide) _ _ _ rfl (hown.alloc _) ⟨w1.heap.size, 0, none⟩ 1 1 [.int .u8 (x.toNat : Int)] rfl rfl ?c1 ?c2 ?c3 ?c4 ?c5 ?_)
 case c1 =>
  intro j u hj
  match j, hj with
  | 0, hj => simp at hj; subst hj; simp [Addr.add]
 case c2 => intro u hu; simp at hu; subst hu; rfl
 case c3 => unfold maxLen; omega
 case c4 => omega
 case c5 => have := hb1.size; simp; omega
 intro v' w2 hown' hgrow _;have hlt : b < w1.heap.size := Lib.BuilderAt.lt ⟨hB, v, hbk, hown, hne⟩;have hb2 : w2.heap[b]? = some (.cells #[.pointer (some ⟨b, 0, none⟩), v] 112 (0, 0)) := by
  rw [hgrow.block b (by simp; omega) (fun e => hne e.symm), Lib.alloc_old w1 _ b hlt];exact hbk
 have d1 : w2.cell? ⟨b, 1, none⟩ = some v := by rw [Lib.cell_of_heap hb2]; rfl
 have f1 : w2.frozen? ⟨b, 1, none⟩ = false := Lib.frozen_of_heap hb2 1;obtain ⟨g, cap, rfl⟩ : ∃ g cap, v' = .slice (some ⟨g, 0, none⟩) (bs.length + 1) cap := by
  rcases hown'.2 with ⟨_, h0⟩ | ⟨g, cap, cur, hv, _⟩
  ·omega
  ·exact ⟨g, cap, hv⟩
 go_wp2
 go_ret;refine ⟨rfl, ?_, ?_⟩
 ·exact Lib.BuilderAt.put (T := 112) (e := 5) hB hb2 (bs' := bs ++ [.int .u8 (x.toNat : Int)]) (by simpa using hown') (by decide)
 ·exact ((hb1.alloc (by have := hb1.size; omega) _).grown hgrow (by have := hb1.size; simp; omega) (fun k hk => (hown.lt k hk).1)).setCell (p := ⟨b, 1, none⟩) hB _
theorem zdn (B b : Nat) (bs : List Value) (s : ByteArray) (w : World) (h : Lib.IsBuilder 112 5 B b bs w) (hl : bs.length ≤ 1000000) (hs : s.size ≤ 1000000) (hBw : B ≤ w.heap.size) :
  Calls Tryz.prog 69 #[.pointer (some ⟨b, 0, none⟩), .string s] w fun e w' => e = .returned (.tuple #[.int .i64 s.size, .nilIface]) ∧ Lib.BuilderAt 112 5 B b (.pointer (some ⟨b, 0, none⟩)) (bs ++ Lib.strCells s) w' ∧ Below B w w' := by
 obtain ⟨i0, hi, hz0, hz1, hz2⟩ := info_parts zgb
 go_enter Tryz.func69, Tryz.ntmps69
 go_wp2_with fail;refine (uw B b bs _ h).mono ?_;rintro e w1 ⟨rfl, h1, hb1⟩;obtain ⟨hB, v, hbk, hown, hne⟩ := h1;have c1 : w1.cell? ⟨b, 1, none⟩ = some v := by rw [Lib.cell_of_heap hbk]; rfl
 go_wp2_with (at_builtin; refine Lib.wpList_append_own_string _ rfl _ _ 110 9 rfl B 5 i0 Tryz.underlying110 Tryz.underlying9 hi hz0 hz1 hz2 _ _ _ rfl hown s rfl ?c3 ?c4 ?c5 ?_)
 case c3 => unfold maxLen; omega
 case c4 => omega
 case c5 => have := hb1.size; omega
 intro v' w2 hown' hgrow _;have hlt : b < w1.heap.size := Lib.BuilderAt.lt ⟨hB, v, hbk, hown, hne⟩;have hb2 : w2.heap[b]? = some (.cells #[.pointer (some ⟨b, 0, none⟩), v] 112 (0, 0)) := by
  rw [hgrow.block b hlt (fun e => hne e.symm)];exact hbk
 have d1 : w2.cell? ⟨b, 1, none⟩ = some v := by rw [Lib.cell_of_heap hb2]; rfl
 have f1 : w2.frozen? ⟨b, 1, none⟩ = false := Lib.frozen_of_heap hb2 1;obtain ⟨ao, n', cap, rfl⟩ : ∃ ao n' cap, v' = .slice ao n' cap := by
  rcases hown'.2 with ⟨hv, _⟩ | ⟨g, cap, cur, hv, _⟩ <;> exact ⟨_, _, _, hv⟩
 go_wp2
 go_ret2;refine ⟨rfl, ?_, ?_⟩
 ·exact Lib.BuilderAt.put (T := 112) (e := 5) hB hb2 (bs' := bs ++ Lib.strCells s) (by simpa [Lib.strCells_length] using hown') (by decide)
 ·exact (hb1.grown hgrow (by have := hb1.size; omega) (fun k hk => (hown.lt k hk).1)).setCell (p := ⟨b, 1, none⟩) hB _
theorem vG (B b : Nat) (l : List UInt8) (x : UInt8) (w : World) (h : Bld w B b l) (hl : l.length ≤ 1000000) (hBw : B ≤ w.heap.size) :
  Calls Tryz.prog 157 #[.pointer (some ⟨b, 0, none⟩), .int .u8 (x.toNat : Int)] w fun e w' => e = .returned .nilIface ∧ Bld w' B b (l ++ [x]) ∧ Below B w w' :=
 (zgd B b _ x w h (by rw [Lib.byteCells_length]; exact hl) hBw).mono fun e w' ⟨h1, h2, h3⟩ => ⟨h1, .inr (by rw [vx]; exact h2), h3⟩
theorem zaX (B b : Nat) (l : List UInt8) (s : ByteArray) (w : World) (h : Bld w B b l) (hl : l.length ≤ 1000000) (hs : s.size ≤ 1000000) (hBw : B ≤ w.heap.size) :
  Calls Tryz.prog 69 #[.pointer (some ⟨b, 0, none⟩), .string s] w fun e w' => e = .returned (.tuple #[.int .i64 s.size, .nilIface]) ∧ Bld w' B b (l ++ s.data.toList) ∧ Below B w w' :=
 (zdn B b _ s w h (by rw [Lib.byteCells_length]; exact hl) hs hBw).mono fun e w' ⟨h1, h2, h3⟩ => ⟨h1, .inr (by rw [vx]; exact h2), h3⟩
theorem ju (B b : Nat) (l : List UInt8) (w : World) (h : Bld w B b l) (hBw : B ≤ w.heap.size) :
  Calls Tryz.prog 70 #[.pointer (some ⟨b, 0, none⟩)] w fun e w' => e = .returned (.string ⟨l.toArray⟩) ∧ Below B w w' := Tryz.Builder_String_any B b l w h hBw
theorem jh (s : ByteArray) (hs : s.size ≤ 1000000) (w : World) :
  Calls Tryz.prog 107 #[.string s] w fun e w' => e = .returned (.string s) ∧ Below w.heap.size w w' := by
 have C := za (fun w => Tryz.stringslite_Clone s w (by omega))
 go_enter Tryz.func107, Tryz.ntmps107
 go_wp2_with fail;refine (C.out _).mono ?_; rintro e w1 ⟨rfl, hB⟩;go_wp2_with fail;go_ret;exact ⟨rfl, hB⟩
def jv (c : Int) : Bool := decide ((97 ≤ c ∧ c ≤ 122) ∨ (65 ≤ c ∧ c ≤ 90) ∨ c = 95 ∨ c = 36)
def digB (c : Int) : Bool := decide (48 ≤ c ∧ c ≤ 57)
def npB (c : Int) : Bool := decide ((97 ≤ c ∧ c ≤ 122) ∨ (65 ≤ c ∧ c ≤ 90) ∨ c = 95 ∨ c = 36 ∨ (48 ≤ c ∧ c ≤ 57))
def xp (c : Int) : Int := if 48 ≤ c ∧ c ≤ 57 then c - 48 else if 97 ≤ c ∧ c ≤ 102 then c - 87 else if 65 ≤ c ∧ c ≤ 70 then c - 55 else 16
def valI (c : Int) : Int := if xp c = 16 then -1 else xp c
theorem vM (c : Int) : 0 ≤ xp c ∧ xp c ≤ 16 := by unfold xp; (repeat' split) <;> omega
def ci (c : UInt8) : Int := (c.toNat : Int)
theorem zof (c : UInt8) : 0 ≤ ci c := Int.natCast_nonneg _
theorem xY {c d : UInt8} (h : ci c = ci d) : c = d := by unfold ci at h; exact UInt8.toNat_inj.1 (by omega)
def bs (l : List UInt8) : ByteArray := ⟨l.toArray⟩
theorem zj (l : List UInt8) : (bs l).data.toList = l := rfl
theorem zbE {s : ByteArray} {l : List UInt8} (h : s.data.toList = l) : s = bs l := by
 subst h; unfold bs; rfl
theorem zfi (l : List UInt8) : (bs l).size = l.length := by unfold bs; simp [ByteArray.size]
def nmL : List UInt8 → Nat
 | [] => 0
 | c :: r => if npB (ci c) then nmL r + 1 else 0
theorem uP : ∀ R : List UInt8, nmL R ≤ R.length
 | [] => zd _
 | c :: r => by unfold nmL; have := uP r; split <;> simp <;> omega
def xI (R : List UInt8) : Nat := match R with | [] => 0 | c :: _ => if jv (ci c) then nmL R else 0
def zc4 : List (List UInt8) := [[98, 114, 101, 97, 107], [99, 97, 115, 101], [99, 97, 116, 99, 104], [99, 108, 97, 115, 115], [99, 111, 110, 115, 116], [99, 111, 110, 116, 105, 110, 117, 101], [100, 101, 98, 117, 103, 103, 101, 114], [100, 101, 102, 97, 117, 108, 116], [100, 101, 108, 101, 116, 101], [100, 111], [101, 108, 115, 101], [101, 110, 117, 109], [101, 120, 112, 111, 114, 116], [101, 120, 116, 101, 110, 100, 115], [102, 97, 108, 115, 101], [102, 105, 110, 97, 108, 108, 121], [102, 111, 114], [102, 117, 110, 99, 116, 105, 111, 110], [105, 102], [105, 109, 112, 108, 101, 109, 101, 110, 116, 115], [105, 109, 112, 111, 114, 116], [105, 110], [105, 110, 115, 116, 97, 110, 99, 101, 111, 102], [105, 110, 116, 101, 114, 102, 97, 99, 101], [108, 101, 116], [110, 101, 119], [110, 117, 108, 108], [112, 97, 99, 107, 97, 103, 101], [112, 114, 105, 118, 97, 116, 101], [112, 114, 111, 116, 101, 99, 116, 101, 100], [112, 117, 98, 108, 105, 99], [114, 101, 116, 117, 114, 110], [115, 116, 97, 116, 105, 99], [115, 117, 112, 101, 114], [115, 119, 105, 116, 99, 104], [116, 104, 105, 115], [116, 104, 114, 111, 119], [116, 114, 117, 101], [116, 114, 121], [116, 121, 112, 101, 111, 102], [118, 97, 114], [118, 111, 105, 100], [119, 104, 105, 108, 101], [119, 105, 116, 104], [121, 105, 101, 108, 100]]
def zV (P : List UInt8) : Bool := zc4.contains P
def yC (P : List UInt8) : Bool := !P.isEmpty && xI P == P.length && !zV P
def y6 (base : Int) : List UInt8 → Int → Option Int
 | [], n => some n
 | c :: r, n => if base ≤ xp (ci c) then none else if 9007199254740992 < n * base + xp (ci c) then none else y6 base r (n * base + xp (ci c))
def y7 (P : List UInt8) : Option Int :=
 if P = [48] then some 0
 else if P.take 2 = [48, 120] ∨ P.take 2 = [48, 88] then (if P.drop 2 = [] then none else y6 16 (P.drop 2) 0)
 else if P.head? = some 48 then none
 else y6 10 P 0
def xj : Nat → List UInt8 → Int → Option Int
 | 0, _, n => some n
 | _ + 1, [], _ => none
 | i + 1, c :: r, n => if xp (ci c) = 16 then none else xj i r (n * 16 + xp (ci c))
def q7 (R : List UInt8) : Option (List UInt8 × Nat) := match R with
 | [] => none
 | d :: r => if ci d = 92 ∨ ci d = 39 ∨ ci d = 34 then some ([d], 1) else if ci d = 110 then some ([10], 1) else if ci d = 114 then some ([13], 1)
  else if ci d = 116 then some ([9], 1) else if ci d = 48 then some ([0], 1) else if ci d = 117 then (match xj 4 r 0 with | none => none | some n => if zT n = 0 then none else some (xa n, 5)) else none
def xZ (R : List UInt8) : Option (List UInt8 × Nat) := match R with
 | [] => none
 | c :: r => if ci c = 92 then (match q7 r with | none => none | some (o, n) => some (o, n + 1)) else if ci c < 32 then none else some ([c], 1)
def txt (q : UInt8) : List UInt8 → Option (List UInt8 × Nat)
 | [] => none
 | c :: r => if c = q then some ([], 1) else match xZ (c :: r) with
  | none => none
  | some (o, n) => match txt q (r.drop (n - 1)) with
   | none => none
   | some (p, m) => some (o ++ p, n + m)
termination_by R => R.length
decreasing_by simp; omega
def qN : List (List UInt8) := [[123], [125], [40], [41], [91], [93], [46], [59], [44], [63], [58], [126], [60], [62], [60, 61], [62, 61], [61, 61, 61], [33, 61, 61], [43], [45], [42], [47], [37], [43, 43], [45, 45], [60, 60], [62, 62], [62, 62, 62], [38], [124], [94], [33], [38, 38], [124, 124], [61], [43, 61], [45, 61], [42, 61], [47, 61], [37, 61], [38, 61], [124, 61], [94, 61], [60, 60, 61], [62, 62, 61], [62, 62, 62, 61]]
def xm (P : List UInt8) : Bool := qN.contains P
def yl (R : List UInt8) : Nat → Nat
 | 0 => 0
 | n + 1 => if n + 1 ≤ R.length ∧ xm (R.take (n + 1)) = true then n + 1 else yl R n
theorem zaM (R : List UInt8) : ∀ n, yl R n ≤ n ∧ yl R n ≤ R.length
 | 0 => by simp [yl]
 | n + 1 => by
  have := zaM R n;unfold yl; split <;> omega
def qY : List UInt8 → Nat
 | [] => 0
 | c :: r => if c = 10 then 0 else qY r + 1
def vy : List UInt8 → Option Nat
 | [] => none
 | [_] => none
 | c :: d :: r => if c = 42 ∧ d = 47 then some 0 else (vy (d :: r)).map (· + 1)
def qa (c : UInt8) : Bool := c == 32 || c == 9 || c == 13 || c == 10
def vz (R : List UInt8) : Option Nat := match R with
 | a :: b :: r => if a = 47 ∧ b = 47 then some (qY (a :: b :: r)) else if a = 47 ∧ b = 42 then (vy r).map (· + 4) else some 0
 | _ => some 0
def gap : List UInt8 → Nat × Bool
 | [] => (0, true)
 | c :: r => if qa c then ((gap r).1 + 1, (gap r).2) else match vz (c :: r) with
  | none => (0, false)
  | some 0 => (0, true)
  | some (n + 1) => ((gap (r.drop n)).1 + (n + 1), (gap (r.drop n)).2)
termination_by R => R.length
decreasing_by all_goals (simp; try omega)
structure Tk where
 kind : Int
 pos : Int
 text : List UInt8
 bits : Int
def yh (R : List UInt8) : Option (Tk × Nat) := match R with
 | [] => none
 | c :: r =>
  if digB (ci c) then (match y7 ((c :: r).take (nmL (c :: r))) with | none => none | some n => some (⟨3, 0, [], ofI n⟩, nmL (c :: r)))
  else if npB (ci c) then some (⟨if zV ((c :: r).take (nmL (c :: r))) then 2 else 1, 0, (c :: r).take (nmL (c :: r)), 0⟩, nmL (c :: r))
  else if ci c = 39 ∨ ci c = 34 then (match txt c r with | none => none | some (o, m) => some (⟨4, 0, o, 0⟩, m + 1))
  else if yl (c :: r) 4 = 0 then none else some (⟨5, 0, (c :: r).take (yl (c :: r) 4), 0⟩, yl (c :: r) 4)
def yR (P : List UInt8) : Bool := P == [123] || P == [40] || P == [91]
def qh (P : List UInt8) : Bool := P == [125] || P == [41] || P == [93]
def yU (t : Tk) (op : Int) : Bool := t.kind == 5 && yR t.text && op == 240
def opA (t : Tk) (op : Int) : Int := if t.kind == 5 && yR t.text then op + 1 else if t.kind == 5 && qh t.text then max (op - 1) 0 else op
def vN (t : Tk) (a : Int) (x : Except (Int × Int) (List Tk)) : Except (Int × Int) (List Tk) := match x with | .error e => .error e | .ok l => .ok ({ t with pos := a } :: l)
def xe : List UInt8 → Int → Int → Except (Int × Int) (List Tk)
 | [], _, _ => .ok []
 | c :: r, a, op => match yh (c :: r) with
  | none => .error (a, 5)
  | some (t, n) => if yU t op then .error (a, 6) else match gap (r.drop (n - 1)) with
   | (k, false) => .error (a + n + k, 5)
   | (k, true) => vN t a (xe ((r.drop (n - 1)).drop k) (a + n + k) (opA t op))
termination_by R => R.length
decreasing_by simp; omega
def xq (R : List UInt8) (a op : Int) : Except (Int × Int) (List Tk) := match gap R with
 | (k, false) => .error (a + k, 5)
 | (k, true) => xe (R.drop k) (a + k) op
theorem q8 (c : UInt8) (r : List UInt8) (a op : Int) : xe (c :: r) a op = match yh (c :: r) with
  | none => .error (a, 5)
  | some (t, n) => if yU t op then .error (a, 6) else vN t a (xq (r.drop (n - 1)) (a + n) (opA t op)) := by
 rw [xe];split
 ·rfl
 ·split
  ·rfl
  ·unfold xq;generalize gap _ = g;rcases g with ⟨k, _ | _⟩ <;> rfl
def yQ (L : List UInt8) : Except (Int × Int) (List Tk) :=
 if 4096 < L.length then .error (0, 3) else match chk L 0 with
 | some k => .error (k, 4)
 | none => xq L 0 0
theorem uf (c : Int) (w : World) :
  Calls Tryz.prog 124 #[.int .u8 c] w fun e w' => e = .returned (.bool (digB c)) ∧ w = w' := by
 have HD : Hid (digB c = decide (48 ≤ c ∧ c ≤ 57)) := rfl;generalize digB c = z at *
 go_enter Tryz.func124, Tryz.ntmps124
 go_wp2
 all_goals
  go_ret;refine ⟨ret_bool ?_, rfl⟩;rw [HD.out, Bool.eq_iff_iff]; simp; try omega
theorem vX (c : Int) (w : World) :
  Calls Tryz.prog 126 #[.int .u8 c] w fun e w' => e = .returned (.bool (npB c)) ∧ w = w' := by
 have HD : Hid (npB c = decide ((97 ≤ c ∧ c ≤ 122) ∨ (65 ≤ c ∧ c ≤ 90) ∨ c = 95 ∨ c = 36 ∨ (48 ≤ c ∧ c ≤ 57))) := rfl;have C := za (fun w => uf c w);generalize npB c = z at *;by_cases hd : 48 ≤ c ∧ c ≤ 57
 ·have e : digB c = true := by unfold digB; simpa using hd
  rw [e] at C;clear e;obtain ⟨g0, g1⟩ := hd
  go_enter Tryz.func126, Tryz.ntmps126
  go_wp2_with (go_at_call 124; refine (C.out _).mono ?_; rintro e w' ⟨rfl, rfl⟩)
  go_ret;exact ⟨ret_bool (by rw [HD.out]; symm; rw [decide_eq_true_eq]; omega), rfl⟩
 ·have e : digB c = false := by unfold digB; simpa using hd
  rw [e] at C;clear e;have hd2 := za hd;clear hd
  go_enter Tryz.func126, Tryz.ntmps126
  go_wp2_with (go_at_call 124; refine (C.out _).mono ?_; rintro e w' ⟨rfl, rfl⟩)
  all_goals
   go_ret;refine ⟨ret_bool ?_, rfl⟩;have hd := hd2.out;rw [HD.out, Bool.eq_iff_iff];simp; try omega
theorem ji (c : Int) (h0 : 0 ≤ c) (h1 : c < 256) (w : World) :
  Calls Tryz.prog 189 #[.int .u8 c] w fun e w' => e = .returned (.int .i64 (xp c)) ∧ w = w' := by
 have HD : Hid (xp c = if 48 ≤ c ∧ c ≤ 57 then c - 48 else if 97 ≤ c ∧ c ≤ 102 then c - 87 else if 65 ≤ c ∧ c ≤ 70 then c - 55 else 16) := rfl;have C := za (fun w => uf c w);generalize xp c = z at *;by_cases hd : 48 ≤ c ∧ c ≤ 57
 ·have e : digB c = true := by unfold digB; simpa using hd
  rw [e] at C;clear e
  go_enter Tryz.func189, Tryz.ntmps189
  go_wp2_with (go_at_call 124; refine (C.out _).mono ?_; rintro e w' ⟨rfl, rfl⟩)
  go_ret;exact ⟨jB (by rw [HD.out, if_pos hd]), rfl⟩
 ·have e : digB c = false := by unfold digB; simpa using hd
  rw [e] at C;clear e
  go_enter Tryz.func189, Tryz.ntmps189
  go_wp2_with (go_at_call 124; refine (C.out _).mono ?_; rintro e w' ⟨rfl, rfl⟩)
  all_goals
   go_ret;refine ⟨jB ?_, rfl⟩;rw [HD.out]; (repeat' split) <;> omega
theorem zb3 {l : List (List UInt8)} {x a : List UInt8} (h : (x == a) = true) (ha : l.contains a = true) : l.contains x = true := by rw [eq_of_beq h]; exact ha
theorem zbc (s : ByteArray) (w : World) :
  Calls Tryz.prog 97 #[.string s] w fun e w' => e = .returned (.bool (zV s.data.toList)) ∧ w = w' := by
 have HW : Hid (zV s.data.toList = zc4.contains s.toList) := by show _ = _; rw [Lib.toList_data]; rfl
 generalize zV s.data.toList = z at *
 go_enter Tryz.func97, Tryz.ntmps97
 go_wp2
 all_goals
  go_ret;refine ⟨ret_bool ?_, rfl⟩;rw [HW.out];first
   | (refine (zb3 (by assumption) ?_).symm; decide)
   | (simp only [zc4, List.contains_cons, List.contains_nil, Bool.or_false, *]; done)
   | (exfalso; simp_all)
theorem zge (s : ByteArray) (w : World) :
  Calls Tryz.prog 170 #[.string s] w fun e w' => e = .returned (.bool (xm s.data.toList)) ∧ w = w' := by
 have HW : Hid (xm s.data.toList = qN.contains s.toList) := by show _ = _; rw [Lib.toList_data]; rfl
 generalize xm s.data.toList = z at *
 go_enter Tryz.func170, Tryz.ntmps170
 go_wp2
 all_goals
  go_ret;refine ⟨ret_bool ?_, rfl⟩;rw [HW.out];first
   | (refine (zb3 (by assumption) ?_).symm; decide)
   | (simp only [qN, List.contains_cons, List.contains_nil, Bool.or_false, *]; done)
   | (exfalso; simp_all)
theorem zcv {P : Program} {f : FuncId} {args : Array Value} {w : World} {n : Nat} {v : Value}
  (h : Calls P f args (w.drewN n) fun e w' => e = .returned v ∧ w.drewN n = w') : Calls P f args (w.drewN n) fun e w'' => e = .returned v ∧ ∃ m, w'' = w.drewN m :=
 h.mono fun _ _ ⟨he, hm⟩ => ⟨he, n, hm.symm⟩
theorem zaN {P : Program} {id : Nat} {Q : Exit → Act → World → Prop} {a : Act} {w : World} {l : List Oper} (n : Nat) (hm : P.follows .mixedOrders = true) (hB : Region.lexTailB .any l.toArray n = true)
  (h : wpStill P l.toArray w.drew (fun a' => wpList P l.toArray Q (l.drop n) a' w.drew) (l.take n) a) : (Code.region id l.toArray true).wp P Q a w := wp_region_still_tail n hm hB h
theorem zL (s : ByteArray) : s.data.toList.length = s.size := (Lib.size_eq s).symm
theorem zO (s : ByteArray) (k : Nat) (h : k < s.size) : s.data.toList.drop k = s[k] :: s.data.toList.drop (k + 1) := by
 rw [List.drop_eq_getElem_cons (by rw [zL]; exact h)]; rfl
theorem qo (s : ByteArray) (k : Nat) (h : s.size ≤ k) : s.data.toList.drop k = [] := List.drop_eq_nil_of_le (by rw [zL]; exact h)
theorem zdo {s : ByteArray} {k : Nat} (h : k < s.size) (hc : npB (s[k].toNat : Int) = true) : nmL (s.data.toList.drop k) = nmL (s.data.toList.drop (k + 1)) + 1 := by
 rw [zO s k h, nmL]; unfold ci; rw [hc]; rfl
theorem zks {s : ByteArray} {k : Nat} (h : k < s.size) (hc : npB (s[k].toNat : Int) = false) : nmL (s.data.toList.drop k) = 0 := by
 rw [zO s k h, nmL]; unfold ci; rw [hc]; rfl
theorem zhq {s : ByteArray} {k : Nat} (h : s.size ≤ k) : nmL (s.data.toList.drop k) = 0 := by rw [qo s k h]; rfl
theorem zkt {s : ByteArray} {k : Nat} (h : k ≤ s.size) : k + nmL (s.data.toList.drop k) ≤ s.size := by
 have := uP (s.data.toList.drop k); rw [List.length_drop, zL] at this; omega
theorem zan (b : Nat) (s : ByteArray) (hs : s.size ≤ 1000000) (beg op : Int) (k : Nat) (hk : k ≤ s.size) (w : World) (h : Rd w b s beg k op) :
  Calls Tryz.prog 167 #[.pointer (some ⟨b, 0, none⟩)] w fun en w' => en = .returned (.string (s.extract k (k + nmL (s.data.toList.drop k)))) ∧ Rd w' b s beg (k + nmL (s.data.toList.drop k) : Nat) op ∧ Off b w w' := by
 have H := za h;have h2 := h.c2;have hle := zkt hk;obtain ⟨n, hn⟩ : ∃ n, n = nmL (s.data.toList.drop k) := ⟨_, rfl⟩;rw [← hn] at hle ⊢;have HN := za hn;clear hn h
 go_enter Tryz.func167, Tryz.ntmps167
 go_wp2_with fail;clear h2
 go_loopg [] (s.size - k) (fun g wr => ∃ p : Nat, k ≤ p ∧ p ≤ s.size ∧ g = s.size - p ∧ Hid (Rd wr b s beg p op) ∧ Hid (Off b w wr) ∧ Hid (n + k = nmL (s.data.toList.drop p) + p))
 case atStart => exact ⟨k, by omega, by omega, rfl, H.out, Off.refl _ _, by show _ = _; rw [HN.out]⟩
 case round =>
  obtain ⟨p, hkp, hps, rfl, HR, HO, HE⟩ := hrel;have h0 := HR.out.c0;have h2 := HR.out.c2;have hf := HR.out.fz 2;by_cases hlt : p < s.size
  ·have C := za (fun w => vX (s[p].toNat : Int) w);have Y := za (@zdo s p hlt);have N := za (@zks s p hlt);cases hq : npB (s[p].toNat : Int)
   ·rw [hq] at C;have E := za (HE.out.trans (by rw [N.out hq, Nat.zero_add]));clear hq;go_wp2_with fail
    go_quiet ((go_at_call 126; first | exact zcv (C.out _) | exact quiet_two (C.out _)))
    go_wp2_with fail;refine zaN 10 (by kernel_rfl) (by kernel_rfl) ?_;simp only [List.take_succ_cons, List.take_zero, List.drop_succ_cons, List.drop_zero];generalize hwq : (wr.drewN nq).drew = wq;have HRq := za (hwq ▸ (HR.out.drewN nq).drew);have HOq := za (hwq ▸ (HO.out.drewN nq).drew);clear hwq h0 h2 hf HR HO;have g0 := HRq.out.c0;have g2 := HRq.out.c2
    repeat still_step
    refine wpStill_nil ?_;have K := za (fun w => jh (s.extract k p) (by rw [ByteArray.size_extract]; omega) w);go_wp2_with fail;refine (K.out _).mono ?_; rintro e w1 ⟨rfl, hB⟩;go_wp2_with fail;go_ret;obtain rfl : p = n + k := E.out.symm;rw [Nat.add_comm k n];exact ⟨rfl, HRq.out.below hB HRq.out.lt, HOq.out.below hB⟩
   ·rw [hq] at C;have E := za (HE.out.trans (by rw [Y.out hq]));clear hq;go_wp2_with fail
    go_quiet ((go_at_call 126; first | exact zcv (C.out _) | exact quiet_two (C.out _)))
    go_wp2_with fail
    go_roundg (s.size - (p + 1))
    case measure => omega
    case rel => exact ⟨p + 1, by omega, by omega, rfl, (HR.out.drewN _).s2 _, (HO.out.drewN _).set _ _, by show _ = _; rw [E.out]; omega⟩
  ·have hd : decide ((p : Int) < (s.size : Int)) = false := by rw [decide_eq_false_iff_not]; omega
   have E := za (HE.out.trans (by rw [zhq (by omega), Nat.zero_add]));go_wp2_with fail
   go_quiet (fail)
   go_wp2_with fail;refine zaN 10 (by kernel_rfl) (by kernel_rfl) ?_;simp only [List.take_succ_cons, List.take_zero, List.drop_succ_cons, List.drop_zero];generalize hwq : (wr.drewN nq).drew = wq;have HRq := za (hwq ▸ (HR.out.drewN nq).drew);have HOq := za (hwq ▸ (HO.out.drewN nq).drew);clear hwq h0 h2 hf HR HO;have g0 := HRq.out.c0;have g2 := HRq.out.c2
   repeat still_step
   refine wpStill_nil ?_;have K := za (fun w => jh (s.extract k p) (by rw [ByteArray.size_extract]; omega) w);go_wp2_with fail;refine (K.out _).mono ?_; rintro e w1 ⟨rfl, hB⟩;go_wp2_with fail;go_ret;obtain rfl : p = n + k := E.out.symm;rw [Nat.add_comm k n];exact ⟨rfl, HRq.out.below hB HRq.out.lt, HOq.out.below hB⟩
def zi2 (r : Option Int) : Int := r.getD 0
def zi3 (r : Option Int) : Bool := r.isSome
theorem zbd (base n : Int) : y6 base [] n = some n := rfl
theorem zbe {base : Int} {t : ByteArray} {j : Nat} (h : j < t.size) {n : Int} (hb : base ≤ xp (t[j].toNat : Int)) : y6 base (t.data.toList.drop j) n = none := by
 rw [zO t j h, y6]; unfold ci; rw [if_pos hb]
theorem zbf {base : Int} {t : ByteArray} {j : Nat} (h : j < t.size) {n : Int} (hb : ¬ base ≤ xp (t[j].toNat : Int)) (hn : 9007199254740992 < n * base + xp (t[j].toNat : Int)) : y6 base (t.data.toList.drop j) n = none := by
 rw [zO t j h, y6]; unfold ci; rw [if_neg hb, if_pos hn]
theorem zaq {base : Int} {t : ByteArray} {j : Nat} (h : j < t.size) {n : Int} (hb : ¬ base ≤ xp (t[j].toNat : Int)) (hn : ¬ 9007199254740992 < n * base + xp (t[j].toNat : Int)) : y6 base (t.data.toList.drop j) n = y6 base (t.data.toList.drop (j + 1)) (n * base + xp (t[j].toNat : Int)) := by
 rw [zO t j h, y6]; unfold ci; rw [if_neg hb, if_neg hn]
theorem vY {P : List UInt8} {x : UInt8} : Lib.hasPrefix P [48, x] = true ↔ P.take 2 = [48, x] := by
 unfold Lib.hasPrefix
 match P with
 | [] => simp [List.isPrefixOf]
 | [a] => simp [List.isPrefixOf]
 | a :: b :: r => simp [List.isPrefixOf]; exact ⟨fun ⟨h1, h2⟩ => ⟨h1.symm, h2.symm⟩, fun ⟨h1, h2⟩ => ⟨h1.symm, h2.symm⟩⟩
theorem yZ (s : ByteArray) (l : List UInt8) : (s.toList == l) = decide (s.data.toList = l) := by
 rw [Lib.toList_data, Bool.eq_iff_iff]; simp
def qI (r : Option Int) (w : World) (e : Ending) (w' : World) : Prop := ∃ n, e = .returned (.tuple #[.int .i64 (zi2 r), .bool (zi3 r)]) ∧ w' = w.drewN n
theorem vl {r : Option Int} {w : World} {n : Nat} (h : r = none) : qI r w (.returned (.tuple #[.int .i64 0, .bool false])) (w.drewN n) := ⟨n, by rw [h]; rfl, rfl⟩
theorem zaO {r : Option Int} {w : World} {n : Nat} {v : Int} (h : r = some v) : qI r w (.returned (.tuple #[.int .i64 v, .bool true])) (w.drewN n) := ⟨n, by rw [h]; rfl, rfl⟩
theorem zhr (s : ByteArray) (hs : s.size ≤ 1000000) (h0 : 0 < s.size) (p1 : (s.toList == [48]) = false) (p2 : Lib.hasPrefix s.data.toList [48, 120] = false) (p3 : Lib.hasPrefix s.data.toList [48, 88] = false) (p4 : ((s[0].toNat : Int) == 48) = false) (w : World) :
  Calls Tryz.prog 166 #[.string s] w (qI (y7 s.data.toList) w) := by
 have HQ : Hid (y7 s.data.toList = y6 10 s.data.toList 0) := by
  show _ = _
  have e1 : ¬ s.data.toList = [48] := by rw [yZ] at p1; simpa using p1
  have e2 : ¬ s.data.toList.take 2 = [48, 120] := fun h => by rw [vY.2 h] at p2; cases p2
  have e3 : ¬ s.data.toList.take 2 = [48, 88] := fun h => by rw [vY.2 h] at p3; cases p3
  have e4 : ¬ s.data.toList.head? = some 48 := by
   intro h;have hd := zO s 0 h0;rw [List.drop_zero] at hd;rw [hd] at h;injection h with h;rw [h] at p4;exact absurd p4 (by decide)
  unfold y7;rw [if_neg e1, if_neg (by simp [e2, e3]), if_neg e4]
 have P1 := za (fun w => Tryz.strings_HasPrefix s ⟨#[48, 120]⟩ w);have P2 := za (fun w => Tryz.strings_HasPrefix s ⟨#[48, 88]⟩ w);rw [show (⟨#[48, 120]⟩ : ByteArray).data.toList = [48, 120] from rfl, p2] at P1;rw [show (⟨#[48, 88]⟩ : ByteArray).data.toList = [48, 88] from rfl, p3] at P2;have hne : (s.toList == []) = false := by
  rw [yZ];have : s.data.toList ≠ [] := fun e => by have := zL s; rw [e] at this; simp at this; omega
  simpa using this
 have hne2 : s.toList.isEmpty = false := by
  rw [Lib.toList_data];have : s.data.toList ≠ [] := fun e => by have := zL s; rw [e] at this; simp at this; omega
  simpa using this
 generalize y7 s.data.toList = R at *;clear p2 p3
 go_enter Tryz.func166, Tryz.ntmps166
 go_wp2_with fail;refine (P1.out _).mono ?_; rintro e w' ⟨rfl, rfl⟩;go_wp2_with fail;refine (P2.out _).mono ?_; rintro e w' ⟨rfl, rfl⟩;go_wp2_with fail
 go_loop [5, 24] (fun nn ii => ∃ (j : Nat) (v : Int), ii = .int .i64 (j : Int) ∧ nn = .int .i64 v ∧ j ≤ s.size ∧ 0 ≤ v ∧ v ≤ 9007199254740992 ∧ Hid (y6 10 s.data.toList 0 = y6 10 (s.data.toList.drop j) v)) (fun _ ii => s.size - (intOf ii).toNat)
 case atStart => exact ⟨0, 0, rfl, rfl, by omega, by omega, by omega, rfl⟩
 case round =>
  obtain ⟨j, v, rfl, rfl, hj, hv0, hv1, HC⟩ := hrel;by_cases hlt : j < s.size
  ·have D := za (fun w => ji (s[j].toNat : Int) (Int.natCast_nonneg _) (by have := s[j].toNat_lt; omega) w);have B1 := za (@zbe 10 s j hlt v);have B2 := za (@zbf 10 s j hlt v);have B3 := za (@zaq 10 s j hlt v);have hr := vM (s[j].toNat : Int);generalize xp (s[j].toNat : Int) = d at *;obtain ⟨hr0, hr1⟩ := hr;by_cases hb : 10 ≤ d
   ·have E := za (HQ.out.trans (HC.out.trans (B1.out hb)));go_wp2_with fail;refine (D.out _).mono ?_; rintro e w' ⟨rfl, rfl⟩;go_wp2_with fail;go_ret2;exact vl (n := 0) E.out
   ·by_cases hn : 9007199254740992 < v * 10 + d
    ·have E := za (HQ.out.trans (HC.out.trans (B2.out hb hn)));go_wp2_with fail;refine (D.out _).mono ?_; rintro e w' ⟨rfl, rfl⟩;go_wp2_with fail;go_ret2;exact vl (n := 0) E.out
    ·have E := za (HC.out.trans (B3.out hb hn));go_wp2_with fail;refine (D.out _).mono ?_; rintro e w' ⟨rfl, rfl⟩;go_wp2_with fail
     go_round
     case rel => exact ⟨j + 1, v * 10 + d, by go_num, by go_num, by omega, by omega, by omega, E.out⟩
     case measure => simp [intOf]; omega
  ·have E := za (HQ.out.trans (HC.out.trans (by rw [qo s j (by omega), zbd])));go_wp2_with fail;go_ret2;exact zaO (n := 0) E.out
theorem zgf (s : ByteArray) (hs : s.size ≤ 1000000) (p1 : (s.toList == [48]) = true) (w : World) :
  Calls Tryz.prog 166 #[.string s] w (qI (y7 s.data.toList) w) := by
 have HQ : Hid (y7 s.data.toList = some 0) := by
  show _ = _
  have e1 : s.data.toList = [48] := by rw [yZ] at p1; simpa using p1
  unfold y7;rw [if_pos e1]
 generalize y7 s.data.toList = R at *
 go_enter Tryz.func166, Tryz.ntmps166
 go_wp2_with fail;go_ret2;exact zaO (n := 0) HQ.out
theorem zgg (s : ByteArray) (hs : s.size ≤ 1000000) (h0 : 0 < s.size) (p1 : (s.toList == [48]) = false) (p2 : Lib.hasPrefix s.data.toList [48, 120] = false) (p3 : Lib.hasPrefix s.data.toList [48, 88] = false) (p4 : ((s[0].toNat : Int) == 48) = true) (w : World) :
  Calls Tryz.prog 166 #[.string s] w (qI (y7 s.data.toList) w) := by
 have HQ : Hid (y7 s.data.toList = none) := by
  show _ = _
  have e1 : ¬ s.data.toList = [48] := by rw [yZ] at p1; simpa using p1
  have e2 : ¬ s.data.toList.take 2 = [48, 120] := fun h => by rw [vY.2 h] at p2; cases p2
  have e3 : ¬ s.data.toList.take 2 = [48, 88] := fun h => by rw [vY.2 h] at p3; cases p3
  have e4 : s.data.toList.head? = some 48 := by
   have hd := zO s 0 h0;rw [List.drop_zero] at hd;rw [hd];have : ci s[0] = ci 48 := by unfold ci; exact eq_of_beq p4
   rw [xY this]; rfl
  unfold y7;rw [if_neg e1, if_neg (by simp [e2, e3]), if_pos e4]
 have P1 := za (fun w => Tryz.strings_HasPrefix s ⟨#[48, 120]⟩ w);have P2 := za (fun w => Tryz.strings_HasPrefix s ⟨#[48, 88]⟩ w);rw [show (⟨#[48, 120]⟩ : ByteArray).data.toList = [48, 120] from rfl, p2] at P1;rw [show (⟨#[48, 88]⟩ : ByteArray).data.toList = [48, 88] from rfl, p3] at P2;generalize y7 s.data.toList = R at *;clear p2 p3
 go_enter Tryz.func166, Tryz.ntmps166
 go_wp2_with fail;refine (P1.out _).mono ?_; rintro e w' ⟨rfl, rfl⟩;go_wp2_with fail;refine (P2.out _).mono ?_; rintro e w' ⟨rfl, rfl⟩;go_wp2_with fail;go_ret2;exact vl (n := 0) HQ.out
theorem zgh (s t : ByteArray) (ht : t = s.extract 2 s.size) (hs : s.size ≤ 1000000) (h2 : 2 ≤ s.size) (p1 : (s.toList == [48]) = false) (p2 : Lib.hasPrefix s.data.toList [48, 120] = true) (w : World) :
  Calls Tryz.prog 166 #[.string s] w (qI (y7 s.data.toList) w) := by
 have hts : t.size = s.size - 2 := by rw [ht, ByteArray.size_extract]; omega
 have hdt : s.data.toList.drop 2 = t.data.toList := by rw [ht, Lib.extract_data, List.take_of_length_le (by rw [List.length_drop, zL] ; omega)]
 have HQ0 : Hid (y7 s.data.toList = if t.data.toList = [] then none else y6 16 t.data.toList 0) := by
  show _ = _
  have e1 : ¬ s.data.toList = [48] := by rw [yZ] at p1; simpa using p1
  have e2 : s.data.toList.take 2 = [48, 120] := vY.1 p2;unfold y7;rw [if_neg e1, if_pos (by simp [e2]), hdt]
 have P1 := za (fun w => Tryz.strings_HasPrefix s ⟨#[48, 120]⟩ w);rw [show (⟨#[48, 120]⟩ : ByteArray).data.toList = [48, 120] from rfl, p2] at P1;generalize y7 s.data.toList = R at *;have htl : t.size ≤ 1000000 := by omega
 have HT := za ht;have HTS := za hts;have hsl : (2 : Int) ≤ (s.size : Int) := by omega
 clear ht hts hdt p2 ;by_cases he : t.size = 0
 ·have hnil : t.data.toList = [] := List.eq_nil_of_length_eq_zero (by rw [zL]; exact he);have E := za (HQ0.out.trans (if_pos hnil));have hne : t.toList.isEmpty = true := by rw [Lib.toList_data, hnil]; rfl
  have hne2 : t.toList = [] := by rw [Lib.toList_data, hnil]
  have HN := za hne;have HN2 := za hne2;have HZ := za he;clear hnil hne hne2 he HQ0
  go_enter Tryz.func166, Tryz.ntmps166
  go_wp2_with fail;refine (P1.out _).mono ?_; rintro e w' ⟨rfl, rfl⟩;go_wp2_with fail
  go_quiet (fail)
  go_wp2_with fail;rw [← HT.out, ← HTS.out];have hz : ¬ 0 < t.size := by have := HZ.out; omega
  have q1 := HN.out;have q2 := HN2.out
  go_loop [5, 24] (fun nn ii => ii = .int .i64 0 ∧ nn = .int .i64 0) (fun _ _ => 0)
  case atStart => exact ⟨rfl, rfl⟩
  case round =>
   obtain ⟨rfl, rfl⟩ := hrel;have hz2 : ((t.size : Nat) : Int) = 0 := by omega
   go_wp2_with fail;go_ret2;exact vl E.out
 ·have hcons : ¬ t.data.toList = [] := fun e => he (by rw [← zL, e]; rfl)
  have HQ := za (HQ0.out.trans (if_neg hcons));have hne : (t.toList == []) = false := by rw [yZ]; simpa using hcons
  have hne2 : t.toList.isEmpty = false := by rw [Lib.toList_data]; simpa using hcons
  clear hcons he HQ0
  go_enter Tryz.func166, Tryz.ntmps166
  go_wp2_with fail;refine (P1.out _).mono ?_; rintro e w' ⟨rfl, rfl⟩;go_wp2_with fail
  go_quiet (fail)
  go_wp2_with fail;rw [← HT.out, ← HTS.out]
  go_loop [5, 24] (fun nn ii => ∃ (j : Nat) (v : Int), ii = .int .i64 (j : Int) ∧ nn = .int .i64 v ∧ j ≤ t.size ∧ 0 ≤ v ∧ v ≤ 9007199254740992 ∧ Hid (y6 16 t.data.toList 0 = y6 16 (t.data.toList.drop j) v)) (fun _ ii => t.size - (intOf ii).toNat)
  case atStart => exact ⟨0, 0, rfl, rfl, by omega, by omega, by omega, rfl⟩
  case round =>
   obtain ⟨j, v, rfl, rfl, hj, hv0, hv1, HC⟩ := hrel;by_cases hlt : j < t.size
   ·have D := za (fun w => ji (t[j].toNat : Int) (Int.natCast_nonneg _) (by have := t[j].toNat_lt; omega) w);have B1 := za (@zbe 16 t j hlt v);have B2 := za (@zbf 16 t j hlt v);have B3 := za (@zaq 16 t j hlt v);have hr := vM (t[j].toNat : Int);generalize xp (t[j].toNat : Int) = d at *;obtain ⟨hr0, hr1⟩ := hr;by_cases hb : 16 ≤ d
    ·have E := za (HQ.out.trans (HC.out.trans (B1.out hb)));go_wp2_with fail;refine (D.out _).mono ?_; rintro e w' ⟨rfl, rfl⟩;go_wp2_with fail;go_ret2;exact vl E.out
    ·by_cases hn : 9007199254740992 < v * 16 + d
     ·have E := za (HQ.out.trans (HC.out.trans (B2.out hb hn)));go_wp2_with fail;refine (D.out _).mono ?_; rintro e w' ⟨rfl, rfl⟩;go_wp2_with fail;go_ret2;exact vl E.out
     ·have E := za (HC.out.trans (B3.out hb hn));go_wp2_with fail;refine (D.out _).mono ?_; rintro e w' ⟨rfl, rfl⟩;go_wp2_with fail
      go_round
      case rel => exact ⟨j + 1, v * 16 + d, by go_num, by go_num, by omega, by omega, by omega, E.out⟩
      case measure => simp [intOf]; omega
   ·have E := za (HQ.out.trans (HC.out.trans (by rw [qo t j (by omega), zbd])));go_wp2_with fail;go_ret2;exact zaO E.out
theorem zgi (s t : ByteArray) (ht : t = s.extract 2 s.size) (hs : s.size ≤ 1000000) (h2 : 2 ≤ s.size) (p1 : (s.toList == [48]) = false) (p2 : Lib.hasPrefix s.data.toList [48, 120] = false) (p3 : Lib.hasPrefix s.data.toList [48, 88] = true) (w : World) :
  Calls Tryz.prog 166 #[.string s] w (qI (y7 s.data.toList) w) := by
 have hts : t.size = s.size - 2 := by rw [ht, ByteArray.size_extract]; omega
 have hdt : s.data.toList.drop 2 = t.data.toList := by rw [ht, Lib.extract_data, List.take_of_length_le (by rw [List.length_drop, zL] ; omega)]
 have HQ0 : Hid (y7 s.data.toList = if t.data.toList = [] then none else y6 16 t.data.toList 0) := by
  show _ = _
  have e1 : ¬ s.data.toList = [48] := by rw [yZ] at p1; simpa using p1
  have e2 : s.data.toList.take 2 = [48, 88] := vY.1 p3;unfold y7;rw [if_neg e1, if_pos (by simp [e2]), hdt]
 have P1 := za (fun w => Tryz.strings_HasPrefix s ⟨#[48, 120]⟩ w);rw [show (⟨#[48, 120]⟩ : ByteArray).data.toList = [48, 120] from rfl, p2] at P1;have P2 := za (fun w => Tryz.strings_HasPrefix s ⟨#[48, 88]⟩ w);rw [show (⟨#[48, 88]⟩ : ByteArray).data.toList = [48, 88] from rfl, p3] at P2;generalize y7 s.data.toList = R at *;have htl : t.size ≤ 1000000 := by omega
 have HT := za ht;have HTS := za hts;have hsl : (2 : Int) ≤ (s.size : Int) := by omega
 clear ht hts hdt p2 p3;by_cases he : t.size = 0
 ·have hnil : t.data.toList = [] := List.eq_nil_of_length_eq_zero (by rw [zL]; exact he);have E := za (HQ0.out.trans (if_pos hnil));have hne : t.toList.isEmpty = true := by rw [Lib.toList_data, hnil]; rfl
  have hne2 : t.toList = [] := by rw [Lib.toList_data, hnil]
  have HN := za hne;have HN2 := za hne2;have HZ := za he;clear hnil hne hne2 he HQ0
  go_enter Tryz.func166, Tryz.ntmps166
  go_wp2_with fail;refine (P1.out _).mono ?_; rintro e w' ⟨rfl, rfl⟩;go_wp2_with fail;refine (P2.out _).mono ?_; rintro e w' ⟨rfl, rfl⟩;go_wp2_with fail
  go_quiet (fail)
  go_wp2_with fail;rw [← HT.out, ← HTS.out];have hz : ¬ 0 < t.size := by have := HZ.out; omega
  have q1 := HN.out;have q2 := HN2.out
  go_loop [5, 24] (fun nn ii => ii = .int .i64 0 ∧ nn = .int .i64 0) (fun _ _ => 0)
  case atStart => exact ⟨rfl, rfl⟩
  case round =>
   obtain ⟨rfl, rfl⟩ := hrel;have hz2 : ((t.size : Nat) : Int) = 0 := by omega
   go_wp2_with fail;go_ret2;exact vl E.out
 ·have hcons : ¬ t.data.toList = [] := fun e => he (by rw [← zL, e]; rfl)
  have HQ := za (HQ0.out.trans (if_neg hcons));have hne : (t.toList == []) = false := by rw [yZ]; simpa using hcons
  have hne2 : t.toList.isEmpty = false := by rw [Lib.toList_data]; simpa using hcons
  clear hcons he HQ0
  go_enter Tryz.func166, Tryz.ntmps166
  go_wp2_with fail;refine (P1.out _).mono ?_; rintro e w' ⟨rfl, rfl⟩;go_wp2_with fail;refine (P2.out _).mono ?_; rintro e w' ⟨rfl, rfl⟩;go_wp2_with fail
  go_quiet (fail)
  go_wp2_with fail;rw [← HT.out, ← HTS.out]
  go_loop [5, 24] (fun nn ii => ∃ (j : Nat) (v : Int), ii = .int .i64 (j : Int) ∧ nn = .int .i64 v ∧ j ≤ t.size ∧ 0 ≤ v ∧ v ≤ 9007199254740992 ∧ Hid (y6 16 t.data.toList 0 = y6 16 (t.data.toList.drop j) v)) (fun _ ii => t.size - (intOf ii).toNat)
  case atStart => exact ⟨0, 0, rfl, rfl, by omega, by omega, by omega, rfl⟩
  case round =>
   obtain ⟨j, v, rfl, rfl, hj, hv0, hv1, HC⟩ := hrel;by_cases hlt : j < t.size
   ·have D := za (fun w => ji (t[j].toNat : Int) (Int.natCast_nonneg _) (by have := t[j].toNat_lt; omega) w);have B1 := za (@zbe 16 t j hlt v);have B2 := za (@zbf 16 t j hlt v);have B3 := za (@zaq 16 t j hlt v);have hr := vM (t[j].toNat : Int);generalize xp (t[j].toNat : Int) = d at *;obtain ⟨hr0, hr1⟩ := hr;by_cases hb : 16 ≤ d
    ·have E := za (HQ.out.trans (HC.out.trans (B1.out hb)));go_wp2_with fail;refine (D.out _).mono ?_; rintro e w' ⟨rfl, rfl⟩;go_wp2_with fail;go_ret2;exact vl E.out
    ·by_cases hn : 9007199254740992 < v * 16 + d
     ·have E := za (HQ.out.trans (HC.out.trans (B2.out hb hn)));go_wp2_with fail;refine (D.out _).mono ?_; rintro e w' ⟨rfl, rfl⟩;go_wp2_with fail;go_ret2;exact vl E.out
     ·have E := za (HC.out.trans (B3.out hb hn));go_wp2_with fail;refine (D.out _).mono ?_; rintro e w' ⟨rfl, rfl⟩;go_wp2_with fail
      go_round
      case rel => exact ⟨j + 1, v * 16 + d, by go_num, by go_num, by omega, by omega, by omega, E.out⟩
      case measure => simp [intOf]; omega
   ·have E := za (HQ.out.trans (HC.out.trans (by rw [qo t j (by omega), zbd])));go_wp2_with fail;go_ret2;exact zaO E.out
theorem whole_any (s : ByteArray) (hs : s.size ≤ 1000000) (h0 : 0 < s.size) (w : World) : Calls Tryz.prog 166 #[.string s] w (qI (y7 s.data.toList) w) := by
 have two : ∀ x, Lib.hasPrefix s.data.toList [48, x] = true → 2 ≤ s.size := by
  intro x hx;have := congrArg List.length (vY.1 hx);rw [List.length_take, zL] at this;simp at this; omega
 cases p1 : (s.toList == [48])
 ·cases p2 : Lib.hasPrefix s.data.toList [48, 120]
  ·cases p3 : Lib.hasPrefix s.data.toList [48, 88]
   ·cases p4 : ((s[0].toNat : Int) == 48)
    ·exact zhr s hs h0 p1 p2 p3 p4 w
    ·exact zgg s hs h0 p1 p2 p3 p4 w
   ·exact zgi s _ rfl hs (two _ p3) p1 p2 p3 w
  ·exact zgh s _ rfl hs (two _ p2) p1 p2 w
 ·exact zgf s hs p1 w
def jS (b : Nat) (s : ByteArray) (beg op : Int) (w : World) (r : Option (Value × Nat)) (e : Ending) (w' : World) : Prop :=
 match r with
 | some (v, k) => e = .returned v ∧ Rd w' b s beg (k : Nat) op ∧ Off b w w'
 | none => e = flt beg 5 ∧ Off b w w'
theorem y8 {b : Nat} {s : ByteArray} {beg op : Int} {w : World} {r : Option (Value × Nat)} {v : Value} {k : Nat} {e : Ending} {w' : World} (h : r = some (v, k)) (he : e = .returned v) (hr : Rd w' b s beg (k : Nat) op) (ho : Off b w w') : jS b s beg op w r e w' := by
 subst h; exact ⟨he, hr, ho⟩
theorem xd {b : Nat} {s : ByteArray} {beg op : Int} {w : World} {r : Option (Value × Nat)} {e : Ending} {w' : World} (h : r = none) (he : e = flt beg 5) (ho : Off b w w') : jS b s beg op w r e w' := by
 subst h; exact ⟨he, ho⟩
theorem uA (s : ByteArray) (k n : Nat) : (s.extract k (k + n)).data.toList = (s.data.toList.drop k).take n := by rw [Lib.extract_data]; congr 1; omega
def zdp (s : ByteArray) (k : Nat) : Option (Value × Nat) := match y7 ((s.data.toList.drop k).take (nmL (s.data.toList.drop k))) with | some v => some (.int .u64 (ofI v), k + nmL (s.data.toList.drop k)) | none => none
theorem zgj (b : Nat) (s : ByteArray) (hs : s.size ≤ 1000000) (beg op : Int) (k : Nat) (hk : k < s.size) (hc : npB (s[k].toNat : Int) = true) (w : World) (h : Rd w b s beg k op) :
  Calls Tryz.prog 125 #[.pointer (some ⟨b, 0, none⟩)] w (jS b s beg op w (zdp s k)) := by
 have N := za (fun w h => zan b s hs beg op k (by omega) w h);have hle := zkt (s := s) (k := k) (by omega);have h1 : 1 ≤ nmL (s.data.toList.drop k) := by rw [zdo hk hc]; omega
 have HPL := za (uA s k (nmL (s.data.toList.drop k)));have HR : Hid (zdp s k = match y7 ((s.data.toList.drop k).take (nmL (s.data.toList.drop k))) with | some v => some (.int .u64 (ofI v), k + nmL (s.data.toList.drop k)) | none => none) := rfl;rw [← HPL.out] at HR;have hsz : (s.extract k (k + nmL (s.data.toList.drop k))).size = nmL (s.data.toList.drop k) := by rw [ByteArray.size_extract]; omega
 generalize nmL (s.data.toList.drop k) = n at *;generalize s.extract k (k + n) = t at *;have W := za (fun w => whole_any t (by omega) (by omega) w);have H := za h;generalize zdp s k = R at *;clear h hsz hc HPL;generalize y7 t.data.toList = q at *
 go_enter Tryz.func125, Tryz.ntmps125
 go_wp2_with fail;refine (N.out _ H.out).mono ?_; rintro e w1 ⟨rfl, hR1, hO1⟩;have HR1 := za hR1;have HO1 := za hO1;clear hR1 hO1;go_wp2_with fail;refine (W.out _).mono ?_; rintro e w2 ⟨nd, rfl, rfl⟩;cases q with
 | none =>
  have G := za (fun w h => xo b s beg (k + n : Nat) op 5 w h);simp only [zi2, zi3, Option.getD_none, Option.isSome_none];go_wp2_with fail;refine (G.out _ (HR1.out.drewN _)).mono ?_; rintro e w' ⟨rfl, rfl⟩;unfold flt;go_wp2_with fail;exact zf rfl (xd HR.out rfl (HO1.out.drewN _))
 | some v =>
  have F := za (fun w => zhj v w);simp only [zi2, zi3, Option.getD_some, Option.isSome_some];go_wp2_with fail;refine (F.out _).mono ?_; rintro e w' ⟨rfl, rfl⟩;go_wp2_with fail;go_ret;exact y8 HR.out rfl (HR1.out.drewN _) (HO1.out.drewN _)
def zbF (s : ByteArray) (k : Nat) : Value := .tuple #[.int .i64 (if zV ((s.data.toList.drop k).take (nmL (s.data.toList.drop k))) = true then 2 else 1), .string (bs ((s.data.toList.drop k).take (nmL (s.data.toList.drop k))))]
theorem zi4 (b : Nat) (s : ByteArray) (hs : s.size ≤ 1000000) (beg op : Int) (k : Nat) (hk : k < s.size) (w : World) (h : Rd w b s beg k op) :
  Calls Tryz.prog 127 #[.pointer (some ⟨b, 0, none⟩)] w (jS b s beg op w (some (zbF s k, k + nmL (s.data.toList.drop k)))) := by
 have N := za (fun w h => zan b s hs beg op k (by omega) w h);have HPL := za (uA s k (nmL (s.data.toList.drop k)));have HR : Hid (zbF s k = .tuple #[.int .i64 (if zV ((s.data.toList.drop k).take (nmL (s.data.toList.drop k))) = true then 2 else 1), .string (bs ((s.data.toList.drop k).take (nmL (s.data.toList.drop k))))]) := rfl;rw [← HPL.out, ← zbE rfl] at HR;generalize nmL (s.data.toList.drop k) = n at *;generalize s.extract k (k + n) = t at *;have W := za (fun w => zbc t w);have H := za h;generalize zbF s k = R at *;clear h HPL;cases hq : zV t.data.toList
 ·rw [hq] at W HR;clear hq
  go_enter Tryz.func127, Tryz.ntmps127
  go_wp2_with fail;refine (N.out _ H.out).mono ?_; rintro e w1 ⟨rfl, hR1, hO1⟩;have HR1 := za hR1;have HO1 := za hO1;clear hR1 hO1;go_wp2_with fail;refine (W.out _).mono ?_; rintro e w' ⟨rfl, rfl⟩;go_wp2_with fail;go_ret2;exact y8 rfl (by rw [HR.out]; rfl) HR1.out HO1.out
 ·rw [hq] at W HR;clear hq
  go_enter Tryz.func127, Tryz.ntmps127
  go_wp2_with fail;refine (N.out _ H.out).mono ?_; rintro e w1 ⟨rfl, hR1, hO1⟩;have HR1 := za hR1;have HO1 := za hO1;clear hR1 hO1;go_wp2_with fail;refine (W.out _).mono ?_; rintro e w' ⟨rfl, rfl⟩;go_wp2_with fail;go_ret2;exact y8 rfl (by rw [HR.out]; rfl) HR1.out HO1.out
end Go.Proofs.YtfcgpphodacdmaaGreatDoor
