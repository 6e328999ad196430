/- Part of a proof: contracts of functions. -/
import Derived.Test.YtfcgpphodacdmaaGreatDoorY17
import Derived.Test.YtfcgpphodacdmaaGreatDoorY20
import Derived.Test.YtfcgpphodacdmaaGreatDoorY22
import Derived.Test.YtfcgpphodacdmaaGreatDoorY27
import Derived.Test.YtfcgpphodacdmaaGreatDoorY26
import Derived.Conc.MuLone
import Derived.Deep.RegionHeldLaw
set_option maxRecDepth 100000
set_option maxHeartbeats 4000000
set_option linter.all false
namespace Go.Proofs.YtfcgpphodacdmaaGreatDoor
open Go.RowKit
theorem zdB : ∀ args w, (callFunc 95 args).run Tryz.prog w = .ok (.enter 95 args) w := fun args w => Go.MuLone.run_callFunc_enter Tryz.func95 rfl rfl args w
theorem zgs : ∀ args w, (callFunc 60 args).run Tryz.prog w = .ok (.enter 60 args) w := fun args w => Go.MuLone.run_callFunc_enter Tryz.func60 rfl rfl args w
theorem zjq : ∀ args w, (callFunc 133 args).run Tryz.prog w = .ok (.enter 133 args) w := fun args w => Go.MuLone.run_callFunc_enter Tryz.func133 rfl rfl args w
theorem zla : ∀ args w, (callFunc 173 args).run Tryz.prog w = .ok (.enter 173 args) w := fun args w => Go.MuLone.run_callFunc_enter Tryz.func173 rfl rfl args w
theorem zcD : ∀ args w, (callFunc 178 args).run Tryz.prog w = .ok (.enter 178 args) w := fun args w => Go.MuLone.run_callFunc_enter Tryz.func178 rfl rfl args w
theorem zlb : ∀ args w, (callFunc 234 args).run Tryz.prog w = .ok (.enter 234 args) w := fun args w => Go.MuLone.run_callFunc_enter Tryz.func234 rfl rfl args w
structure Al (c : Cx) (k : Nat) : Prop where
 expr : Ok c .expr 149 #[c.p] k
 stmt : Ok c .statement 95 #[c.p] k
 elem : Ok c .element 60 #[c.p] k
 brac : Ok c .bracketed 174 #[c.p] k
 asg : Ok c .assign 178 #[c.p] k
 blk : Ok c .block 138 #[c.p] k
 cat : Ok c .catchIt 177 #[c.p] k
 forS : Ok c .forStart 175 #[c.p] k
 mak : Ok c .maker 230 #[c.p] k
 una : Ok c .unary 216 #[c.p] k
 dec : Ok c .decl 173 #[c.p] k
 par : Ok c .param 133 #[c.p] k
 prp : Ok c .prop 234 #[c.p] k
 opt : ∀ stop : List UInt8, stop ≠ [] → Ok c (.optional stop) 176 #[c.p, .string (bs stop)] k
 prt : OkX c .part 225 k
 cal : zgq c .called 226 k
 bin : ∀ l : Int, 1 ≤ l → l ≤ 11 → Ok c (.binary l) 203 #[c.p, .int .i64 l] k
 fun_ : ∀ (kind : Int) (x : List UInt8), Ok c (.function kind x) 93 #[c.p, .int .i64 kind, .string (bs x)] k
theorem zlc (c : Cx) (k : Nat) (H : ∀ j, k < j → Al c j) : Al c k := by
  have rw_ : ∀ (it : NT) (f : Nat), (∀ args w, (callFunc f args).run Tryz.prog w = .ok (.enter f args) w) → (∀ j, k < j → Ok c it f #[c.p] j) → ∀ j, k < j → zah c (.row it) 172 #[c.p, .func (.func f) #[c.p] #[]] j :=
    fun it f EG IH j hj => zlT c j it f EG fun i hi => IH i (by omega)
  have un_ : ∀ (stop : List UInt8) (it : NT) (f : Nat), stop ≠ [] → (∀ args w, (callFunc f args).run Tryz.prog w = .ok (.enter f args) w) → (∀ j, k < j → Ok c it f #[c.p] j) → ∀ j, k < j → OkL c (.untl stop it) 134 #[c.p, .string (bs stop), .func (.func f) #[c.p] #[]] j :=
    fun stop it f hs EG IH j hj => zhQ c j stop hs it f EG fun i hi => IH i (by omega)
  have li_ : ∀ (stop : List UInt8) (it : NT) (f : Nat), stop ≠ [] → (∀ args w, (callFunc f args).run Tryz.prog w = .ok (.enter f args) w) → (∀ j, k < j → Ok c it f #[c.p] j) → ∀ j, k < j → zah c (.list stop it) 132 #[c.p, .string (bs stop), .func (.func f) #[c.p] #[]] j :=
    fun stop it f hs EG IH j hj => ziY c j stop hs it f (rw_ it f EG IH j hj)
  have brac := zcU c k fun j hj => (H j hj).expr
  have fixed := zbb c k brac (fun j hj => (li_ [93] .assign _ (by decide) zcD (fun j hj => (H j hj).asg) j hj).ok) (fun j hj => (li_ [125] .prop _ (by decide) zlb (fun j hj => (H j hj).prp) j hj).ok) (fun j hj x => (H j hj).fun_ 31 x);have prim := zeU c k fixed;have newO := zc2 c k (fun j hj => (H j hj).mak) (fun j hj => (H j hj).cal);have mak := ziD c k newO prim (fun j hj => (H j hj).prt);have pnew := zbx c k newO prim;have memb := zg6 c k pnew (fun j hj => (H j hj).prt) (fun j hj => (H j hj).cal);have post := zfc c k memb;have una := ziF c k (fun j hj => (H j hj).una) post;have bin := fun (l : Int) (h1 : 1 ≤ l) (h2 : l ≤ 11) => zg8 c k l h1 h2 una (fun j hj => (H j hj).bin)
  have con := zjk c k (bin 1 (by decide) (by decide)) (fun j hj => (H j hj).asg);have asg := zgp c k con (fun j hj => (H j hj).asg);have exp := zjj c k asg (fun j hj => (H j hj).asg);have blk := zhT c k (un_ [125] .statement _ (by decide) zdB (fun j hj => (H j hj).stmt));have va := zjw c k (fun j hj => (rw_ .decl _ zla (fun j hj => (H j hj).dec) j hj).ok);have stmt := zcT c k blk va (zgG c k (fun j hj => (H j hj).brac) (fun j hj => (H j hj).stmt)) (zeY c k (fun j hj => (H j hj).brac) (fun j hj => (H j hj).stmt)) (zeZ c k (fun j hj => (H j hj).brac) (fun j hj => (H j hj).stmt))
    (ze2 c k (fun j hj => (H j hj).forS) (fun j hj => (H j hj).opt [59] (by decide)) (fun j hj => (H j hj).opt [41] (by decide)) (fun j hj => (H j hj).stmt)) (zed c k fun j hj => (H j hj).expr) (ze0 c k fun j hj => (H j hj).expr)
    (zhP c k (fun j hj => (H j hj).blk) (fun j hj => (H j hj).cat)) exp
  have fun_ := fun (kind : Int) (x : List UInt8) => zdi c k kind x (un_ [125] .element _ (by decide) zgs (fun j hj => (H j hj).elem)) (li_ [41] .param _ (by decide) zjq (fun j hj => (H j hj).par))
  exact {
    expr := exp, stmt := stmt, elem := zeX c k stmt (fun j hj x => (H j hj).fun_ 18 x), brac := brac, asg := asg, blk := blk, cat := ze1 c k fun j hj => (H j hj).blk
    forS := zdO c k va exp, mak := mak, una := una, dec := zjR c k fun j hj => (H j hj).asg, par := zhU c k, prp := ziX c k fun j hj => (H j hj).asg
    opt := fun stop hs => zdP c k stop hs exp, prt := zkl c k fun j hj => (H j hj).expr, cal := zgV c k (li_ [41] .assign _ (by decide) zcD (fun j hj => (H j hj).asg)), bin := bin, fun_ := fun_ }
theorem zmX (c : Cx) (k : Nat) (h : c.ts.length < k) : Al c k := by
 have no : ∀ w, ¬ In c w k := fun w hi => by have := hi.le; omega
 exact { expr := fun w hi => (no w hi).elim, stmt := fun w hi => (no w hi).elim, elem := fun w hi => (no w hi).elim, brac := fun w hi => (no w hi).elim, asg := fun w hi => (no w hi).elim, blk := fun w hi => (no w hi).elim, cat := fun w hi => (no w hi).elim, forS := fun w hi => (no w hi).elim, mak := fun w hi => (no w hi).elim, una := fun w hi => (no w hi).elim, dec := fun w hi => (no w hi).elim, par := fun w hi => (no w hi).elim, prp := fun w hi => (no w hi).elim, opt := fun _ _ w hi => (no w hi).elim, prt := fun w _ _ _ _ _ _ hi => (no w hi).elim, cal := fun w _ _ _ _ _ _ hi => (no w hi).elim, bin := fun _ _ _ w hi => (no w hi).elim, fun_ := fun _ _ w hi => (no w hi).elim }
theorem zhI (c : Cx) : ∀ (n k : Nat), c.ts.length < k + n → Al c k
 | 0, k, h => zmX c k h
 | n + 1, k, h => zlc c k fun j hj => zhI c n j (by omega)
theorem zgt (c : Cx) (w : World) (h : In c w 0) : Calls Tryz.prog 33 #[c.p] w (zkO c 0 w) :=
 zfa c 0 (fun j _ => (zhI c (c.ts.length + 1) j (by omega)).elem) w h
structure LN where
 kind : Int
 n : Nat
 size : Nat
 text : List UInt8
 bits : Int
def LN.cells (l : LN) : List Value := [.int .i64 l.kind, .int .i64 (l.n : Int), .int .i64 (l.size : Int), .string (bs l.text), .int .u64 l.bits]
mutual
def zp : Tr → List LN
 | .node k x b kids => ⟨k, kids.length, (zs kids).length + 1, x, b⟩ :: zs kids
def zs : List Tr → List LN
 | [] => []
 | t :: l => zp t ++ zs l
end
def qf (l : List LN) : List Value := l.flatMap LN.cells
theorem zin : (Tryz.prog.info? 40).map (fun i => (i.zero, i.size, i.bytes)) = some (some (.agg #[.int .i64 0, .int .i64 0, .int .i64 0, .string ⟨#[]⟩, .int .u64 0]), 5, 48) := by kernel_rfl
def zgR (tr : Tr) : Prop := ∀ (w : World) (S : Nat → Prop) (lo a : Nat), IsT w S (.pointer (some ⟨a, 0, none⟩)) tr → (∀ i, S i → i < lo) → lo ≤ w.heap.size → ∀ (row : Value) (n : Nat) (xs : List Value), n + (zp tr).length ≤ 100000 →
  w.ownsRow lo 40 5 row n xs →
  Calls Tryz.prog 34 #[.pointer (some ⟨a, 0, none⟩), row] w (fun e w' => ∃ row', e = .returned row' ∧ w'.ownsRow lo 40 5 row' (n + (zp tr).length) (xs ++ qf (zp tr)) ∧ Below lo w w')
theorem vi : ∀ a b : List Tr, zs (a ++ b) = zs a ++ zs b
 | [], b => rfl
 | t :: a, b => by rw [List.cons_append, zs, zs, vi a b, List.append_assoc]
theorem zbS (l : List Tr) (i : Nat) (h : i < l.length) : zs (l.take (i + 1)) = zs (l.take i) ++ zp l[i] := by
 rw [List.take_succ_eq_append_getElem h, vi]; simp [zs]
theorem zc0 (l : List Tr) (i : Nat) : (zs (l.take i)).length ≤ (zs l).length := by
 conv => rhs; rw [← List.take_append_drop i l, vi, List.length_append]
 omega
theorem yk (t : Tr) : 1 ≤ (zp t).length := by cases t; rw [zp, List.length_cons]; omega
theorem zbt : ∀ l : List Tr, l.length ≤ (zs l).length
 | [] => zd _
 | t :: l => by rw [zs, List.length_append, List.length_cons]; have := zbt l; have := yk t; omega
theorem zrn (xs r : List Value) (a b c d e u : Value) (n : Nat) (h : xs.length = n * 5) : (xs ++ [a, b, c, d, e] ++ r).set (n * 5 + 2) u = xs ++ ([a, b, u, d, e] ++ r) := by
 rw [List.append_assoc, List.set_append, if_neg (by omega), h, Nat.add_sub_cancel_left]; rfl
theorem zc1 (a b : List LN) : qf (a ++ b) = qf a ++ qf b := by unfold qf; rw [List.flatMap_append]
theorem zeo {w : World} {lo g m cap q : Nat} {T : TypeId} {xs : List Value} (h : w.ownsRow lo T 5 (.slice (some ⟨g, 0, none⟩) m cap) m xs) (hq : q < m * 5) (u : Value) :
  (w.setCell ⟨g, q, none⟩ u).ownsRow lo T 5 (.slice (some ⟨g, 0, none⟩) m cap) m (xs.set q u) := by
 obtain ⟨h1, h2⟩ := h;refine ⟨by rw [List.length_set]; exact h1, ?_⟩;rcases h2 with ⟨h, _⟩ | ⟨g', cap', cur, h3, h4, h5, h6, h7, h8, h9⟩
 ·cases h
 ·injection h3 with e1 e2 e3;injection e1 with e1; injection e1 with e1 _ _;subst e1; subst e3;refine .inr ⟨g, cap, cur.set! q u, rfl, h4, ?_, h6, h7, by simp [h8], ?_⟩
  ·simp [World.setCell, Array.getElem?_modify, h5]
  ·rw [← h9];simp [List.take_set]
theorem zj0 (k : Int) (x : List UInt8) (b : Int) (kids : List Tr) (IH : ∀ t ∈ kids, zgR t) : zgR (.node k x b kids) := by
  intro w S lo a h hS hlo row n xs hn hown;obtain ⟨_, _, _, _, v, vs, _, ha, hh, hr, hl, hk⟩ := h;have hal := hS _ ha;have c0 : w.cell? ⟨a, 0, none⟩ = some (.int .i64 k) := by simp [World.cell?, hh]
  have c1 : w.cell? ⟨a, 1, none⟩ = some (.string (bs x)) := by simp [World.cell?, hh]
  have c2 : w.cell? ⟨a, 2, none⟩ = some (.int .u64 b) := by simp [World.cell?, hh]
  have c3 : ∃ ao cp, v = .slice ao vs.length cp := by
    rcases hr with ⟨h1, ao, cp, h2⟩ | ⟨g, cp, h1, h2, h3⟩
    · exact ⟨ao, cp, by rw [h2, h1]; rfl⟩
    · exact ⟨_, cp, h2⟩
  obtain ⟨ao2, cp2, rfl⟩ := c3;have c3 : w.cell? ⟨a, 3, none⟩ = some (.slice ao2 kids.length cp2) := by rw [← hl]; simp [World.cell?, hh]
  obtain ⟨ao, cp, rfl⟩ : ∃ ao cp, row = .slice ao n cp := by
    rcases hown.2 with ⟨h1, h2⟩ | ⟨g, cp, cur, h1, _⟩
    · exact ⟨_, _, by rw [h1, h2]⟩
    · exact ⟨_, cp, h1⟩
  have hne : ∀ q : Nat, q < lo → some q ≠ (Value.slice ao n cp).ownBlock := fun q hq e => by have := (hown.lt q e.symm).1; omega
  have HL := za hl;have HKK := za hk;have HR := za hr;have hxl := za hown.1;clear hh hl hk hr
  go_enter Tryz.func34, Tryz.ntmps34
  go_wp2_with fail;obtain ⟨i0, hi, hz0, hz1', hz2⟩ := info_parts zin;have hown0 : w.ownsRow lo 40 5 (.slice ao n cp) n xs := hown;have hone : ∀ u ∈ [Value.int .i64 k, .int .i64 (kids.length : Int), .int .i64 0, .string (bs x), .int .u64 b], u.oneCell' = true := fun u hu => by
    simp only [List.mem_cons, List.not_mem_nil, or_false] at hu;rcases hu with rfl | rfl | rfl | rfl | rfl <;> rfl
  have hnews : ∀ j u, [Value.int .i64 k, .int .i64 (kids.length : Int), .int .i64 0, .string (bs x), .int .u64 b][j]? = some u → (w.alloc (.cells #[Value.int .i64 k, .int .i64 (kids.length : Int), .int .i64 0, .string (bs x), .int .u64 b] 40)).cell? ((⟨w.heap.size, 0, none⟩ : Addr).add j) = some u := World.news_of_block (heap_alloc_new w _);have h63 : n + 1 ≤ maxLen := by unfold maxLen; omega
  have hby : (n + 1) * 48 ≤ 140737488355328 := by omega
  have hba : lo ≤ (w.alloc (.cells #[Value.int .i64 k, .int .i64 (kids.length : Int), .int .i64 0, .string (bs x), .int .u64 b] 40)).heap.size := by simp; omega
  have hHH : (w.alloc (.cells #[Value.int .i64 k, .int .i64 (kids.length : Int), .int .i64 0, .string (bs x), .int .u64 b] 40)).heap.size = w.heap.size + 1 := by simp
  go_region_held_law (fun w' => w'.cell? ⟨a, 0, none⟩ = some (.int .i64 k) ∧ w'.cell? ⟨a, 1, none⟩ = some (.string (bs x)) ∧ w'.cell? ⟨a, 2, none⟩ = some (.int .u64 b) ∧ w'.cell? ⟨a, 3, none⟩ = some (.slice ao2 kids.length cp2))
    (refine ⟨?_, ?_, ?_, ?_⟩ <;> first | assumption | exact yx (zi (by assumption) _) | exact zi (yx (by assumption)) _ | exact yx (by assumption))
    (first | (refine step_append_lies _ rfl _ _ 22 rfl lo 40 i0 _ 5 48 Tryz.underlying22 hi hz0 hz1' hz2 rfl (by decide) _ _ _ rfl (hown0.alloc _) ⟨w.heap.size, 0, none⟩ 1 1 [.int .i64 k, .int .i64 (kids.length : Int), .int .i64 0, .string (bs x), .int .u64 b] rfl rfl hnews hone (by decide) h63 hby hba (w.heap.size + 1) hHH ?_
              intro g cap w1 hown1 hgrow hat hlt;have hal2 : a < (w.alloc (.cells #[Value.int .i64 k, .int .i64 (kids.length : Int), .int .i64 0, .string (bs x), .int .u64 b] 40)).heap.size := by rw [hHH]; omega
              have e0 := (hgrow.cell_far ⟨a, 0, none⟩ hal2 (hne a hal)).trans (yx (zi c0 _));have e1 := (hgrow.cell_far ⟨a, 1, none⟩ hal2 (hne a hal)).trans (yx (zi c1 _));have e2 := (hgrow.cell_far ⟨a, 2, none⟩ hal2 (hne a hal)).trans (yx (zi c2 _));have e3 := (hgrow.cell_far ⟨a, 3, none⟩ hal2 (hne a hal)).trans (yx (zi c3 _))))
  have hbel : Below lo w w1 := ((ze lo w).alloc hlo _).drew.grown hgrow (by rw [show ∀ o, (w.alloc o).drew.heap.size = (w.alloc o).heap.size from fun _ => rfl, hHH]; omega) (fun q hq => (hown.lt q hq).1);have HO1 := za hown1;clear e0 e1 e2 hgrow hat hlt hal2 hHH hba hby h63 hnews hone hown0 hi hz0 hz1' hz2 c0 c1 c2 c3 hown hown1;have hlen : (zp (.node k x b kids)).length = 1 + (zs kids).length := by rw [zp, List.length_cons]; omega
  rw [hlen] at hn;go_wp2_with fail
  go_loopg [1, 36] kids.length (fun g2 r2 i2 wr => ∃ (i : Nat) (r : Value), r2 = r ∧ i2 = .int .i64 (i : Int) ∧ g2 = kids.length - i ∧ i ≤ kids.length ∧ Hid (wr.ownsRow lo 40 5 r (n + 1 + (zs (kids.take i)).length) (xs ++ [Value.int .i64 k, .int .i64 (kids.length : Int), .int .i64 0, .string (bs x), .int .u64 b] ++ qf (zs (kids.take i)))) ∧ Hid (Below lo w wr))
  case atStart => exact ⟨0, _, rfl, rfl, rfl, Nat.zero_le _, by have h := HO1.out; show World.ownsRow _ _ _ _ _ _ _; simpa [zs, qf] using h, hbel⟩
  case round =>
    obtain ⟨i, r, hr2, rfl, rfl, hi, HR2, HB2⟩ := hrel;obtain ⟨ao3, cp3, rfl⟩ : ∃ ao3 cp3, r = Value.slice ao3 (n + 1 + (zs (kids.take i)).length) cp3 := by
      rcases HR2.out.2 with ⟨h1, h2⟩ | ⟨g, cp, cur, h1, _⟩
      · omega
      · exact ⟨_, cp, h1⟩
    subst hr2;have hge := zbt kids;by_cases hlt : i < kids.length
    · obtain ⟨g2, rfl, hcell⟩ : ∃ g2, ao2 = some ⟨g2, 0, none⟩ ∧ wr.cell? ⟨g2, i, none⟩ = some (vs[i]'(by rw [HL.out]; exact hlt)) := by
        rcases HR.out with ⟨h1, ao, cp, h2⟩ | ⟨g, cp, h1, h2, h3⟩
        · rw [h1] at HL; have := HL.out; simp at this; omega
        · injection h2 with h2 _ _;exact ⟨g, h2, (HB2.out.cell (p := ⟨g, i, none⟩) (hS g h1)).trans (h3 i (by rw [HL.out]; exact hlt))⟩
      have hT := (HKK.out i (by rw [HL.out]; exact hlt) hlt).keep (fun _ h => h) fun q hq => HB2.out.block q (hS q hq)
      obtain ⟨v2, hv2⟩ := hT.ptr;rw [hv2] at hcell hT;have HT := za hT;have HIN := za (kids[i]'hlt |> fun _ => List.getElem_mem hlt);have hle := zc0 kids (i + 1);rw [zbS kids i hlt, List.length_append] at hle;have hlo2 : lo ≤ wr.heap.size := Nat.le_trans hlo HB2.out.size;clear hT hv2;go_wp2_with fail;refine ((IH _ HIN.out) wr S lo v2 HT.out hS hlo2 _ (n + 1 + (zs (kids.take i)).length) _ (by omega) HR2.out).mono ?_;rintro e w2 ⟨row', rfl, hR3, hB3⟩;have HR3 : Hid (w2.ownsRow lo 40 5 row' (n + 1 + (zs (kids.take (i + 1))).length) (xs ++ [Value.int .i64 k, .int .i64 (kids.length : Int), .int .i64 0, .string (bs x), .int .u64 b] ++ qf (zs (kids.take (i + 1))))) := by
        rw [zbS kids i hlt, zc1, List.length_append, ← List.append_assoc, ← Nat.add_assoc]; exact hR3
      have HB3 := za (HB2.out.trans hB3);clear hR3 hB3;go_wp2_with fail
      go_roundg (kids.length - (i + 1))
      case measure => omega
      case rel => exact ⟨i + 1, row', rfl, rfl, rfl, hlt, HR3.out, HB3.out⟩
    · have he : i = kids.length := by omega
      subst he;rw [List.take_length] at HR2;obtain ⟨g3, cap3, cur, e3, h4, h5, h6, h7, h8, h9⟩ : ∃ g3 cap3 cur, Value.slice ao3 (n + 1 + (zs (kids.take kids.length)).length) cp3 = .slice (some ⟨g3, 0, none⟩) (n + 1 + (zs kids).length) cap3 ∧ lo ≤ g3 ∧ wr.heap[g3]? = some (.cells cur 40 (0, 0)) ∧ (n + 1 + (zs kids).length) ≤ cap3 ∧ cap3 ≤ maxLen ∧ cur.size = cap3 * 5 ∧ True := by
        rcases HR2.out.2 with ⟨_, h⟩ | ⟨g, cp, cur, h1, h2, h3, h4, h5, h6, _⟩
        · omega
        · exact ⟨g, cp, cur, by rw [List.take_length]; exact h1, h2, h3, h4, h5, h6, trivial⟩
      rw [e3] ;rw [List.take_length] at e3;rw [e3] at HR2;have cS : wr.cell? ⟨g3, n * 5 + 2, none⟩ = some (cur[n * 5 + 2]'(by omega)) := by simp [World.cell?, h5]
      have fS : wr.frozen? ⟨g3, n * 5 + 2, none⟩ = false := by simp [World.frozen?, h5]
      have dS : wr.drew.cell? ⟨g3, n * 5 + 2, none⟩ = _ := cS;have gS : wr.drew.frozen? ⟨g3, n * 5 + 2, none⟩ = false := fS;go_wp2_with fail;go_ret;have hq : n * 5 + 2 < (n + 1 + (zs kids).length) * 5 := by omega
      have hO := zeo HR2.out hq (.int .i64 ((n : Int) + 1 + ((zs kids).length : Int) - (n : Int)));rw [zrn _ _ _ _ _ _ _ _ n hxl.out] at hO;have hs : ((n : Int) + 1 + ((zs kids).length : Int) - (n : Int)) = (((zs kids).length + 1 : Nat) : Int) := by omega
      refine ⟨_, rfl, ?_, HB2.out.setCell h4 _⟩;rw [hlen, show n + (1 + (zs kids).length) = n + 1 + (zs kids).length by omega];rw [hs] at hO ⊢;exact hO
theorem zkI : ∀ t : Tr, zgR t
 | .node k x b kids => zj0 k x b kids fun t ht => zkI t
end Go.Proofs.YtfcgpphodacdmaaGreatDoor
namespace Go.Proofs.YtfcgpphodacdmaaGreatDoor
abbrev sg (q : List UInt8) : Tk := ⟨5, 0, q, 0⟩
abbrev wd (q : List UInt8) : Tk := ⟨2, 0, q, 0⟩
abbrev nmT (x : List UInt8) : Tk := ⟨1, 0, x, 0⟩
abbrev nuT (b : Int) : Tk := ⟨3, 0, [], b⟩
abbrev txT (x : List UInt8) : Tk := ⟨4, 0, x, 0⟩
def opT (q : List UInt8) : Tk := if zV q then wd q else sg q
def yP (t : Tr) : Bool := t.kids.isEmpty || t.kind == 28 || t.kind == 29 || t.kind == 31
def brT (t : Tr) (f : List Tk) : List Tk := if yP t then f else sg [40] :: (f ++ [sg [41]])
def zC : List (List Tk) → List Tk
 | [] => []
 | [f] => f
 | f :: g :: l => f ++ sg [44] :: zC (g :: l)
def xi (k : Int) (x : List UInt8) (b : Int) (f p e : List (List Tk)) : List Tk :=
  if k = 1 then f.flatten
  else if k = 2 ∨ k = 20 then sg [123] :: (f.flatten ++ [sg [125]])
  else if k = 3 then wd [118, 97, 114] :: (zC f ++ [sg [59]])
  else if k = 4 then nmT x :: (match p with | [a] => sg [61] :: a | _ => [])
  else if k = 5 then [sg [59]]
  else if k = 6 then sg [40] :: (f.flatten ++ [sg [41], sg [59]])
  else if k = 7 then match f with
    | [a, c] => wd [105, 102] :: sg [40] :: (a ++ sg [41] :: c)
    | [a, c, d] => wd [105, 102] :: sg [40] :: (a ++ sg [41] :: (c ++ wd [101, 108, 115, 101] :: d))
    | _ => []
  else if k = 8 then match f with
    | [a, c] => wd [119, 104, 105, 108, 101] :: sg [40] :: (a ++ sg [41] :: c)
    | _ => []
  else if k = 9 then match f with
    | [a, c] => wd [100, 111] :: (a ++ wd [119, 104, 105, 108, 101] :: sg [40] :: (c ++ [sg [41], sg [59]]))
    | _ => []
  else if k = 11 then [wd [98, 114, 101, 97, 107], sg [59]]
  else if k = 12 then [wd [99, 111, 110, 116, 105, 110, 117, 101], sg [59]]
  else if k = 13 then wd [114, 101, 116, 117, 114, 110] :: (p.flatten ++ [sg [59]])
  else if k = 14 then wd [116, 104, 114, 111, 119] :: (p.flatten ++ [sg [59]])
  else if k = 15 then wd [116, 114, 121] :: f.flatten
  else if k = 16 then wd [99, 97, 116, 99, 104] :: sg [40] :: nmT x :: sg [41] :: f.flatten
  else if k = 17 then wd [102, 105, 110, 97, 108, 108, 121] :: f.flatten
  else if k = 18 ∨ k = 31 then wd [102, 117, 110, 99, 116, 105, 111, 110] :: ((if x = [] then [] else [nmT x]) ++ sg [40] :: (zC f.dropLast ++ sg [41] :: f.getLastD []))
  else if k = 19 ∨ k = 27 then [nmT x]
  else if k = 21 then [nuT b]
  else if k = 22 then [txT x]
  else if k = 23 then [wd [116, 114, 117, 101]]
  else if k = 24 then [wd [102, 97, 108, 115, 101]]
  else if k = 25 then [wd [110, 117, 108, 108]]
  else if k = 26 then [wd [116, 104, 105, 115]]
  else if k = 28 then sg [91] :: (zC p ++ [sg [93]])
  else if k = 29 then sg [123] :: (zC f ++ [sg [125]])
  else if k = 30 then txT x :: sg [58] :: p.flatten
  else if k = 32 then p.flatten ++ [sg [46], if zV x then wd x else nmT x]
  else if k = 33 then match p, f with
    | [a, _], [_, c] => a ++ sg [91] :: (c ++ [sg [93]])
    | _, _ => []
  else if k = 34 then p.headD [] ++ sg [40] :: (zC p.tail ++ [sg [41]])
  else if k = 35 then wd [110, 101, 119] :: (p.headD [] ++ sg [40] :: (zC p.tail ++ [sg [41]]))
  else if k = 36 then opT x :: p.flatten
  else if k = 37 then (if b = 0 then sg x :: p.flatten else p.flatten ++ [sg x])
  else if k = 38 ∨ k = 39 ∨ k = 41 then match p with
    | [a, c] => a ++ opT x :: c
    | _ => []
  else if k = 40 then match p with
    | [a, c, d] => a ++ sg [63] :: (c ++ sg [58] :: d)
    | _ => []
  else if k = 42 then match p with
    | [a, c] => a ++ sg [44] :: c
    | _ => []
  else if k = 10 then (match f, e with
    | [a, _, _, g], [_, c, d, _] => wd [102, 111, 114] :: sg [40] :: (a ++ (c ++ sg [59] :: (d ++ sg [41] :: g)))
    | _, _ => [])
  else []
mutual
def tF : Tr → List Tk
 | .node k x b kids => xi k x b (tFs kids) (tPs kids) (tEs kids)
def tFs : List Tr → List (List Tk)
 | [] => []
 | t :: l => tF t :: tFs l
def tPs : List Tr → List (List Tk)
 | [] => []
 | t :: l => brT t (tF t) :: tPs l
def tEs : List Tr → List (List Tk)
 | [] => []
 | t :: l => (if t.kind = 5 then [] else tF t) :: tEs l
end
def pT (t : Tr) : List Tk := brT t (tF t)
theorem zA (k : Int) (x : List UInt8) (b : Int) (kids : List Tr) : tF (.node k x b kids) = xi k x b (tFs kids) (tPs kids) (tEs kids) := by rw [tF]
theorem yv : ∀ l : List Tr, tFs l = l.map tF
 | [] => by rw [tFs]; rfl
 | t :: l => by rw [tFs, yv l]; rfl
theorem yi : ∀ l : List Tr, tPs l = l.map pT
 | [] => by rw [tPs]; rfl
 | t :: l => by rw [tPs, yi l]; rfl
section
section
variable {E : Int} {t : Tr} {X R : List Tk}
theorem vJ {s : List UInt8} {R : List Tk} : isF E s R = (fx (hd E R) == s) := rfl
structure Nx1 (E : Int) (R : List Tk) : Prop where
 dot : isF E [46] R = false
 br : isF E [91] R = false
 call : isF E [40] R = false
 st : yG.contains (fx (hd E R)) = false
structure zc9 (E : Int) (X : List Tk) : Prop where
 pre : yg.contains (fx (hd E X)) = false
 st : yG.contains (fx (hd E X)) = false
 new : isF E [110, 101, 119] X = false
theorem uL (h : Nx1 E R) : D E (.memMore t) R (.ok (t, R)) := D.mk0 fun m => by
 simp only [zg, h.dot, h.br, h.call, zc, if_false]; rfl
theorem zbB {u : Tr} {R' : List Tk} (ho : zc9 E X) (h : D E .primary X (.ok (t, R))) (g : D E (.memMore t) R (.ok (u, R'))) (hn : yG.contains (fx (hd E R')) = false) : D E .unary X (.ok (u, R')) := by
 have h1 : D E .primaryOrNew X (.ok (t, R)) := D.mk1 h fun m h0 => by
  simp only [zg, ho.new, zc, if_false, h0]
 have h2 : D E .member X (.ok (u, R')) := D.mk2 h1 g fun m h0 h1 => by
  simp only [zg, h0, bnd, h1]
 have h3 : D E .postfx X (.ok (u, R')) := D.mk1 h2 fun m h0 => by
  simp only [zg, h0, bnd, hn, zc, if_false]; rfl
 exact D.mk1 h3 fun m h0 => by
  simp only [zg, ho.pre, ho.st, zc, if_false, h0]
theorem zkn (ho : zc9 E X) (h : D E .primary X (.ok (t, R))) (hn : Nx1 E R) : D E .unary X (.ok (t, R)) := zbB ho h (uL hn) hn.st
theorem zbC {l : Int} (h : D E .unary X (.ok (t, R))) (hn : yj (fx (hd E R)) < l) : D E (.binary l) X (.ok (t, R)) := by
 have h1 : D E (.binMore l t) R (.ok (t, R)) := D.mk0 fun m => by simp only [zg, if_pos hn]; rfl
 exact D.mk2 h h1 fun m h0 h1 => by simp only [zg, h0, bnd, h1]
theorem zbY (h : D E (.binary 1) X (.ok (t, R))) (hn : isF E [63] R = false) : D E .cond X (.ok (t, R)) :=
 D.mk1 h fun m h0 => by simp only [zg, h0, bnd, hn, zc, if_false]; rfl
theorem zda (h : D E .cond X (.ok (t, R))) (hn : xy.contains (fx (hd E R)) = false) : D E .assign X (.ok (t, R)) :=
 D.mk1 h fun m h0 => by simp only [zg, h0, bnd, hn, zc, if_false]; rfl
theorem uM (h : D E .assign X (.ok (t, R))) (hn : isF E [44] R = false) : D E .expr X (.ok (t, R)) := by
 have h1 : D E (.exprMore t) R (.ok (t, R)) := D.mk0 fun m => by simp only [zg, hn, zc, if_false]; rfl
 exact D.mk2 h h1 fun m h0 h1 => by simp only [zg, h0, bnd, h1]
structure NxA (E : Int) (R : List Tk) : Prop where
 n1 : Nx1 E R
 lev : yj (fx (hd E R)) < 1
 q : isF E [63] R = false
 set : xy.contains (fx (hd E R)) = false
theorem zdb (h : D E .unary X (.ok (t, R))) (hn : NxA E R) : D E .assign X (.ok (t, R)) := zda (zbY (zbC h hn.lev) hn.q) hn.set
theorem zmk (ho : zc9 E X) (h : D E .primary X (.ok (t, R))) (hn : NxA E R) : D E .assign X (.ok (t, R)) := zdb (zkn ho h hn.n1) hn
theorem zg9 (h : D E .expr X (.ok (t, sg [41] :: R))) : D E .primary (sg [40] :: X) (.ok (t, R)) := by
 have h1 : D E .bracketed (sg [40] :: X) (.ok (t, R)) := D.mk1 h fun m h0 => by
  have e : isF E [40] (sg [40] :: X) = true := rfl;have e2 : isF E [41] (sg [41] :: R) = true := rfl;simp only [zg, need, e, if_true, List.tail_cons, h0, bnd, e2]; rfl
 have h2 : D E .fixedPrimary (sg [40] :: X) (.ok (t, R)) := D.mk1 h1 fun m h0 => by
  have f : ∀ q : List UInt8, isF E q (sg [40] :: X) = ([40] == q) := fun q => rfl
  simp only [zg, f];exact h0
 exact D.mk1 h2 fun m h0 => by
  have k : (hd E (sg [40] :: X)).kind = 5 := rfl;simp only [zg, k];exact h0
theorem zha (X : List Tk) : zc9 E (sg [40] :: X) := ⟨rfl, rfl, rfl⟩
theorem xN {q : List UInt8} (hq : q = [41] ∨ q = [59] ∨ q = [93] ∨ q = [44] ∨ q = [125] ∨ q = [58]) : NxA E (sg q :: R) := by
 rcases hq with rfl | rfl | rfl | rfl | rfl | rfl <;> exact ⟨⟨rfl, rfl, rfl, rfl⟩, by show (0 : Int) < 1; decide, rfl, rfl⟩
end
end
section
section
variable {E : Int}
structure Pr (E : Int) (t : Tr) : Prop where
 rd : ∀ R, D E .primary (pT t ++ R) (.ok (t, R))
 op : ∀ R, zc9 E (pT t ++ R)
def Ep (E : Int) (t : Tr) : Prop := ∀ R, NxA E R → isF E [44] R = false → D E .expr (tF t ++ R) (.ok (t, R))
def Up (E : Int) (t : Tr) : Prop := ∀ R, NxA E R → D E .unary (tF t ++ R) (.ok (t, R))
theorem Pr.un {t : Tr} (h : Pr E t) {R : List Tk} (hn : Nx1 E R) : D E .unary (pT t ++ R) (.ok (t, R)) := zkn (h.op R) (h.rd R) hn
theorem Pr.asg {t : Tr} (h : Pr E t) {R : List Tk} (hn : NxA E R) : D E .assign (pT t ++ R) (.ok (t, R)) := zdb (h.un hn.n1) hn
theorem Up.ep {t : Tr} (h : Up E t) : Ep E t := fun R hn hc => uM (zdb (h R hn) hn) hc
theorem zpK {t : Tr} (hl : yP t = false) (h : Ep E t) : Pr E t := by
 have e : ∀ R, pT t ++ R = sg [40] :: (tF t ++ sg [41] :: R) := fun R => by
  unfold pT brT; rw [hl]; simp
 exact ⟨fun R => by rw [e]; exact zg9 (h _ (xN (.inl rfl)) rfl), fun R => by rw [e]; exact zha _⟩
theorem uI {t : Tr} (hl : yP t = true) : pT t = tF t := by unfold pT brT; rw [hl]; rfl
theorem zlo {t : Tr} (hl : yP t = true) (h : Pr E t) : Ep E t := fun R hn hc => by
 have e : pT t = tF t := by unfold pT brT; rw [hl]; rfl
 have := h.asg hn;rw [e] at this;exact uM this hc
theorem zhX (R : List Tk) : isF E [46] (sg [46] :: R) = true := rfl
theorem zpL (x : List UInt8) (b : Int) (f p e : List (List Tk)) : xi 32 x b f p e = p.flatten ++ [sg [46], if zV x then wd x else nmT x] := rfl
theorem zpM (x : List UInt8) (b : Int) (u c a v : List Tk) (e : List (List Tk)) : xi 33 x b [u, c] [a, v] e = a ++ sg [91] :: (c ++ [sg [93]]) := rfl
theorem zdT (x : List UInt8) (t : Tr) (R : List Tk) : tF (nd 32 x [t]) ++ R = pT t ++ sg [46] :: (if zV x then wd x else nmT x) :: R := by
 rw [nd, zA, zpL, yi]; simp
theorem zm6 {t : Tr} (h : Pr E t) (x : List UInt8) : Up E (nd 32 x [t]) := fun R hn => by
 rw [zdT];refine zbB (h.op _) (h.rd _) (R' := R) ?_ hn.n1.st;have h1 : D E (.part t) (sg [46] :: (if zV x then wd x else nmT x) :: R) (.ok (nd 32 x [t], R)) := D.mk0 fun m => by
  have k : (hd E ((if zV x then wd x else nmT x) :: R)).kind = 1 ∨ (hd E ((if zV x then wd x else nmT x) :: R)).kind = 2 := by
   show (if zV x then wd x else nmT x).kind = 1 ∨ (if zV x then wd x else nmT x).kind = 2
   split
   ·exact .inr rfl
   ·exact .inl rfl
  have k2 : (hd E ((if zV x then wd x else nmT x) :: R)).text = x := by
   show (if zV x then wd x else nmT x).text = x
   split <;> rfl
  simp only [zg, zhX, if_true, List.tail_cons, keyK, if_pos k, k2]; rfl
 exact D.mk2 h1 (uL (t := nd 32 x [t]) hn.n1) fun m h0 h2 => by simp only [zg, zhX, if_true, h0, bnd, h2]
theorem zdU (a c : Tr) (R : List Tk) : tF (nd 33 [] [a, c]) ++ R = pT a ++ sg [91] :: (tF c ++ sg [93] :: R) := by
 rw [nd, zA, yi, yv, List.map_cons, List.map_cons, List.map_nil, List.map_cons, List.map_cons, List.map_nil, zpM]; simp
theorem zm7 {a c : Tr} (h : Pr E a) (g : Ep E c) : Up E (nd 33 [] [a, c]) := fun R hn => by
 rw [zdU];refine zbB (h.op _) (h.rd _) (R' := R) ?_ hn.n1.st;have e1 : isF E [46] (sg [91] :: (tF c ++ sg [93] :: R)) = false := rfl;have e2 : isF E [91] (sg [91] :: (tF c ++ sg [93] :: R)) = true := rfl;have e3 : isF E [93] (sg [93] :: R) = true := rfl;have h1 : D E (.part a) (sg [91] :: (tF c ++ sg [93] :: R)) (.ok (nd 33 [] [a, c], R)) := D.mk1 (g (sg [93] :: R) (xN (.inr (.inr (.inl rfl)))) rfl) fun m h0 => by
  simp only [zg, e1, zc, if_false, need, e2, if_true, List.tail_cons, h0, bnd, e3]; rfl
 exact D.mk2 h1 (uL (t := nd 33 [] [a, c]) hn.n1) fun m h0 h2 => by simp only [zg, e1, zc, if_false, e2, if_true, h0, bnd, h2]
theorem zhY (it : NT) (f : Tr → List Tk) (R : List Tk) (hR : isF E [44] R = false) : ∀ (l : List Tr) (t : Tr), (∀ u ∈ t :: l, ∀ R', R' = R ∨ (∃ Y, R' = sg [44] :: Y) → D E it (f u ++ R') (.ok (u, R'))) → D E (.row it) (zC ((t :: l).map f) ++ R) (.ok (bag (t :: l), R)) := by
 have more : ∀ (l : List Tr), (∀ u ∈ l, ∀ R', R' = R ∨ (∃ Y, R' = sg [44] :: Y) → D E it (f u ++ R') (.ok (u, R'))) → D E (.rowMore it) ((l.map f).flatMap (fun g => sg [44] :: g) ++ R) (.ok (bag l, R)) := by
  intro l
  induction l with
  | nil => intro _; exact D.mk0 fun m => by simp only [zg, List.map_nil, List.flatMap_nil, List.nil_append, hR, zc, if_false]; rfl
  | cons u q ih =>
   intro h;have e : ((u :: q).map f).flatMap (fun g => sg [44] :: g) ++ R = sg [44] :: (f u ++ ((q.map f).flatMap (fun g => sg [44] :: g) ++ R)) := by simp
   rw [e];have e1 : isF E [44] (sg [44] :: (f u ++ ((q.map f).flatMap (fun g => sg [44] :: g) ++ R))) = true := rfl;have hh : (q.map f).flatMap (fun g => sg [44] :: g) ++ R = R ∨ ∃ Y, (q.map f).flatMap (fun g => sg [44] :: g) ++ R = sg [44] :: Y := by
    cases q with
    | nil => left; simp
    | cons v w => right; exact ⟨_, by simp; rfl⟩
   exact D.mk2 (h u (by simp) _ hh) (ih fun v hv => h v (by simp [hv])) fun m h0 h1 => by
    simp only [zg, e1, if_true, List.tail_cons, h0, bnd, h1]; rfl
 have ec : ∀ (l : List Tr) (t : Tr), zC ((t :: l).map f) = f t ++ (l.map f).flatMap (fun g => sg [44] :: g) := by
  intro l
  induction l with
  | nil => intro t; simp [zC]
  | cons u q ih => intro t; simp only [List.map_cons, zC] at ih ⊢; rw [ih u]; simp
 intro l t h;rw [ec, List.append_assoc];have hh : (l.map f).flatMap (fun g => sg [44] :: g) ++ R = R ∨ ∃ Y, (l.map f).flatMap (fun g => sg [44] :: g) ++ R = sg [44] :: Y := by
  cases l with
  | nil => left; simp
  | cons v w => right; exact ⟨_, by simp; rfl⟩
 exact D.mk2 (h t (by simp) _ hh) (more l fun v hv => h v (by simp [hv])) fun m h0 h1 => by
  simp only [zg, h0, bnd, h1]; rfl
theorem zce (it : NT) (f : Tr → List Tk) {q : List UInt8} (hq : q = [41] ∨ q = [93] ∨ q = [125]) (R : List Tk) (l : List Tr) (hne : ∀ u ∈ l, ∀ Y, isF E q (f u ++ Y) = false) (h : ∀ u ∈ l, ∀ R', NxA E R' → D E it (f u ++ R') (.ok (u, R'))) : D E (.list q it) (zC (l.map f) ++ sg q :: R) (.ok (bag l, R)) := by
 have e1 : isF E q (sg q :: R) = true := by rcases hq with rfl | rfl | rfl <;> rfl
 have e2 : isF E [44] (sg q :: R) = false := by rcases hq with rfl | rfl | rfl <;> rfl
 have hn : NxA E (sg q :: R) := by rcases hq with rfl | rfl | rfl; exact xN (.inl rfl); exact xN (.inr (.inr (.inl rfl))); exact xN (.inr (.inr (.inr (.inr (.inl rfl)))))
 cases l with
 | nil => exact D.mk0 fun m => by simp only [zg, List.map_nil, zC, List.nil_append, e1, if_true, List.tail_cons]; rfl
 | cons t l =>
  have e3 : isF E q (zC ((t :: l).map f) ++ sg q :: R) = false := by
   cases l with
   | nil => simp only [List.map_cons, List.map_nil, zC]; exact hne t (by simp) _
   | cons u w => simp only [List.map_cons, zC, List.append_assoc]; exact hne t (by simp) _
  refine D.mk1 (zhY it f (sg q :: R) e2 l t fun u hu R' hR' => h u hu R' ?_) fun m h0 => ?_
  ·rcases hR' with rfl | ⟨Y, rfl⟩
   ·exact hn
   ·exact xN (.inr (.inr (.inr (.inl rfl))))
  ·simp only [zg, e3, zc, if_false, h0, bnd, need, e1, if_true, List.tail_cons]; rfl
end
end
section
section
variable {E : Int}
def Nsh (E : Int) (t : Tr) : Prop := ∀ q, (q = [41] ∨ q = [93] ∨ q = [125]) → ∀ Y, isF E q (pT t ++ Y) = false
theorem zfT {q : List UInt8} (hq : q = [41] ∨ q = [93] ∨ q = [125]) (R : List Tk) (l : List Tr) (hs : ∀ t ∈ l, Nsh E t) (h : ∀ t ∈ l, Pr E t) : D E (.list q .assign) (zC (l.map pT) ++ sg q :: R) (.ok (bag l, R)) :=
 zce .assign pT hq R l (fun u hu Y => hs u hu q hq Y) fun u hu R' hn => (h u hu).asg hn
theorem znF (x : List UInt8) (b : Int) (f : List (List Tk)) (a : List Tk) (p e : List (List Tk)) : xi 34 x b f (a :: p) e = a ++ sg [40] :: (zC p ++ [sg [41]]) := rfl
theorem zcp (a : Tr) (l : List Tr) (R : List Tk) : tF (nd 34 [] (a :: l)) ++ R = pT a ++ sg [40] :: (zC (l.map pT) ++ sg [41] :: R) := by
 rw [nd, zA, yi, List.map_cons, znF]; simp
theorem zcP {a : Tr} {l : List Tr} (R : List Tk) (hs : ∀ t ∈ l, Nsh E t) (g : ∀ t ∈ l, Pr E t) : D E (.called a) (sg [40] :: (zC (l.map pT) ++ sg [41] :: R)) (.ok (bag (a :: l), R)) := by
 have e1 : isF E [40] (sg [40] :: (zC (l.map pT) ++ sg [41] :: R)) = true := rfl;exact D.mk1 (zfT (.inl rfl) R l hs g) fun m h0 => by simp only [zg, need, e1, if_true, List.tail_cons, h0, bnd]; rfl
theorem zmc {a : Tr} {l : List Tr} (h : Pr E a) (hs : ∀ t ∈ l, Nsh E t) (g : ∀ t ∈ l, Pr E t) : Up E (nd 34 [] (a :: l)) := fun R hn => by
 rw [zcp];refine zbB (h.op _) (h.rd _) (R' := R) ?_ hn.n1.st;have e1 : isF E [46] (sg [40] :: (zC (l.map pT) ++ sg [41] :: R)) = false := rfl;have e2 : isF E [91] (sg [40] :: (zC (l.map pT) ++ sg [41] :: R)) = false := rfl;have e3 : isF E [40] (sg [40] :: (zC (l.map pT) ++ sg [41] :: R)) = true := rfl;exact D.mk2 (zcP (a := a) R hs g) (uL (t := nd 34 [] (a :: l)) hn.n1) fun m h0 h2 => by
  simp only [zg, e1, e2, e3, zc, if_false, if_true, h0, bnd]; exact h2
theorem zp5 (x : List UInt8) (b : Int) (f : List (List Tk)) (a : List Tk) (p e : List (List Tk)) : xi 35 x b f (a :: p) e = wd [110, 101, 119] :: (a ++ sg [40] :: (zC p ++ [sg [41]])) := rfl
theorem zeG (a : Tr) (l : List Tr) (R : List Tk) : tF (nd 35 [] (a :: l)) ++ R = wd [110, 101, 119] :: (pT a ++ sg [40] :: (zC (l.map pT) ++ sg [41] :: R)) := by
 rw [nd, zA, yi, List.map_cons, zp5]; simp
theorem znG {a : Tr} {l : List Tr} (h : Pr E a) (hs : ∀ t ∈ l, Nsh E t) (g : ∀ t ∈ l, Pr E t) : Up E (nd 35 [] (a :: l)) := fun R hn => by
 rw [zeG];have e1 : isF E [46] (sg [40] :: (zC (l.map pT) ++ sg [41] :: R)) = false := rfl;have e2 : isF E [91] (sg [40] :: (zC (l.map pT) ++ sg [41] :: R)) = false := rfl;have e3 : isF E [40] (sg [40] :: (zC (l.map pT) ++ sg [41] :: R)) = true := rfl;have e4 : isF E [110, 101, 119] (wd [110, 101, 119] :: (pT a ++ sg [40] :: (zC (l.map pT) ++ sg [41] :: R))) = true := rfl;have h1 : D E (.makMore a) (sg [40] :: (zC (l.map pT) ++ sg [41] :: R)) (.ok (a, sg [40] :: (zC (l.map pT) ++ sg [41] :: R))) := D.mk0 fun m => by
  simp only [zg, e1, e2, zc, if_false]; rfl
 have h2 : D E .maker (pT a ++ sg [40] :: (zC (l.map pT) ++ sg [41] :: R)) (.ok (a, sg [40] :: (zC (l.map pT) ++ sg [41] :: R))) := D.mk2 (h.rd (sg [40] :: (zC (l.map pT) ++ sg [41] :: R))) h1 fun m h0 h3 => by
  simp only [zg, (h.op (sg [40] :: (zC (l.map pT) ++ sg [41] :: R))).new, zc, if_false, h0, bnd, h3]
 have h3 : D E .newObject (wd [110, 101, 119] :: (pT a ++ sg [40] :: (zC (l.map pT) ++ sg [41] :: R))) (.ok (nd 35 [] (a :: l), R)) := D.mk2 h2 (zcP (a := a) R hs g) fun m h0 h3 => by
  simp only [zg, need, e4, if_true, List.tail_cons, h0, bnd, e3, h3]; rfl
 have h4 : D E .primaryOrNew (wd [110, 101, 119] :: (pT a ++ sg [40] :: (zC (l.map pT) ++ sg [41] :: R))) (.ok (nd 35 [] (a :: l), R)) := D.mk1 h3 fun m h0 => by
  simp only [zg, e4, if_true, h0]
 have h5 : D E .member (wd [110, 101, 119] :: (pT a ++ sg [40] :: (zC (l.map pT) ++ sg [41] :: R))) (.ok (nd 35 [] (a :: l), R)) := D.mk2 h4 (uL (t := nd 35 [] (a :: l)) hn.n1) fun m h0 h1 => by
  simp only [zg, h0, bnd, h1]
 have h6 : D E .postfx (wd [110, 101, 119] :: (pT a ++ sg [40] :: (zC (l.map pT) ++ sg [41] :: R))) (.ok (nd 35 [] (a :: l), R)) := D.mk1 h5 fun m h0 => by
  simp only [zg, h0, bnd, hn.n1.st, zc, if_false]; rfl
 have e5 : yg.contains (fx (hd E (wd [110, 101, 119] :: (pT a ++ sg [40] :: (zC (l.map pT) ++ sg [41] :: R))))) = false := rfl;have e6 : yG.contains (fx (hd E (wd [110, 101, 119] :: (pT a ++ sg [40] :: (zC (l.map pT) ++ sg [41] :: R))))) = false := rfl;exact D.mk1 h6 fun m h0 => by simp only [zg, e5, e6, zc, if_false, h0]
theorem zaV (q : List UInt8) (R : List Tk) : fx (hd E (opT q :: R)) = q ∧ (hd E (opT q :: R)).text = q := by
 show fx (opT q) = q ∧ (opT q).text = q
 unfold opT; split <;> exact ⟨rfl, rfl⟩
theorem zp6 (x : List UInt8) (b : Int) (f p e : List (List Tk)) : xi 36 x b f p e = opT x :: p.flatten := rfl
theorem zeH (q : List UInt8) (a : Tr) (R : List Tk) : tF (nd 36 q [a]) ++ R = opT q :: (pT a ++ R) := by
 rw [nd, zA, yi, zp6]; simp
theorem znH {q : List UInt8} {a : Tr} (hq : yg.contains q = true) (h : Pr E a) : Up E (nd 36 q [a]) := fun R hn => by
 rw [zeH];exact D.mk1 (h.un hn.n1) fun m h0 => by
  simp only [zg, (zaV (E := E) q (pT a ++ R)).1, hq, if_true, List.tail_cons, h0, bnd, (zaV (E := E) q (pT a ++ R)).2]; rfl
theorem zeI (x : List UInt8) (f p e : List (List Tk)) : xi 37 x 0 f p e = sg x :: p.flatten := rfl
theorem zeJ (x : List UInt8) (f p e : List (List Tk)) : xi 37 x 1 f p e = p.flatten ++ [sg x] := rfl
theorem zmd {q : List UInt8} (h : yG.contains q = true) : yg.contains q = false := by
 have : q = [43, 43] ∨ q = [45, 45] := by simpa [yG] using h
 rcases this with rfl | rfl <;> rfl
theorem zme {q : List UInt8} {a : Tr} (hq : yG.contains q = true) (ht : yT a = true) (h : Pr E a) : Up E (.node 37 q 0 [a]) := fun R hn => by
 have e : tF (.node 37 q 0 [a]) ++ R = sg q :: (pT a ++ R) := by rw [zA, yi, zeI]; simp
 rw [e];have f1 : fx (hd E (sg q :: (pT a ++ R))) = q := rfl;have f2 : (hd E (sg q :: (pT a ++ R))).text = q := rfl;exact D.mk1 (h.un hn.n1) fun m h0 => by
  simp only [zg, f1, zmd hq, hq, zc, if_false, if_true, List.tail_cons, h0, bnd, ht, f2]; rfl
theorem zmf {q : List UInt8} {a : Tr} (hq : yG.contains q = true) (ht : yT a = true) (h : Pr E a) : Up E (.node 37 q 1 [a]) := fun R hn => by
 have e : tF (.node 37 q 1 [a]) ++ R = pT a ++ sg q :: R := by rw [zA, yi, zeJ]; simp
 rw [e];have f1 : fx (hd E (sg q :: R)) = q := rfl;have f2 : (hd E (sg q :: R)).text = q := rfl;have hqq : q = [43, 43] ∨ q = [45, 45] := by simpa [yG] using hq
 have hs : D E (.memMore a) (sg q :: R) (.ok (a, sg q :: R)) := D.mk0 fun m => by
  have g : ∀ s : List UInt8, isF E s (sg q :: R) = (q == s) := fun s => rfl
  rcases hqq with rfl | rfl <;> simp only [zg, g] <;> rfl
 have h1 : D E .primaryOrNew (pT a ++ sg q :: R) (.ok (a, sg q :: R)) := D.mk1 (h.rd (sg q :: R)) fun m h0 => by
  simp only [zg, (h.op (sg q :: R)).new, zc, if_false, h0]
 have h2 : D E .member (pT a ++ sg q :: R) (.ok (a, sg q :: R)) := D.mk2 h1 hs fun m h0 h1 => by simp only [zg, h0, bnd, h1]
 have h3 : D E .postfx (pT a ++ sg q :: R) (.ok (.node 37 q 1 [a], R)) := D.mk1 h2 fun m h0 => by
  simp only [zg, h0, bnd, f1, hq, if_true, ht, f2, List.tail_cons]; rfl
 exact D.mk1 h3 fun m h0 => by
  simp only [zg, (h.op (sg q :: R)).pre, (h.op (sg q :: R)).st, zc, if_false, h0]
theorem zg5 (x : List UInt8) (b : Int) (f p e : List (List Tk)) : xi 28 x b f p e = sg [91] :: (zC p ++ [sg [93]]) := rfl
theorem znI {l : List Tr} (hs : ∀ t ∈ l, Nsh E t) (h : ∀ t ∈ l, Pr E t) : Pr E (nd 28 [] l) := by
 have hl : yP (nd 28 [] l) = true := by simp [yP, nd, Tr.kind, Tr.kids]
 have e : ∀ R, pT (nd 28 [] l) ++ R = sg [91] :: (zC (l.map pT) ++ sg [93] :: R) := fun R => by
  rw [uI hl, nd, zA, yi, zg5]; simp
 refine ⟨fun R => ?_, fun R => by rw [e]; exact ⟨rfl, rfl, rfl⟩⟩;rw [e];have g : ∀ s : List UInt8, isF E s (sg [91] :: (zC (l.map pT) ++ sg [93] :: R)) = ([91] == s) := fun s => rfl
 have h2 : D E .fixedPrimary (sg [91] :: (zC (l.map pT) ++ sg [93] :: R)) (.ok (nd 28 [] l, R)) := D.mk1 (zfT (.inr (.inl rfl)) R l hs h) fun m h0 => by
  have e1 : (([91] : List UInt8) == [116, 104, 105, 115]) = false := rfl;have e2 : (([91] : List UInt8) == [110, 117, 108, 108]) = false := rfl;have e3 : (([91] : List UInt8) == [116, 114, 117, 101]) = false := rfl;have e4 : (([91] : List UInt8) == [102, 97, 108, 115, 101]) = false := rfl;have e5 : (([91] : List UInt8) == [40]) = false := rfl;have e6 : (([91] : List UInt8) == [91]) = true := rfl;simp only [zg, g, e1, e2, e3, e4, e5, e6, zc, if_false, if_true, List.tail_cons, h0, bnd]; rfl
 exact D.mk1 h2 fun m h0 => by
  have k : (hd E (sg [91] :: (zC (l.map pT) ++ sg [93] :: R))).kind = 5 := rfl;simp only [zg, k];exact h0
end
end
section
section
variable {E : Int}
theorem zhu : ∀ q ∈ q6.map Prod.fst, (q == [46]) = false ∧ (q == [91]) = false ∧ (q == [40]) = false ∧ yG.contains q = false ∧ (q == [63]) = false ∧ xy.contains q = false := by decide
theorem zb5 {q : List UInt8} (h : 1 ≤ yj q) : q ∈ q6.map Prod.fst := by
 rcases Classical.em (q ∈ q6.map Prod.fst) with h1 | h1
 ·exact h1
 ·exfalso
  have : q6.lookup q = none := by
   rw [List.lookup_eq_none_iff];intro p hp;rcases Bool.eq_false_or_eq_true (q == p.1) with h2 | h2
   ·exact absurd (eq_of_beq h2 ▸ List.mem_map_of_mem hp) h1
   ·have h3 : q ≠ p.1 := fun e => by rw [e] at h2; simp at h2
    simp [h3]
  unfold yj at h; rw [this] at h; simp at h
theorem zmE {q : List UInt8} (h : 1 ≤ yj q) (R : List Tk) : Nx1 E (opT q :: R) := by
 obtain ⟨h1, h2, h3, h4, _⟩ := zhu q (zb5 h);have f := (zaV (E := E) q R).1;exact ⟨by rw [vJ, f]; exact h1, by rw [vJ, f]; exact h2, by rw [vJ, f]; exact h3, by rw [f]; exact h4⟩
theorem zog (k : Int) (hk : k = 38 ∨ k = 39 ∨ k = 41) (x : List UInt8) (b : Int) (f e : List (List Tk)) (a c : List Tk) : xi k x b f [a, c] e = a ++ opT x :: c := by rcases hk with rfl | rfl | rfl <;> rfl
theorem zar (k : Int) (hk : k = 38 ∨ k = 39 ∨ k = 41) (q : List UInt8) (a c : Tr) (R : List Tk) : tF (nd k q [a, c]) ++ R = pT a ++ opT q :: (pT c ++ R) := by
 rw [nd, zA, yi, List.map_cons, List.map_cons, List.map_nil, zog k hk]; simp
theorem zmF {q : List UInt8} {a c : Tr} {k : Int} (hk : k = if yj q ≤ 2 then 39 else 38) (hq : 1 ≤ yj q) (h : Pr E a) (g : Pr E c) : Ep E (nd k q [a, c]) := fun R hn hc => by
 have hk2 : k = 38 ∨ k = 39 ∨ k = 41 := by rw [hk]; split <;> simp
 rw [zar k hk2];have f := (zaV (E := E) q (pT c ++ R)).1;have h1 : D E (.binary (yj q + 1)) (pT c ++ R) (.ok (c, R)) := zbC (g.un hn.n1) (by have := hn.lev; omega);have h2 : D E (.binMore 1 (nd k q [a, c])) R (.ok (nd k q [a, c], R)) := D.mk0 fun m => by simp only [zg, if_pos hn.lev]; rfl
 have h3 : D E (.binMore 1 a) (opT q :: (pT c ++ R)) (.ok (nd k q [a, c], R)) := D.mk2 h1 h2 fun m h0 h4 => by
  have e : ¬ yj q < 1 := by omega
  simp only [zg, f, if_neg e, List.tail_cons, h0, bnd, ← hk, h4]
 have h4 : D E (.binary 1) (pT a ++ opT q :: (pT c ++ R)) (.ok (nd k q [a, c], R)) := D.mk2 (h.un (zmE hq (pT c ++ R))) h3 fun m h0 h5 => by
  simp only [zg, h0, bnd, h5]
 exact uM (zda (zbY h4 hn.q) hn.set) hc
theorem zgk : ∀ q ∈ xy, (q == [46]) = false ∧ (q == [91]) = false ∧ (q == [40]) = false ∧ yG.contains q = false ∧ (q == [63]) = false ∧ yj q < 1 := by decide
theorem zmG {q : List UInt8} {a c : Tr} (hq : xy.contains q = true) (ht : yT a = true) (h : Pr E a) (g : Pr E c) : Ep E (nd 41 q [a, c]) := fun R hn hc => by
 rw [zar 41 (.inr (.inr rfl))];obtain ⟨h1, h2, h3, h4, h5, h6⟩ := zgk q (by simpa using hq);have f := (zaV (E := E) q (pT c ++ R));have n1 : Nx1 E (opT q :: (pT c ++ R)) := ⟨by rw [vJ, f.1]; exact h1, by rw [vJ, f.1]; exact h2, by rw [vJ, f.1]; exact h3, by rw [f.1]; exact h4⟩;have h7 : D E .cond (pT a ++ opT q :: (pT c ++ R)) (.ok (a, opT q :: (pT c ++ R))) := zbY (zbC (h.un n1) (by rw [f.1]; exact h6)) (by rw [vJ, f.1]; exact h5);have h8 : D E .assign (pT a ++ opT q :: (pT c ++ R)) (.ok (nd 41 q [a, c], R)) := D.mk2 h7 (g.asg hn) fun m h0 h9 => by
  simp only [zg, h0, bnd, f.1, hq, if_true, ht, List.tail_cons, h9, f.2]; rfl
 exact uM h8 hc
theorem zmH (x : List UInt8) (b : Int) (f e : List (List Tk)) (a c d : List Tk) : xi 40 x b f [a, c, d] e = a ++ sg [63] :: (c ++ sg [58] :: d) := rfl
theorem zb6 (a c d : Tr) (R : List Tk) : tF (nd 40 [] [a, c, d]) ++ R = pT a ++ sg [63] :: (pT c ++ sg [58] :: (pT d ++ R)) := by
 rw [nd, zA, yi, List.map_cons, List.map_cons, List.map_cons, List.map_nil, zmH]; simp
theorem zk0 {a c d : Tr} (h : Pr E a) (g : Pr E c) (i : Pr E d) : Ep E (nd 40 [] [a, c, d]) := fun R hn hc => by
 rw [zb6];have n1 : Nx1 E (sg [63] :: (pT c ++ sg [58] :: (pT d ++ R))) := ⟨rfl, rfl, rfl, rfl⟩;have e1 : isF E [63] (sg [63] :: (pT c ++ sg [58] :: (pT d ++ R))) = true := rfl;have e2 : isF E [58] (sg [58] :: (pT d ++ R)) = true := rfl;have h1 : D E (.binary 1) (pT a ++ sg [63] :: (pT c ++ sg [58] :: (pT d ++ R))) (.ok (a, sg [63] :: (pT c ++ sg [58] :: (pT d ++ R)))) := zbC (h.un n1) (by show (0 : Int) < 1; decide);have h2 : D E .cond (pT a ++ sg [63] :: (pT c ++ sg [58] :: (pT d ++ R))) (.ok (nd 40 [] [a, c, d], R)) := D.mk3 h1 (g.asg (R := sg [58] :: (pT d ++ R)) (xN (.inr (.inr (.inr (.inr (.inr rfl))))))) (i.asg hn) fun m h0 h3 h4 => by
  simp only [zg, h0, bnd, e1, if_true, List.tail_cons, h3, need, e2, h4]; rfl
 exact uM (zda h2 hn.set) hc
theorem zfj (x : List UInt8) (b : Int) (f e : List (List Tk)) (a c : List Tk) : xi 42 x b f [a, c] e = a ++ sg [44] :: c := rfl
theorem zi7 {a c : Tr} (h : Pr E a) (g : Pr E c) : Ep E (nd 42 [] [a, c]) := fun R hn hc => by
 have e : tF (nd 42 [] [a, c]) ++ R = pT a ++ sg [44] :: (pT c ++ R) := by
  rw [nd, zA, yi, List.map_cons, List.map_cons, List.map_nil, zfj]; simp
 rw [e];have e1 : isF E [44] (sg [44] :: (pT c ++ R)) = true := rfl;have h1 : D E (.exprMore (nd 42 [] [a, c])) R (.ok (nd 42 [] [a, c], R)) := D.mk0 fun m => by simp only [zg, hc, zc, if_false]; rfl
 have h2 : D E (.exprMore a) (sg [44] :: (pT c ++ R)) (.ok (nd 42 [] [a, c], R)) := D.mk2 (g.asg hn) h1 fun m h0 h3 => by
  simp only [zg, e1, if_true, List.tail_cons, h0, bnd, h3]
 exact D.mk2 (h.asg (R := sg [44] :: (pT c ++ R)) (xN (.inr (.inr (.inr (.inl rfl)))))) h2 fun m h0 h3 => by simp only [zg, h0, bnd, h3]
theorem zdr (x : List UInt8) (b : Int) (f p e : List (List Tk)) : xi 30 x b f p e = txT x :: sg [58] :: p.flatten := rfl
theorem zk1 {a : Tr} (h : Pr E a) (x : List UInt8) {R : List Tk} (hn : NxA E R) : D E .prop (tF (nd 30 x [a]) ++ R) (.ok (nd 30 x [a], R)) := by
 have e : tF (nd 30 x [a]) ++ R = txT x :: sg [58] :: (pT a ++ R) := by rw [nd, zA, yi, zdr]; simp
 rw [e];have k : (hd E (txT x :: sg [58] :: (pT a ++ R))).kind = 4 := rfl;have k2 : (hd E (txT x :: sg [58] :: (pT a ++ R))).text = x := rfl;have e1 : isF E [58] (sg [58] :: (pT a ++ R)) = true := rfl;exact D.mk1 (h.asg hn) fun m h0 => by simp only [zg, propK, if_pos k, k2, List.tail_cons, need, e1, if_true, h0, bnd]; rfl
theorem zgl (x : List UInt8) (b : Int) (f p e : List (List Tk)) : xi 29 x b f p e = sg [123] :: (zC f ++ [sg [125]]) := rfl
theorem zmI {l : List (List UInt8 × Tr)} (h : ∀ p ∈ l, Pr E p.2) : Pr E (nd 29 [] (l.map fun p => nd 30 p.1 [p.2])) := by
 have hl : yP (nd 29 [] (l.map fun p => nd 30 p.1 [p.2])) = true := by simp [yP, nd, Tr.kind, Tr.kids]
 have e : ∀ R, pT (nd 29 [] (l.map fun p => nd 30 p.1 [p.2])) ++ R = sg [123] :: (zC ((l.map fun p => nd 30 p.1 [p.2]).map tF) ++ sg [125] :: R) := fun R => by
  rw [uI hl, nd, zA, yv, zgl]; simp
 refine ⟨fun R => ?_, fun R => by rw [e]; exact ⟨rfl, rfl, rfl⟩⟩;rw [e];have h1 : D E (.list [125] .prop) (zC ((l.map fun p => nd 30 p.1 [p.2]).map tF) ++ sg [125] :: R) (.ok (bag (l.map fun p => nd 30 p.1 [p.2]), R)) := by
  refine zce .prop tF (.inr (.inr rfl)) R _ (fun u hu Y => ?_) fun u hu R' hn => ?_
  ·obtain ⟨p, hp, rfl⟩ := List.mem_map.1 hu;have : tF (nd 30 p.1 [p.2]) ++ Y = txT p.1 :: sg [58] :: (pT p.2 ++ Y) := by rw [nd, zA, yi, zdr]; simp
   rw [this]; rfl
  ·obtain ⟨p, hp, rfl⟩ := List.mem_map.1 hu;exact zk1 (h p hp) _ hn
 have g : ∀ s : List UInt8, isF E s (sg [123] :: (zC ((l.map fun p => nd 30 p.1 [p.2]).map tF) ++ sg [125] :: R)) = ([123] == s) := fun s => rfl
 have h2 : D E .fixedPrimary (sg [123] :: (zC ((l.map fun p => nd 30 p.1 [p.2]).map tF) ++ sg [125] :: R)) (.ok (nd 29 [] (l.map fun p => nd 30 p.1 [p.2]), R)) := D.mk1 h1 fun m h0 => by
  have e1 : (([123] : List UInt8) == [116, 104, 105, 115]) = false := rfl;have e2 : (([123] : List UInt8) == [110, 117, 108, 108]) = false := rfl;have e3 : (([123] : List UInt8) == [116, 114, 117, 101]) = false := rfl;have e4 : (([123] : List UInt8) == [102, 97, 108, 115, 101]) = false := rfl;have e5 : (([123] : List UInt8) == [40]) = false := rfl;have e6 : (([123] : List UInt8) == [91]) = false := rfl;have e7 : (([123] : List UInt8) == [123]) = true := rfl;simp only [zg, g, e1, e2, e3, e4, e5, e6, e7, zc, if_false, if_true, List.tail_cons, h0, bnd]; rfl
 exact D.mk1 h2 fun m h0 => by
  have k : (hd E (sg [123] :: (zC ((l.map fun p => nd 30 p.1 [p.2]).map tF) ++ sg [125] :: R))).kind = 5 := rfl;simp only [zg, k];exact h0
theorem zds {t : Tr} {k : Tk} (hl : yP t = true) (ht : tF t = [k]) (hk : (k.kind = 1 ∧ t = .node 27 k.text k.bits []) ∨ (k.kind = 3 ∧ t = .node 21 k.text k.bits []) ∨ (k.kind = 4 ∧ t = .node 22 k.text k.bits [])) : Pr E t := by
 have e : ∀ R, pT t ++ R = k :: R := fun R => by rw [uI hl, ht]; rfl
 have f : ∀ R, fx (hd E (k :: R)) = [] := fun R => by
  show fx k = []
  unfold fx; rw [if_neg (by omega)]
 refine ⟨fun R => ?_, fun R => by rw [e]; exact ⟨by rw [f]; rfl, by rw [f]; rfl, by rw [vJ, f]; rfl⟩⟩;rw [e];have kk : hd E (k :: R) = k := rfl;rcases hk with ⟨h1, h2⟩ | ⟨h1, h2⟩ | ⟨h1, h2⟩
 ·exact D.mk0 fun m => by simp only [zg, kk, if_pos h1, List.tail_cons]; rw [h2]; rfl
 ·have n1 : ¬ k.kind = 1 := by omega
  exact D.mk0 fun m => by simp only [zg, kk, if_neg n1, if_pos h1, List.tail_cons]; rw [h2]; rfl
 ·have n1 : ¬ k.kind = 1 := by omega
  have n3 : ¬ k.kind = 3 := by omega
  exact D.mk0 fun m => by simp only [zg, kk, if_neg n1, if_neg n3, if_pos h1, List.tail_cons]; rw [h2]; rfl
end
end
end Go.Proofs.YtfcgpphodacdmaaGreatDoor
