/- The reader of trees, whole: every method keeps to the grammar, from the source's end on backwards. -/
import Derived.Test.YtnkfodelgpidkaaGreatDoorG2
import Derived.Test.YtnkfodelgpidkaaGreatDoorG4
import Derived.Test.YtnkfodelgpidkaaGreatDoorG7
import Derived.Test.YtnkfodelgpidkaaGreatDoorTy
import Derived.Test.YtnkfodelgpidkaaGreatDoorFn
import Derived.Test.YtnkfodelgpidkaaGreatDoorPr
import Derived.Conc.MuLone
namespace Go.Proofs.YtnkfodelgpidkaaGreatDoor
open Go.RowKit
set_option linter.unusedVariables false

theorem eg_statement : ∀ args w, (callFunc 89 args).run Tryz.prog w = .ok (.enter 89 args) w := fun args w => Go.MuLone.run_callFunc_enter Tryz.func89 rfl rfl args w
theorem eg_element : ∀ args w, (callFunc 47 args).run Tryz.prog w = .ok (.enter 47 args) w := fun args w => Go.MuLone.run_callFunc_enter Tryz.func47 rfl rfl args w
theorem eg_param : ∀ args w, (callFunc 145 args).run Tryz.prog w = .ok (.enter 145 args) w := fun args w => Go.MuLone.run_callFunc_enter Tryz.func145 rfl rfl args w
theorem eg_decl : ∀ args w, (callFunc 194 args).run Tryz.prog w = .ok (.enter 194 args) w := fun args w => Go.MuLone.run_callFunc_enter Tryz.func194 rfl rfl args w
theorem eg_assign : ∀ args w, (callFunc 199 args).run Tryz.prog w = .ok (.enter 199 args) w := fun args w => Go.MuLone.run_callFunc_enter Tryz.func199 rfl rfl args w
theorem eg_prop : ∀ args w, (callFunc 263 args).run Tryz.prog w = .ok (.enter 263 args) w := fun args w => Go.MuLone.run_callFunc_enter Tryz.func263 rfl rfl args w
/-- Each method that others call from further on. -/
structure Al (c : Cx) (k : Nat) : Prop where
  expr : Ok c .expr 161 #[c.p] k
  stmt : Ok c .statement 89 #[c.p] k
  elem : Ok c .element 47 #[c.p] k
  brac : Ok c .bracketed 195 #[c.p] k
  asg : Ok c .assign 199 #[c.p] k
  blk : Ok c .block 150 #[c.p] k
  cat : Ok c .catchIt 198 #[c.p] k
  forS : Ok c .forStart 196 #[c.p] k
  mak : Ok c .maker 259 #[c.p] k
  una : Ok c .unary 241 #[c.p] k
  dec : Ok c .decl 194 #[c.p] k
  par : Ok c .param 145 #[c.p] k
  prp : Ok c .prop 263 #[c.p] k
  opt : ∀ stop : List UInt8, stop ≠ [] → Ok c (.optional stop) 197 #[c.p, .string (bs stop)] k
  prt : OkX c .part 254 k
  cal : OkXL c .called 255 k
  bin : ∀ l : Int, 1 ≤ l → l ≤ 11 → Ok c (.binary l) 230 #[c.p, .int .i64 l] k
  fun_ : ∀ (kind : Int) (x : List UInt8), Ok c (.function kind x) 87 #[c.p, .int .i64 kind, .string (bs x)] k
theorem al_step (c : Cx) (k : Nat) (H : ∀ j, k < j → Al c j) : Al c k := by
  have rw_ : ∀ (it : NT) (f : Nat), (∀ args w, (callFunc f args).run Tryz.prog w = .ok (.enter f args) w) → (∀ j, k < j → Ok c it f #[c.p] j) → ∀ j, k < j → OkLb c (.row it) 193 #[c.p, .func (.func f) #[c.p] #[]] j :=
    fun it f EG IH j hj => row_any c j it f EG fun i hi => IH i (by omega)
  have un_ : ∀ (stop : List UInt8) (it : NT) (f : Nat), stop ≠ [] → (∀ args w, (callFunc f args).run Tryz.prog w = .ok (.enter f args) w) → (∀ j, k < j → Ok c it f #[c.p] j) → ∀ j, k < j → OkL c (.untl stop it) 146 #[c.p, .string (bs stop), .func (.func f) #[c.p] #[]] j :=
    fun stop it f hs EG IH j hj => until_any c j stop hs it f EG fun i hi => IH i (by omega)
  have li_ : ∀ (stop : List UInt8) (it : NT) (f : Nat), stop ≠ [] → (∀ args w, (callFunc f args).run Tryz.prog w = .ok (.enter f args) w) → (∀ j, k < j → Ok c it f #[c.p] j) → ∀ j, k < j → OkLb c (.list stop it) 144 #[c.p, .string (bs stop), .func (.func f) #[c.p] #[]] j :=
    fun stop it f hs EG IH j hj => list_any c j stop hs it f (rw_ it f EG IH j hj)
  have brac := bracketed_any c k fun j hj => (H j hj).expr
  have fixed := fixedPrimary_any c k brac (fun j hj => (li_ [93] .assign _ (by decide) eg_assign (fun j hj => (H j hj).asg) j hj).ok) (fun j hj => (li_ [125] .prop _ (by decide) eg_prop (fun j hj => (H j hj).prp) j hj).ok) (fun j hj x => (H j hj).fun_ 31 x)
  have prim := primary_any c k fixed
  have newO := newObject_any c k (fun j hj => (H j hj).mak) (fun j hj => (H j hj).cal)
  have mak := maker_any c k newO prim (fun j hj => (H j hj).prt)
  have pnew := primaryOrNew_any c k newO prim
  have memb := member_any c k pnew (fun j hj => (H j hj).prt) (fun j hj => (H j hj).cal)
  have post := postfix_any c k memb
  have una := unary_any c k (fun j hj => (H j hj).una) post
  have bin := fun (l : Int) (h1 : 1 ≤ l) (h2 : l ≤ 11) => binary_any c k l h1 h2 una (fun j hj => (H j hj).bin)
  have con := cond_any c k (bin 1 (by decide) (by decide)) (fun j hj => (H j hj).asg)
  have asg := assign_any c k con (fun j hj => (H j hj).asg)
  have exp := expr_any c k asg (fun j hj => (H j hj).asg)
  have blk := block_any c k (un_ [125] .statement _ (by decide) eg_statement (fun j hj => (H j hj).stmt))
  have va := vars_any c k (fun j hj => (rw_ .decl _ eg_decl (fun j hj => (H j hj).dec) j hj).ok)
  have stmt := statement_any c k blk va (ifElse_any c k (fun j hj => (H j hj).brac) (fun j hj => (H j hj).stmt)) (whileDo_any c k (fun j hj => (H j hj).brac) (fun j hj => (H j hj).stmt)) (doWhile_any c k (fun j hj => (H j hj).brac) (fun j hj => (H j hj).stmt))
    (forLoop_any c k (fun j hj => (H j hj).forS) (fun j hj => (H j hj).opt [59] (by decide)) (fun j hj => (H j hj).opt [41] (by decide)) (fun j hj => (H j hj).stmt)) (giveBack_any c k fun j hj => (H j hj).expr) (throwIt_any c k fun j hj => (H j hj).expr)
    (tryIt_any c k (fun j hj => (H j hj).blk) (fun j hj => (H j hj).cat)) exp
  have fun_ := fun (kind : Int) (x : List UInt8) => function_any c k kind x (un_ [125] .element _ (by decide) eg_element (fun j hj => (H j hj).elem)) (li_ [41] .param _ (by decide) eg_param (fun j hj => (H j hj).par))
  exact {
    expr := exp, stmt := stmt, elem := element_any c k stmt (fun j hj x => (H j hj).fun_ 18 x), brac := brac, asg := asg, blk := blk, cat := catchIt_any c k fun j hj => (H j hj).blk
    forS := forStart_any c k va exp, mak := mak, una := una, dec := decl_any c k fun j hj => (H j hj).asg, par := param_any c k, prp := prop_any c k fun j hj => (H j hj).asg
    opt := fun stop hs => optional_any c k stop hs exp, prt := part_any c k fun j hj => (H j hj).expr, cal := called_any c k (li_ [41] .assign _ (by decide) eg_assign (fun j hj => (H j hj).asg)), bin := bin, fun_ := fun_ }
theorem al_end (c : Cx) (k : Nat) (h : c.ts.length < k) : Al c k := by
  have no : ∀ w, ¬ In c w k := fun w hi => by have := hi.le; omega
  exact { expr := fun w hi => (no w hi).elim, stmt := fun w hi => (no w hi).elim, elem := fun w hi => (no w hi).elim, brac := fun w hi => (no w hi).elim, asg := fun w hi => (no w hi).elim, blk := fun w hi => (no w hi).elim, cat := fun w hi => (no w hi).elim, forS := fun w hi => (no w hi).elim, mak := fun w hi => (no w hi).elim, una := fun w hi => (no w hi).elim, dec := fun w hi => (no w hi).elim, par := fun w hi => (no w hi).elim, prp := fun w hi => (no w hi).elim, opt := fun _ _ w hi => (no w hi).elim, prt := fun w _ _ _ _ _ _ hi => (no w hi).elim, cal := fun w _ _ _ _ _ _ hi => (no w hi).elim, bin := fun _ _ _ w hi => (no w hi).elim, fun_ := fun _ _ w hi => (no w hi).elim }
theorem al_all (c : Cx) : ∀ (n k : Nat), c.ts.length < k + n → Al c k
  | 0, k, h => al_end c k h
  | n + 1, k, h => al_step c k fun j hj => al_all c n j (by omega)
/-- program, at a source's front. -/
theorem program_at (c : Cx) (w : World) (h : In c w 0) : Calls Tryz.prog 26 #[c.p] w (PostP c 0 w) :=
  program_any c 0 (fun j _ => (al_all c (c.ts.length + 1) j (by omega)).elem) w h
end Go.Proofs.YtnkfodelgpidkaaGreatDoor
