/- Part of a proof that the program keeps SynDeep: contracts of its functions and of the document's. -/
import Derived.Test.YtnkfodelgpidkaaGreatDoorV4
import Derived.Test.YtnkfodelgpidkaaGreatDoorV2
import Derived.Test.YtnkfodelgpidkaaGreatDoorV6
import Derived.Test.YtnkfodelgpidkaaGreatDoorV3
import Derived.Laws.OwnMore
import Derived.Deep.AppendLies
set_option maxRecDepth 100000
set_option maxHeartbeats 4000000
set_option linter.unusedVariables false
set_option linter.unusedSimpArgs false
namespace Go.Proofs.YtnkfodelgpidkaaGreatDoor
inductive Tr where
 | node (kind : Int) (text : List UInt8) (bits : Int) (kids : List Tr)
def Tr.kind : Tr → Int | .node k _ _ _ => k
def Tr.text : Tr → List UInt8 | .node _ x _ _ => x
def Tr.bits : Tr → Int | .node _ _ b _ => b
def Tr.kids : Tr → List Tr | .node _ _ _ l => l
abbrev nd (kind : Int) (text : List UInt8) (kids : List Tr) : Tr := .node kind text 0 kids
abbrev bag (l : List Tr) : Tr := .node 0 [] 0 l
def fx (t : Tk) : List UInt8 := if t.kind = 2 ∨ t.kind = 5 then t.text else []
def hd (E : Int) (R : List Tk) : Tk := R.headD ⟨0, E, [], 0⟩
def isF (E : Int) (s : List UInt8) (R : List Tk) : Bool := fx (hd E R) == s
def targetB (t : Tr) : Bool := t.kind == 27 || t.kind == 32 || t.kind == 33
def prefixes : List (List UInt8) := [[100, 101, 108, 101, 116, 101], [118, 111, 105, 100], [116, 121, 112, 101, 111, 102], [43], [45], [126], [33]]
def steps : List (List UInt8) := [[43, 43], [45, 45]]
def setsL : List (List UInt8) := [[61], [43, 61], [45, 61], [42, 61], [47, 61], [37, 61], [38, 61], [124, 61], [94, 61], [60, 60, 61], [62, 62, 61], [62, 62, 62, 61]]
def levels : List (List UInt8 × Int) := [([124, 124], 1), ([38, 38], 2), ([124], 3), ([94], 4), ([38], 5), ([61, 61, 61], 6), ([33, 61, 61], 6), ([60], 7), ([62], 7), ([60, 61], 7), ([62, 61], 7), ([105, 110, 115, 116, 97, 110, 99, 101, 111, 102], 7), ([105, 110], 7), ([60, 60], 8), ([62, 62], 8), ([62, 62, 62], 8), ([43], 9), ([45], 9), ([42], 10), ([47], 10), ([37], 10)]
def levelI (s : List UInt8) : Int := (levels.lookup s).getD 0
inductive NT where
 | element | statement | block | vars | decl | ifElse | whileDo | doWhile | forLoop | forStart | giveBack | throwIt | tryIt | catchIt
 | expr | assign | cond | unary | postfx | member | primaryOrNew | newObject | maker | primary | fixedPrimary | bracketed | prop | param | program
 | function (kind : Int) (name : List UInt8) | optional (stop : List UInt8) | leave (kind : Int)
 | exprMore (x : Tr) | binary (least : Int) | binMore (least : Int) (x : Tr) | memMore (x : Tr) | makMore (x : Tr) | part (x : Tr) | called (x : Tr)
 | untl (stop : List UInt8) (it : NT) | row (it : NT) | rowMore (it : NT) | list (stop : List UInt8) (it : NT)
abbrev Rs := Option (Except Int (Tr × List Tk))
def bnd (x : Rs) (k : Tr → List Tk → Rs) : Rs := match x with
 | none => none
 | some (.error e) => some (.error e)
 | some (.ok (t, R)) => k t R
def ret (t : Tr) (R : List Tk) : Rs := some (.ok (t, R))
def bad (E : Int) (R : List Tk) : Rs := some (.error (hd E R).pos)
section
variable (E : Int) (rec : NT → List Tk → Rs)
def need (s : List UInt8) (R : List Tk) (k : List Tk → Rs) : Rs := if isF E s R then k R.tail else bad E R
def nameK (R : List Tk) (k : List UInt8 → List Tk → Rs) : Rs := if (hd E R).kind = 1 then k (hd E R).text R.tail else bad E R
def keyK (R : List Tk) (k : List UInt8 → List Tk → Rs) : Rs := if (hd E R).kind = 1 ∨ (hd E R).kind = 2 then k (hd E R).text R.tail else bad E R
def propK (R : List Tk) (k : List UInt8 → List Tk → Rs) : Rs :=
 if (hd E R).kind = 4 then k (hd E R).text R.tail else if (hd E R).kind = 3 then k (Bt.textI (hd E R).bits).data.toList R.tail else keyK E R k
def body : NT → List Tk → Rs
 | .element, R => if isF E [102, 117, 110, 99, 116, 105, 111, 110] R then nameK E R.tail fun x R1 => rec (.function 18 x) R1 else rec .statement R
 | .function kind name, R => need E [40] R fun R1 => bnd (rec (.list [41] .param) R1) fun ps R2 => need E [123] R2 fun R3 => bnd (rec (.untl [125] .element) R3) fun bd R4 => ret (nd kind name (ps.kids ++ [nd 20 [] bd.kids])) R4
 | .param, R => nameK E R fun x R1 => ret (nd 19 x []) R1
 | .list stop it, R => if isF E stop R then ret (bag []) R.tail else bnd (rec (.row it) R) fun l R1 => need E stop R1 fun R2 => ret (bag l.kids) R2
 | .row it, R => bnd (rec it R) fun x R1 => bnd (rec (.rowMore it) R1) fun l R2 => ret (bag (x :: l.kids)) R2
 | .rowMore it, R => if isF E [44] R then bnd (rec it R.tail) fun x R1 => bnd (rec (.rowMore it) R1) fun l R2 => ret (bag (x :: l.kids)) R2 else ret (bag []) R
 | .untl stop it, R => if isF E stop R then ret (bag []) R.tail else bnd (rec it R) fun x R1 => bnd (rec (.untl stop it) R1) fun l R2 => ret (bag (x :: l.kids)) R2
 | .program, R => match R with
  | [] => ret (bag []) []
  | t :: q => bnd (rec .element (t :: q)) fun x R1 => bnd (rec .program R1) fun l R2 => ret (bag (x :: l.kids)) R2
 | .statement, R => if isF E [123] R then rec .block R else if isF E [118, 97, 114] R then bnd (rec .vars R) (fun x R1 => need E [59] R1 fun R2 => ret x R2) else if isF E [59] R then need E [59] R (fun R1 => ret (nd 5 [] []) R1) else if isF E [105, 102] R then rec .ifElse R else if isF E [119, 104, 105, 108, 101] R then rec .whileDo R else if isF E [100, 111] R then rec .doWhile R else if isF E [102, 111, 114] R then rec .forLoop R else if isF E [98, 114, 101, 97, 107] R then rec (.leave 11) R else if isF E [99, 111, 110, 116, 105, 110, 117, 101] R then rec (.leave 12) R else if isF E [114, 101, 116, 117, 114, 110] R then rec .giveBack R else if isF E [116, 104, 114, 111, 119] R then rec .throwIt R else if isF E [116, 114, 121] R then rec .tryIt R else if isF E [102, 117, 110, 99, 116, 105, 111, 110] R then bad E R else bnd (rec .expr R) fun x R1 => need E [59] R1 fun R2 => ret (nd 6 [] [x]) R2
 | .block, R => need E [123] R fun R1 => bnd (rec (.untl [125] .statement) R1) fun l R2 => ret (nd 2 [] l.kids) R2
 | .vars, R => need E [118, 97, 114] R fun R1 => bnd (rec (.row .decl) R1) fun l R2 => ret (nd 3 [] l.kids) R2
 | .decl, R => nameK E R fun x R1 => if isF E [61] R1 then bnd (rec .assign R1.tail) (fun y R2 => ret (nd 4 x [y]) R2) else ret (nd 4 x []) R1
 | .ifElse, R => need E [105, 102] R fun R1 => bnd (rec .bracketed R1) fun x R2 => bnd (rec .statement R2) fun y R3 => if isF E [101, 108, 115, 101] R3 then bnd (rec .statement R3.tail) (fun z R4 => ret (nd 7 [] [x, y, z]) R4) else ret (nd 7 [] [x, y]) R3
 | .whileDo, R => need E [119, 104, 105, 108, 101] R fun R1 => bnd (rec .bracketed R1) fun x R2 => bnd (rec .statement R2) fun y R3 => ret (nd 8 [] [x, y]) R3
 | .doWhile, R => need E [100, 111] R fun R1 => bnd (rec .statement R1) fun x R2 => need E [119, 104, 105, 108, 101] R2 fun R3 => bnd (rec .bracketed R3) fun y R4 => need E [59] R4 fun R5 => ret (nd 9 [] [x, y]) R5
 | .forLoop, R => need E [102, 111, 114] R fun R1 => need E [40] R1 fun R2 => bnd (rec .forStart R2) fun x R3 => bnd (rec (.optional [59]) R3) fun y R4 => bnd (rec (.optional [41]) R4) fun z R5 => bnd (rec .statement R5) fun s R6 => ret (nd 10 [] [x, y, z, s]) R6
 | .forStart, R => if isF E [118, 97, 114] R then bnd (rec .vars R) (fun x R1 => need E [59] R1 fun R2 => ret x R2) else if isF E [59] R then need E [59] R (fun R1 => ret (nd 5 [] []) R1) else bnd (rec .expr R) fun x R1 => need E [59] R1 fun R2 => ret (nd 6 [] [x]) R2
 | .optional stop, R => if isF E stop R then ret (nd 5 [] []) R.tail else bnd (rec .expr R) fun x R1 => need E stop R1 fun R2 => ret x R2
 | .leave kind, R => need E [59] R.tail fun R1 => ret (nd kind [] []) R1
 | .giveBack, R => need E [114, 101, 116, 117, 114, 110] R fun R1 => if isF E [59] R1 then need E [59] R1 (fun R2 => ret (nd 13 [] []) R2) else bnd (rec .expr R1) fun x R2 => need E [59] R2 fun R3 => ret (nd 13 [] [x]) R3
 | .throwIt, R => need E [116, 104, 114, 111, 119] R fun R1 => bnd (rec .expr R1) fun x R2 => need E [59] R2 fun R3 => ret (nd 14 [] [x]) R3
 | .tryIt, R => need E [116, 114, 121] R fun R1 => bnd (rec .block R1) fun x R2 => if isF E [99, 97, 116, 99, 104] R2 then bnd (rec .catchIt R2) (fun y R3 => if isF E [102, 105, 110, 97, 108, 108, 121] R3 then bnd (rec .block R3.tail) (fun z R4 => ret (nd 15 [] [x, y, nd 17 [] [z]]) R4) else ret (nd 15 [] [x, y]) R3) else if isF E [102, 105, 110, 97, 108, 108, 121] R2 then bnd (rec .block R2.tail) (fun z R4 => ret (nd 15 [] [x, nd 17 [] [z]]) R4) else bad E R2
 | .catchIt, R => need E [99, 97, 116, 99, 104] R fun R1 => need E [40] R1 fun R2 => nameK E R2 fun x R3 => need E [41] R3 fun R4 => bnd (rec .block R4) fun y R5 => ret (nd 16 x [y]) R5
 | .expr, R => bnd (rec .assign R) fun x R1 => rec (.exprMore x) R1
 | .exprMore x, R => if isF E [44] R then bnd (rec .assign R.tail) (fun y R1 => rec (.exprMore (nd 42 [] [x, y])) R1) else ret x R
 | .assign, R => bnd (rec .cond R) fun x R1 => if setsL.contains (fx (hd E R1)) then (if targetB x then bnd (rec .assign R1.tail) (fun y R2 => ret (nd 41 (hd E R1).text [x, y]) R2) else bad E R1) else ret x R1
 | .cond, R => bnd (rec (.binary 1) R) fun x R1 => if isF E [63] R1 then bnd (rec .assign R1.tail) (fun y R2 => need E [58] R2 fun R3 => bnd (rec .assign R3) fun z R4 => ret (nd 40 [] [x, y, z]) R4) else ret x R1
 | .binary least, R => bnd (rec .unary R) fun x R1 => rec (.binMore least x) R1
 | .binMore least x, R => if levelI (fx (hd E R)) < least then ret x R else bnd (rec (.binary (levelI (fx (hd E R)) + 1)) R.tail) fun y R1 => rec (.binMore least (nd (if levelI (fx (hd E R)) ≤ 2 then 39 else 38) (fx (hd E R)) [x, y])) R1
 | .unary, R => if prefixes.contains (fx (hd E R)) then bnd (rec .unary R.tail) (fun x R1 => ret (nd 36 (hd E R).text [x]) R1) else if steps.contains (fx (hd E R)) then bnd (rec .unary R.tail) (fun x R1 => if targetB x then ret (nd 37 (hd E R).text [x]) R1 else bad E R) else rec .postfx R
 | .postfx, R => bnd (rec .member R) fun x R1 => if steps.contains (fx (hd E R1)) then (if targetB x then ret (.node 37 (hd E R1).text 1 [x]) R1.tail else bad E R1) else ret x R1
 | .member, R => bnd (rec .primaryOrNew R) fun x R1 => rec (.memMore x) R1
 | .memMore x, R => if isF E [46] R then bnd (rec (.part x) R) (fun y R1 => rec (.memMore y) R1) else if isF E [91] R then bnd (rec (.part x) R) (fun y R1 => rec (.memMore y) R1) else if isF E [40] R then bnd (rec (.called x) R) (fun l R1 => rec (.memMore (nd 34 [] l.kids)) R1) else ret x R
 | .primaryOrNew, R => if isF E [110, 101, 119] R then rec .newObject R else rec .primary R
 | .newObject, R => need E [110, 101, 119] R fun R1 => bnd (rec .maker R1) fun x R2 => if isF E [40] R2 then bnd (rec (.called x) R2) (fun l R3 => ret (nd 35 [] l.kids) R3) else ret (nd 35 [] [x]) R2
 | .maker, R => if isF E [110, 101, 119] R then rec .newObject R else bnd (rec .primary R) fun x R1 => rec (.makMore x) R1
 | .makMore x, R => if isF E [46] R then bnd (rec (.part x) R) (fun y R1 => rec (.makMore y) R1) else if isF E [91] R then bnd (rec (.part x) R) (fun y R1 => rec (.makMore y) R1) else ret x R
 | .part x, R => if isF E [46] R then keyK E R.tail (fun y R1 => ret (nd 32 y [x]) R1) else need E [91] R fun R1 => bnd (rec .expr R1) fun y R2 => need E [93] R2 fun R3 => ret (nd 33 [] [x, y]) R3
 | .called x, R => need E [40] R fun R1 => bnd (rec (.list [41] .assign) R1) fun l R2 => ret (bag (x :: l.kids)) R2
 | .bracketed, R => need E [40] R fun R1 => bnd (rec .expr R1) fun x R2 => need E [41] R2 fun R3 => ret x R3
 | .primary, R => if (hd E R).kind = 1 then ret (.node 27 (hd E R).text (hd E R).bits []) R.tail else if (hd E R).kind = 3 then ret (.node 21 (hd E R).text (hd E R).bits []) R.tail else if (hd E R).kind = 4 then ret (.node 22 (hd E R).text (hd E R).bits []) R.tail else rec .fixedPrimary R
 | .fixedPrimary, R => if isF E [116, 104, 105, 115] R then ret (nd 26 [] []) R.tail else if isF E [110, 117, 108, 108] R then ret (nd 25 [] []) R.tail else if isF E [116, 114, 117, 101] R then ret (nd 23 [] []) R.tail else if isF E [102, 97, 108, 115, 101] R then ret (nd 24 [] []) R.tail else if isF E [40] R then rec .bracketed R else if isF E [91] R then bnd (rec (.list [93] .assign) R.tail) (fun l R1 => ret (nd 28 [] l.kids) R1) else if isF E [123] R then bnd (rec (.list [125] .prop) R.tail) (fun l R1 => ret (nd 29 [] l.kids) R1) else if isF E [102, 117, 110, 99, 116, 105, 111, 110] R then (if isF E [40] R.tail then rec (.function 31 []) R.tail else nameK E R.tail fun x R1 => rec (.function 31 x) R1) else bad E R
 | .prop, R => propK E R fun x R1 => need E [58] R1 fun R2 => bnd (rec .assign R2) fun y R3 => ret (nd 30 x [y]) R3
end
def Q (E : Int) : Nat → NT → List Tk → Rs
 | 0 => fun _ _ => none
 | n + 1 => body E (Q E n)
/- With more fuel the same comes out. -/
def Le (x y : Rs) : Prop := ∀ r, x = some r → y = some r
theorem Le.refl (x : Rs) : Le x x := fun _ h => h
theorem Le.bnd {x y : Rs} {k l : Tr → List Tk → Rs} (h : Le x y) (hk : ∀ t R, Le (k t R) (l t R)) : Le (bnd x k) (bnd y l) := by
 intro r hr
 unfold Go.Proofs.YtnkfodelgpidkaaGreatDoor.bnd at hr ⊢
 cases x with
 | none => cases hr
 | some z => rw [h z rfl]; rcases z with e | ⟨t, R⟩; exact hr; exact hk t R r hr
theorem Le.need {E : Int} {s : List UInt8} {R : List Tk} {k l : List Tk → Rs} (hk : ∀ R, Le (k R) (l R)) : Le (need E s R k) (need E s R l) := by
 unfold Go.Proofs.YtnkfodelgpidkaaGreatDoor.need; split; exact hk _; exact Le.refl _
theorem Le.nameK {E : Int} {R : List Tk} {k l : List UInt8 → List Tk → Rs} (hk : ∀ x R, Le (k x R) (l x R)) : Le (nameK E R k) (nameK E R l) := by
 unfold Go.Proofs.YtnkfodelgpidkaaGreatDoor.nameK; split; exact hk _ _; exact Le.refl _
theorem Le.keyK {E : Int} {R : List Tk} {k l : List UInt8 → List Tk → Rs} (hk : ∀ x R, Le (k x R) (l x R)) : Le (keyK E R k) (keyK E R l) := by
 unfold Go.Proofs.YtnkfodelgpidkaaGreatDoor.keyK; split; exact hk _ _; exact Le.refl _
theorem Le.propK {E : Int} {R : List Tk} {k l : List UInt8 → List Tk → Rs} (hk : ∀ x R, Le (k x R) (l x R)) : Le (propK E R k) (propK E R l) := by
 unfold Go.Proofs.YtnkfodelgpidkaaGreatDoor.propK; split; exact hk _ _; split; exact hk _ _; exact Le.keyK hk
theorem Le.ite {c : Prop} [Decidable c] {a b x y : Rs} (h : Le a b) (g : Le x y) : Le (if c then a else x) (if c then b else y) := by
 split; exact h; exact g
theorem body_mono {E : Int} {f g : NT → List Tk → Rs} (h : ∀ nt R, Le (f nt R) (g nt R)) (nt : NT) (R : List Tk) : Le (body E f nt R) (body E g nt R) := by
 cases nt <;> simp only [body] <;> repeat' (first | exact Le.refl _ | exact h _ _ | refine Le.bnd ?_ fun _ _ => ?_ | refine Le.need fun _ => ?_ | refine Le.nameK fun _ _ => ?_ | refine Le.keyK fun _ _ => ?_ | refine Le.propK fun _ _ => ?_ | refine Le.ite ?_ ?_ | split)
theorem Q_mono (E : Int) : ∀ (n : Nat) (nt : NT) (R : List Tk), Le (Q E n nt R) (Q E (n + 1) nt R)
 | 0, _, _ => fun _ h => by cases h
 | n + 1, nt, R => body_mono (Q_mono E n) nt R
theorem Q_more {E : Int} {nt : NT} {R : List Tk} {r : Except Int (Tr × List Tk)} {n : Nat} (h : Q E n nt R = some r) : ∀ m, n ≤ m → Q E m nt R = some r := by
 intro m hm
 obtain ⟨k, rfl⟩ : ∃ k, m = n + k := ⟨m - n, by omega⟩
 clear hm
 induction k with
 | zero => exact h
 | succ k ih => exact Q_mono E (n + k) nt R r ih
def D (E : Int) (nt : NT) (R : List Tk) (r : Except Int (Tr × List Tk)) : Prop := ∃ n, ∀ m, n ≤ m → Q E m nt R = some r
theorem D.of {E : Int} {nt : NT} {R : List Tk} {r : Except Int (Tr × List Tk)} {n : Nat} (h : Q E n nt R = some r) : D E nt R r := ⟨n, Q_more h⟩
theorem D.det {E : Int} {nt : NT} {R : List Tk} {r r' : Except Int (Tr × List Tk)} (h : D E nt R r) (h' : D E nt R r') : r = r' := by
 obtain ⟨n, h⟩ := h
 obtain ⟨m, h'⟩ := h'
 have h1 := h (n + m) (by omega)
 rw [h' (n + m) (by omega)] at h1
 injection h1 with h1; exact h1.symm
theorem D.mk0 {E : Int} {nt : NT} {R : List Tk} {r : Except Int (Tr × List Tk)} (h : ∀ m, body E (Q E m) nt R = some r) : D E nt R r := ⟨1, fun m hm => by
  obtain ⟨k, rfl⟩ : ∃ k, m = k + 1 := ⟨m - 1, by omega⟩
  exact h k⟩
theorem D.mk1 {E : Int} {nt a : NT} {R A : List Tk} {r ra : Except Int (Tr × List Tk)} (ha : D E a A ra) (h : ∀ m, Q E m a A = some ra → body E (Q E m) nt R = some r) : D E nt R r := by
 obtain ⟨n, ha⟩ := ha
 refine ⟨n + 1, fun m hm => ?_⟩
 obtain ⟨k, rfl⟩ : ∃ k, m = k + 1 := ⟨m - 1, by omega⟩
 exact h k (ha k (by omega))
theorem D.mk2 {E : Int} {nt a b : NT} {R A B : List Tk} {r ra rb : Except Int (Tr × List Tk)} (ha : D E a A ra) (hb : D E b B rb) (h : ∀ m, Q E m a A = some ra → Q E m b B = some rb → body E (Q E m) nt R = some r) : D E nt R r := by
 obtain ⟨n, ha⟩ := ha
 obtain ⟨i, hb⟩ := hb
 refine ⟨n + i + 1, fun m hm => ?_⟩
 obtain ⟨k, rfl⟩ : ∃ k, m = k + 1 := ⟨m - 1, by omega⟩
 exact h k (ha k (by omega)) (hb k (by omega))
theorem D.mk3 {E : Int} {nt a b c : NT} {R A B C : List Tk} {r ra rb rc : Except Int (Tr × List Tk)} (ha : D E a A ra) (hb : D E b B rb) (hc : D E c C rc) (h : ∀ m, Q E m a A = some ra → Q E m b B = some rb → Q E m c C = some rc → body E (Q E m) nt R = some r) : D E nt R r := by
 obtain ⟨n, ha⟩ := ha
 obtain ⟨i, hb⟩ := hb
 obtain ⟨j, hc⟩ := hc
 refine ⟨n + i + j + 1, fun m hm => ?_⟩
 obtain ⟨k, rfl⟩ : ∃ k, m = k + 1 := ⟨m - 1, by omega⟩
 exact h k (ha k (by omega)) (hb k (by omega)) (hc k (by omega))
theorem D.mk4 {E : Int} {nt a b c d : NT} {R A B C F : List Tk} {r ra rb rc rd : Except Int (Tr × List Tk)} (ha : D E a A ra) (hb : D E b B rb) (hc : D E c C rc) (hd : D E d F rd) (h : ∀ m, Q E m a A = some ra → Q E m b B = some rb → Q E m c C = some rc → Q E m d F = some rd → body E (Q E m) nt R = some r) : D E nt R r := by
 obtain ⟨n, ha⟩ := ha
 obtain ⟨i, hb⟩ := hb
 obtain ⟨j, hc⟩ := hc
 obtain ⟨l, hd⟩ := hd
 refine ⟨n + i + j + l + 1, fun m hm => ?_⟩
 obtain ⟨k, rfl⟩ : ∃ k, m = k + 1 := ⟨m - 1, by omega⟩
 exact h k (ha k (by omega)) (hb k (by omega)) (hc k (by omega)) (hd k (by omega))
end Go.Proofs.YtnkfodelgpidkaaGreatDoor
namespace Go.Proofs.YtnkfodelgpidkaaGreatDoor
open Go.RowKit
structure Cx where
 b : Nat
 g : Nat
 cap : Nat
 o : Obj
 ts : List Tk
 E : Int
 w0 : World
def Cx.T (c : Cx) (k : Nat) : Tk := hd c.E (c.ts.drop k)
structure Cx.ok (c : Cx) : Prop where
 ne : c.b ≠ c.g
 few : c.ts.length ≤ 5000
 cells : ∀ w : World, w.heap[c.g]? = some c.o → ∀ k, k ≤ c.ts.length → w.cell? ⟨c.g, k * 4, none⟩ = some (.int .i64 (c.T k).kind) ∧ w.cell? ⟨c.g, k * 4 + 1, none⟩ = some (.int .i64 (c.T k).pos) ∧ w.cell? ⟨c.g, k * 4 + 2, none⟩ = some (.string (bs (c.T k).text)) ∧ w.cell? ⟨c.g, k * 4 + 3, none⟩ = some (.int .u64 (c.T k).bits)
 bits : ∀ t ∈ c.ts, 0 ≤ t.bits ∧ t.bits < 18446744073709551616
 old : c.w0.heap.size ≤ c.b
 tab : Bt.tab c.w0
structure In (c : Cx) (w : World) (k : Nat) : Prop where
 rd : w.heap[c.b]? = some (.cells #[.slice (some ⟨c.g, 0, none⟩) (c.ts.length + 1) c.cap, .int .i64 (k : Int)] 58 (0, 0))
 row : w.heap[c.g]? = some c.o
 le : k ≤ c.ts.length
 ok : c.ok
 base : Below c.w0.heap.size c.w0 w
section
variable {c : Cx} {w w' : World} {k : Nat}
theorem lt_of_get {w : World} {i : Nat} {o : Obj} (h : w.heap[i]? = some o) : i < w.heap.size := by
 rcases Nat.lt_or_ge i w.heap.size with hlt | hge
 ·exact hlt
 ·rw [Array.getElem?_eq_none hge] at h; cases h
theorem In.lt (h : In c w k) : c.b < w.heap.size := lt_of_get h.rd
theorem In.ltg (h : In c w k) : c.g < w.heap.size := lt_of_get h.row
theorem In.c0 (h : In c w k) : w.cell? ⟨c.b, 0, none⟩ = some (.slice (some ⟨c.g, 0, none⟩) (c.ts.length + 1) c.cap) := by have := h.rd; simp [World.cell?, this]
theorem In.c1 (h : In c w k) : w.cell? ⟨c.b, 1, none⟩ = some (.int .i64 (k : Int)) := by have := h.rd; simp [World.cell?, this]
theorem In.fz (h : In c w k) (i : Nat) : w.frozen? ⟨c.b, i, none⟩ = false := by have := h.rd; simp [World.frozen?, this]
theorem In.t0 (h : In c w k) : w.cell? ⟨c.g, k * 4, none⟩ = some (.int .i64 (c.T k).kind) := (h.ok.cells w h.row k h.le).1
theorem In.t1 (h : In c w k) : w.cell? ⟨c.g, k * 4 + 1, none⟩ = some (.int .i64 (c.T k).pos) := (h.ok.cells w h.row k h.le).2.1
theorem In.t2 (h : In c w k) : w.cell? ⟨c.g, k * 4 + 2, none⟩ = some (.string (bs (c.T k).text)) := (h.ok.cells w h.row k h.le).2.2.1
theorem In.t3 (h : In c w k) : w.cell? ⟨c.g, k * 4 + 3, none⟩ = some (.int .u64 (c.T k).bits) := (h.ok.cells w h.row k h.le).2.2.2
theorem In.below (h : In c w k) (hb : Below w.heap.size w w') : In c w' k := ⟨(hb.block _ h.lt).trans h.rd, (hb.block _ h.ltg).trans h.row, h.le, h.ok, below_trans h.base hb h.base.size⟩
theorem In.tab (h : In c w k) : Bt.tab w := Bt.tab_below h.ok.tab h.base
theorem In.next (h : In c w k) {j : Nat} (hj : j ≤ c.ts.length) : In c (w.setCell ⟨c.b, 1, none⟩ (.int .i64 (j : Int))) j := by
 refine ⟨?_, (Below.heap_setCell w _ _ c.g (Ne.symm h.ok.ne)).trans h.row, hj, h.ok, h.base.setCell (p := ⟨c.b, 1, none⟩) h.ok.old _⟩
 have := h.rd
 simp [World.setCell, Array.getElem?_modify, this]
end
theorem T_at {c : Cx} {k : Nat} (h : k < c.ts.length) : c.T k = c.ts[k] := by
 unfold Cx.T hd; rw [List.drop_eq_getElem_cons h]; rfl
theorem T_end {c : Cx} : c.T c.ts.length = ⟨0, c.E, [], 0⟩ := by unfold Cx.T hd; rw [List.drop_length]; rfl
theorem fx_in {c : Cx} {k : Nat} (hk : k ≤ c.ts.length) (h : fx (c.T k) ≠ []) : k < c.ts.length := by
 rcases Nat.lt_or_ge k c.ts.length with h1 | h1
 ·exact h1
 ·exfalso; apply h
  have e : k = c.ts.length := by omega
  rw [e, T_end]; rfl
theorem kind_in {c : Cx} {k : Nat} (hk : k ≤ c.ts.length) (h : (c.T k).kind ≠ 0) : k < c.ts.length := by
 rcases Nat.lt_or_ge k c.ts.length with h1 | h1
 ·exact h1
 ·exfalso; apply h
  have e : k = c.ts.length := by omega
  rw [e, T_end]
theorem tail_drop (l : List Tk) (k : Nat) : (l.drop k).tail = l.drop (k + 1) := by rw [List.tail_drop]
theorem T_bits {c : Cx} (hc : c.ok) {k : Nat} (hk : k ≤ c.ts.length) : 0 ≤ (c.T k).bits ∧ (c.T k).bits < 18446744073709551616 := by
 rcases Nat.lt_or_ge k c.ts.length with h1 | h1
 ·rw [T_at h1]; exact hc.bits _ (List.getElem_mem h1)
 ·have e : k = c.ts.length := by omega
  rw [e, T_end]; exact ⟨Int.le_refl 0, by show (0 : Int) < _; omega⟩
def tkW (t : Tk) : Value := .agg #[.int .i64 t.kind, .int .i64 t.pos, .string (bs t.text), .int .u64 t.bits]
theorem stok_res {wf : World} {g : Nat} {x0 x1 x2 x3 : Value} (h : B4 wf g x0 x1 x2 x3) (tmps : Array Value) (ht : tmps[2]?.getD undef = .pointer (some ⟨g, 0, none⟩)) :
  (results Tryz.f147 tmps).run Tryz.prog wf = .ok (.agg #[x0, x1, x2, x3]) wf := by
 have e0 := h.c0
 have e1 := h.c1
 have e2 := h.c2
 have e3 := h.c3
 simp [results, Tryz.results147, go_sem, ht, e0, e1, e2, e3]
theorem stoken_any (c : Cx) (k : Nat) (w : World) (h : In c w k) :
  Calls Tryz.prog 147 #[.pointer (some ⟨c.b, 0, none⟩)] w fun e w' => e = .returned (tkW (c.T k)) ∧ Below w.heap.size w w' := by
 have H := Lib.hid h
 have hk := h.le
 have hf := h.ok.few
 have hki : (k : Int) < ((c.ts.length : Int) + 1) := by omega
 clear h
 go_enter Tryz.func147, Tryz.ntmps147
 go_wp2_with fail
 refine wp_tail 10 (by kernel_rfl) (by kernel_rfl) ?_
 simp only [List.take_succ_cons, List.take_zero, List.drop_succ_cons, List.drop_zero]
 have HBW : Hid (Below w.heap.size w (w.alloc (.cells #[.int .i64 0, .int .i64 0, .string ⟨#[]⟩, .int .u64 0] 42)).drew) := ((Below.refl w.heap.size w).alloc (Nat.le_refl _) _).drew
 have HB4 : Hid (B4 (w.alloc (.cells #[.int .i64 0, .int .i64 0, .string ⟨#[]⟩, .int .u64 0] 42)).drew w.heap.size (.int .i64 0) (.int .i64 0) (.string ⟨#[]⟩) (.int .u64 0)) := B4.new w _ _ _ _
 generalize (w.alloc (.cells #[.int .i64 0, .int .i64 0, .string ⟨#[]⟩, .int .u64 0] 42)).drew = wq at *
 have HQ := Lib.hid (H.out.below HBW.out)
 have c0 := HQ.out.c0
 have c1 := HQ.out.c1
 have t0 := HQ.out.t0
 have t1 := HQ.out.t1
 have t2 := HQ.out.t2
 have t3 := HQ.out.t3
 have b0 := HB4.out.c0
 have b1 := HB4.out.c1
 have b2 := HB4.out.c2
 have b3 := HB4.out.c3
 have fb := HB4.out.fz
 generalize hT : c.T k = t at *
 obtain ⟨tk, tp, tx, tb⟩ := t
 have HT := Lib.hid hT
 simp only at t0 t1 t2 t3
 clear hT H
 repeat still_step
 refine wpStill_nil ?_
 go_wp2_with fail
 refine bodyPost_ret (stok_res ((((HB4.out.s0 _).s1 _).s2 _).s3 _) _ rfl) rfl ⟨by rw [HT.out]; rfl, (((HBW.out.setCell (p := ⟨w.heap.size, 0, none⟩) (Nat.le_refl _) _).setCell (p := ⟨w.heap.size, 1, none⟩) (Nat.le_refl _) _).setCell (p := ⟨w.heap.size, 2, none⟩) (Nat.le_refl _) _).setCell (p := ⟨w.heap.size, 3, none⟩) (Nat.le_refl _) _⟩
theorem fixed_any (c : Cx) (k : Nat) (w : World) (h : In c w k) :
  Calls Tryz.prog 149 #[.pointer (some ⟨c.b, 0, none⟩)] w fun e w' => e = .returned (.string (bs (fx (c.T k)))) ∧ Below w.heap.size w w' := by
 have T := Lib.hid (fun w1 (hb : Below w.heap.size w w1) => stoken_any c k w1 (h.below hb))
 unfold tkW at T
 generalize c.T k = t at *
 obtain ⟨tk, tp, tx, tb⟩ := t
 clear h
 have HF : Hid (fx ⟨tk, tp, tx, tb⟩ = if tk = 2 ∨ tk = 5 then tx else []) := rfl
 have HK : tk = 2 ∨ tk = 5 ∨ ((tk == 2) = false ∧ (tk == 5) = false) := by simp only [beq_eq_false_iff_ne]; omega
 rcases HK with rfl | rfl | ⟨k2, k5⟩
 ·go_enter Tryz.func149, Tryz.ntmps149
  go_wp2_with fail
  refine (T.out _ (Below.refl _ _)).mono ?_; rintro e w1 ⟨rfl, hB1⟩
  go_wp2_with fail
  go_ret
  exact ⟨by rw [HF.out]; rfl, hB1.alloc hB1.size _⟩
 ·go_enter Tryz.func149, Tryz.ntmps149
  go_wp2_with fail
  refine (T.out _ (Below.refl _ _)).mono ?_; rintro e w1 ⟨rfl, hB1⟩
  go_wp2_with fail
  go_ret
  exact ⟨by rw [HF.out]; rfl, hB1.alloc hB1.size _⟩
 ·have HF2 : Hid (fx ⟨tk, tp, tx, tb⟩ = []) := by
   simp only [beq_eq_false_iff_ne] at k2 k5
   show _ = _; rw [HF.out, if_neg (by omega)]
  go_enter Tryz.func149, Tryz.ntmps149
  go_wp2_with fail
  refine (T.out _ (Below.refl _ _)).mono ?_; rintro e w1 ⟨rfl, hB1⟩
  go_wp2_with fail
  go_ret
  exact ⟨by rw [HF2.out]; rfl, hB1.alloc hB1.size _⟩
end Go.Proofs.YtnkfodelgpidkaaGreatDoor
namespace Go.Proofs.YtnkfodelgpidkaaGreatDoor
open Go.RowKit
def Cx.R (c : Cx) (k : Nat) : List Tk := c.ts.drop k
theorem R_hd (c : Cx) (k : Nat) : hd c.E (c.R k) = c.T k := rfl
theorem R_tail (c : Cx) (k : Nat) : (c.R k).tail = c.R (k + 1) := tail_drop _ _
theorem isF_T (c : Cx) (s : List UInt8) (k : Nat) : isF c.E s (c.R k) = (fx (c.T k) == s) := rfl
def sflt (p : Int) : Ending := .panicked [{ v := .iface 56 (.agg #[.int .i64 p]), recovered := false }]
theorem str_eq (x : List UInt8) (s : ByteArray) : ((bs x).toList == s.toList) = (x == s.data.toList) := by rw [Lib.toList_data, Lib.toList_data]; rfl
theorem is_any (c : Cx) (k : Nat) (s : ByteArray) (w : World) (h : In c w k) :
  Calls Tryz.prog 142 #[.pointer (some ⟨c.b, 0, none⟩), .string s] w fun e w' => e = .returned (.bool (isF c.E s.data.toList (c.R k))) ∧ Below w.heap.size w w' := by
 have T := Lib.hid (fixed_any c k w h)
 rw [isF_T, ← str_eq]
 generalize bs (fx (c.T k)) = x at *
 go_enter Tryz.func142, Tryz.ntmps142
 go_wp2_with fail
 refine T.out.mono ?_; rintro e w1 ⟨rfl, hB1⟩
 go_wp2_with fail
 go_ret
 exact ⟨rfl, hB1⟩
def Go1 (c : Cx) (w w' : World) (k : Nat) : Prop := In c w' k ∧ Off c.b w w'
theorem isF_in {c : Cx} {k : Nat} {s : List UInt8} (hk : k ≤ c.ts.length) (hs : s ≠ []) (h : isF c.E s (c.R k) = true) : k < c.ts.length := by
 refine fx_in hk ?_
 rw [isF_T, beq_iff_eq] at h
 rw [h]; exact hs
theorem skip_yes (c : Cx) (k : Nat) (s : ByteArray) (hs : s.data.toList ≠ []) (w : World) (h : In c w k) (hq : isF c.E s.data.toList (c.R k) = true) :
  Calls Tryz.prog 86 #[.pointer (some ⟨c.b, 0, none⟩), .string s] w fun e w' => e = .returned (.bool true) ∧ Go1 c w w' (k + 1) := by
 have T := Lib.hid (is_any c k s w h)
 have hk := isF_in h.le hs hq
 have hf := h.ok.few
 rw [hq] at T
 have H := Lib.hid h
 clear h hq
 go_enter Tryz.func86, Tryz.ntmps86
 go_wp2_with fail
 refine T.out.mono ?_; rintro e w1 ⟨rfl, hB1⟩
 have H1 := Lib.hid (H.out.below hB1)
 have HO := Lib.hid ((Off.refl c.b w).below hB1)
 have c1 := H1.out.c1
 have f1 := H1.out.fz 1
 clear hB1
 go_wp2_with fail
 go_ret
 exact ⟨rfl, H1.out.next (j := k + 1) (by omega), HO.out.set 1 _⟩
theorem skip_no (c : Cx) (k : Nat) (s : ByteArray) (w : World) (h : In c w k) (hq : isF c.E s.data.toList (c.R k) = false) :
  Calls Tryz.prog 86 #[.pointer (some ⟨c.b, 0, none⟩), .string s] w fun e w' => e = .returned (.bool false) ∧ Below w.heap.size w w' := by
 have T := Lib.hid (is_any c k s w h)
 rw [hq] at T
 clear h hq
 go_enter Tryz.func86, Tryz.ntmps86
 go_wp2_with fail
 refine T.out.mono ?_; rintro e w1 ⟨rfl, hB1⟩
 go_wp2_with fail
 go_ret
 exact ⟨rfl, hB1⟩
theorem sgiveUp_any (c : Cx) (k : Nat) (w : World) (h : In c w k) :
  Calls Tryz.prog 148 #[.pointer (some ⟨c.b, 0, none⟩)] w fun e w' => e = sflt (c.T k).pos ∧ Below w.heap.size w w' := by
 have T := Lib.hid (stoken_any c k w h)
 unfold tkW at T
 generalize c.T k = t at *
 obtain ⟨tk, tp, tx, tb⟩ := t
 have hfl : ∀ w, (Instr.field 42 (.agg #[.int .i64 tk, .int .i64 tp, .string (bs tx), .int .u64 tb]) 1).run Tryz.prog w = .ok (.int .i64 tp) w := fun _ => rfl
 go_enter Tryz.func148, Tryz.ntmps148
 go_wp2_with fail
 refine T.out.mono ?_; rintro e w1 ⟨rfl, hB1⟩
 go_wp2_with fail
 exact bodyPost_panic rfl ⟨rfl, hB1⟩
theorem need_yes (c : Cx) (k : Nat) (s : ByteArray) (hs : s.data.toList ≠ []) (w : World) (h : In c w k) (hq : isF c.E s.data.toList (c.R k) = true) :
  Calls Tryz.prog 143 #[.pointer (some ⟨c.b, 0, none⟩), .string s] w fun e w' => e = .returned (.tuple #[]) ∧ Go1 c w w' (k + 1) := by
 have T := Lib.hid (skip_yes c k s hs w h hq)
 clear h hq
 go_enter Tryz.func143, Tryz.ntmps143
 go_wp2_with fail
 refine T.out.mono ?_; rintro e w1 ⟨rfl, hG⟩
 go_wp2_with fail
 go_end0
 exact ⟨rfl, hG⟩
theorem need_no (c : Cx) (k : Nat) (s : ByteArray) (w : World) (h : In c w k) (hq : isF c.E s.data.toList (c.R k) = false) :
  Calls Tryz.prog 143 #[.pointer (some ⟨c.b, 0, none⟩), .string s] w fun e w' => e = sflt (c.T k).pos ∧ Below w.heap.size w w' := by
 have T := Lib.hid (skip_no c k s w h hq)
 have G := Lib.hid (fun w1 (hb : Below w.heap.size w w1) => sgiveUp_any c k w1 (h.below hb))
 unfold sflt at G ⊢
 clear h hq
 go_enter Tryz.func143, Tryz.ntmps143
 go_wp2_with fail
 refine T.out.mono ?_; rintro e w1 ⟨rfl, hB1⟩
 go_wp2_with fail
 refine (G.out _ hB1).mono ?_; rintro e w2 ⟨rfl, hB2⟩
 go_wp2_with fail
 exact bodyPost_panic rfl ⟨rfl, below_trans hB1 hB2 hB1.size⟩
theorem sname_yes (c : Cx) (k : Nat) (w : World) (h : In c w k) (hq : (c.T k).kind = 1) :
  Calls Tryz.prog 88 #[.pointer (some ⟨c.b, 0, none⟩)] w fun e w' => e = .returned (.string (bs (c.T k).text)) ∧ Go1 c w w' (k + 1) := by
 have T := Lib.hid (stoken_any c k w h)
 have hk := kind_in h.le (by rw [hq]; decide)
 have hf := h.ok.few
 have H := Lib.hid h
 unfold tkW at T
 generalize c.T k = t at *
 obtain ⟨tk, tp, tx, tb⟩ := t
 simp only at hq
 subst hq
 clear h
 go_enter Tryz.func88, Tryz.ntmps88
 go_wp2_with fail
 refine T.out.mono ?_; rintro e w1 ⟨rfl, hB1⟩
 have hba := hB1.alloc hB1.size (.cells #[.int .i64 1, .int .i64 tp, .string (bs tx), .int .u64 tb] 42)
 have H1 := Lib.hid (H.out.below hba)
 have HO := Lib.hid ((Off.refl c.b w).below hba)
 have c1 := H1.out.c1
 have f1 := H1.out.fz 1
 clear hba
 go_wp2_with fail
 go_ret
 exact ⟨rfl, H1.out.next (j := k + 1) (by omega), HO.out.set 1 _⟩
theorem sname_no (c : Cx) (k : Nat) (w : World) (h : In c w k) (hq : ¬ (c.T k).kind = 1) :
  Calls Tryz.prog 88 #[.pointer (some ⟨c.b, 0, none⟩)] w fun e w' => e = sflt (c.T k).pos ∧ Below w.heap.size w w' := by
 have T := Lib.hid (stoken_any c k w h)
 have G := Lib.hid (fun w1 (hb : Below w.heap.size w w1) => sgiveUp_any c k w1 (h.below hb))
 unfold tkW at T
 unfold sflt at G ⊢
 generalize c.T k = t at *
 obtain ⟨tk, tp, tx, tb⟩ := t
 have hk1 : (tk == 1) = false := by rw [beq_eq_false_iff_ne]; exact hq
 clear h hq
 go_enter Tryz.func88, Tryz.ntmps88
 go_wp2_with fail
 refine T.out.mono ?_; rintro e w1 ⟨rfl, hB1⟩
 have HBA := Lib.hid (hB1.alloc hB1.size (.cells #[.int .i64 tk, .int .i64 tp, .string (bs tx), .int .u64 tb] 42))
 clear hB1
 go_wp2_with fail
 refine (G.out _ HBA.out).mono ?_; rintro e w2 ⟨rfl, hB2⟩
 go_wp2_with fail
 exact bodyPost_panic rfl ⟨rfl, below_trans HBA.out hB2 HBA.out.size⟩
theorem skey_yes (c : Cx) (k : Nat) (w : World) (h : In c w k) (hq : (c.T k).kind = 1 ∨ (c.T k).kind = 2) :
  Calls Tryz.prog 258 #[.pointer (some ⟨c.b, 0, none⟩)] w fun e w' => e = .returned (.string (bs (c.T k).text)) ∧ Go1 c w w' (k + 1) := by
 have T := Lib.hid (stoken_any c k w h)
 have hk := kind_in h.le (by omega)
 have hf := h.ok.few
 have H := Lib.hid h
 unfold tkW at T
 generalize c.T k = t at *
 obtain ⟨tk, tp, tx, tb⟩ := t
 simp only at hq
 clear h
 rcases hq with rfl | rfl
 ·go_enter Tryz.func258, Tryz.ntmps258
  go_wp2_with fail
  refine T.out.mono ?_; rintro e w1 ⟨rfl, hB1⟩
  have hba := hB1.alloc hB1.size (.cells #[.int .i64 1, .int .i64 tp, .string (bs tx), .int .u64 tb] 42)
  have H1 := Lib.hid (H.out.below hba)
  have HO := Lib.hid ((Off.refl c.b w).below hba)
  have c1 := H1.out.c1
  have f1 := H1.out.fz 1
  clear hba
  go_wp2_with fail
  go_ret
  exact ⟨rfl, H1.out.next (j := k + 1) (by omega), HO.out.set 1 _⟩
 ·go_enter Tryz.func258, Tryz.ntmps258
  go_wp2_with fail
  refine T.out.mono ?_; rintro e w1 ⟨rfl, hB1⟩
  have hba := hB1.alloc hB1.size (.cells #[.int .i64 2, .int .i64 tp, .string (bs tx), .int .u64 tb] 42)
  have H1 := Lib.hid (H.out.below hba)
  have HO := Lib.hid ((Off.refl c.b w).below hba)
  have c1 := H1.out.c1
  have f1 := H1.out.fz 1
  clear hba
  go_wp2_with fail
  go_ret
  exact ⟨rfl, H1.out.next (j := k + 1) (by omega), HO.out.set 1 _⟩
end Go.Proofs.YtnkfodelgpidkaaGreatDoor
namespace Go.Proofs.YtnkfodelgpidkaaGreatDoor
open Go.RowKit
def PRow (w : World) (S : Nat → Prop) (v : Value) (vs : List Value) : Prop :=
 (vs = [] ∧ ∃ ao cap, v = .slice ao 0 cap) ∨ ∃ g cap, S g ∧ v = .slice (some ⟨g, 0, none⟩) vs.length cap ∧ ∀ (i : Nat) (h : i < vs.length), w.cell? ⟨g, i, none⟩ = some vs[i]
inductive IsT (w : World) (S : Nat → Prop) : Value → Tr → Prop
 | mk (a : Nat) (k : Int) (x : List UInt8) (b : Int) (v : Value) (vs : List Value) (kids : List Tr) : S a → w.heap[a]? = some (.cells #[.int .i64 k, .string (bs x), .int .u64 b, v] 89 (0, 0)) →
   PRow w S v vs → vs.length = kids.length → (∀ (i : Nat) (h1 : i < vs.length) (h2 : i < kids.length), IsT w S vs[i] kids[i]) → IsT w S (.pointer (some ⟨a, 0, none⟩)) (.node k x b kids)
def IsTs (w : World) (S : Nat → Prop) (vs : List Value) (kids : List Tr) : Prop := vs.length = kids.length ∧ ∀ (i : Nat) (h1 : i < vs.length) (h2 : i < kids.length), IsT w S vs[i] kids[i]
def F (lo hi : Nat) (i : Nat) : Prop := lo ≤ i ∧ i < hi
theorem PRow.keep {w w' : World} {S S' : Nat → Prop} {v : Value} {vs : List Value} (h : PRow w S v vs) (hS : ∀ i, S i → S' i) (hw : ∀ i, S i → w'.heap[i]? = w.heap[i]?) : PRow w' S' v vs := by
 rcases h with h | ⟨g, cap, hg, hv, hc⟩
 ·exact .inl h
 ·exact .inr ⟨g, cap, hS g hg, hv, fun i hi => (World.cell?_of_block (a := ⟨g, i, none⟩) (hw g hg)).trans (hc i hi)⟩
theorem IsT.keep {w w' : World} {S S' : Nat → Prop} {v : Value} {t : Tr} (h : IsT w S v t) (hS : ∀ i, S i → S' i) (hw : ∀ i, S i → w'.heap[i]? = w.heap[i]?) : IsT w' S' v t := by
 induction h with
 | mk a k x b v vs kids ha hh hr hl _ ih => exact .mk a k x b v vs kids (hS a ha) ((hw a ha).trans hh) (hr.keep hS hw) hl ih
theorem IsTs.keep {w w' : World} {S S' : Nat → Prop} {vs : List Value} {ts : List Tr} (h : IsTs w S vs ts) (hS : ∀ i, S i → S' i) (hw : ∀ i, S i → w'.heap[i]? = w.heap[i]?) : IsTs w' S' vs ts :=
 ⟨h.1, fun i h1 h2 => (h.2 i h1 h2).keep hS hw⟩
theorem F.mono {lo lo' hi hi' : Nat} (h1 : lo' ≤ lo) (h2 : hi ≤ hi') : ∀ i, F lo hi i → F lo' hi' i := fun i h => ⟨Nat.le_trans h1 h.1, Nat.lt_of_lt_of_le h.2 h2⟩
theorem IsT.off {w w' : World} {b lo : Nat} {v : Value} {t : Tr} (h : IsT w (F lo w.heap.size) v t) (ho : Off b w w') (hb : b < lo) : IsT w' (F lo w'.heap.size) v t :=
 h.keep (F.mono (Nat.le_refl _) ho.size) fun i hi => ho.block i hi.2 (by have := hi.1; omega)
theorem IsT.stay {w w' : World} {lo : Nat} {v : Value} {t : Tr} (h : IsT w (F lo w.heap.size) v t) (hb : Below w.heap.size w w') : IsT w' (F lo w'.heap.size) v t :=
 h.keep (F.mono (Nat.le_refl _) hb.size) fun i hi => hb.block i hi.2
theorem IsT.lower {w : World} {lo lo' : Nat} {v : Value} {t : Tr} (h : IsT w (F lo w.heap.size) v t) (hl : lo' ≤ lo) : IsT w (F lo' w.heap.size) v t :=
 h.keep (F.mono hl (Nat.le_refl _)) fun _ _ => rfl
theorem IsTs.nil (w : World) (S : Nat → Prop) : IsTs w S [] [] := ⟨rfl, fun i h => by simp at h⟩
theorem IsTs.cons {w : World} {S : Nat → Prop} {v : Value} {t : Tr} {vs : List Value} {ts : List Tr} (h : IsT w S v t) (hs : IsTs w S vs ts) : IsTs w S (v :: vs) (t :: ts) :=
  ⟨by simp [hs.1], fun i h1 h2 => by
    cases i with
    | zero => exact h
    | succ i => exact hs.2 i (by simpa using h1) (by simpa using h2)⟩
theorem IsTs.append {w : World} {S : Nat → Prop} {vs us : List Value} {ts ks : List Tr} (h : IsTs w S vs ts) (g : IsTs w S us ks) : IsTs w S (vs ++ us) (ts ++ ks) := by
 induction vs generalizing ts with
 | nil =>
  have : ts = [] := List.eq_nil_of_length_eq_zero (by rw [← h.1]; rfl)
  subst this; exact g
 | cons v r ih =>
  match ts, h with
  | t :: q, h =>
   exact .cons (h.2 0 (by simp) (by simp)) (ih ⟨by simpa using h.1, fun i h1 h2 => h.2 (i + 1) (by simpa using h1) (by simpa using h2)⟩)
theorem isT_made {w' : World} {S : Nat → Prop} {a : Nat} {k b : Int} {x : List UInt8} {v : Value} {vs : List Value} {kids : List Tr} (ha : S a)
  (hh : w'.heap[a]? = some (.cells #[.int .i64 k, .string (bs x), .int .u64 b, v] 89 (0, 0))) (hr : PRow w' S v vs) (hk : IsTs w' S vs kids) : IsT w' S (.pointer (some ⟨a, 0, none⟩)) (.node k x b kids) :=
 .mk a k x b v vs kids ha hh hr hk.1 hk.2
def Made (w : World) (k : Int) (x : ByteArray) (v : Value) (e : Ending) (w' : World) : Prop :=
 ∃ a, e = .returned (.pointer (some ⟨a, 0, none⟩)) ∧ w.heap.size ≤ a ∧ w'.heap[a]? = some (.cells #[.int .i64 k, .string x, .int .u64 0, v] 89 (0, 0)) ∧ Below w.heap.size w w'
theorem newNode_any (k : Int) (x : ByteArray) (ao : Option Addr) (n cap : Nat) (w : World) :
  Calls Tryz.prog 46 #[.int .i64 k, .string x, .slice ao n cap] w (Made w k x (.slice ao n cap)) := by
 go_enter Tryz.func46, Tryz.ntmps46
 go_wp2_with fail
 go_ret
 exact ⟨_, rfl, Nat.le_refl _, heap_alloc_new w _, (Below.refl _ _).alloc (Nat.le_refl _) _⟩
theorem new_cells (w : World) (vs : List Value) (T : TypeId) (i : Nat) (h : i < vs.length) : (w.alloc (.cells vs.toArray T)).cell? ⟨w.heap.size, i, none⟩ = some vs[i] := by
 have := heap_alloc_new w (.cells vs.toArray T)
 unfold World.cell?
 simp only [this]
 simp [h]
theorem node_kids {wN w5 : World} {lo : Nat} {vs : List Value} {kids : List Tr} {k : Int} {x : List UInt8} {e : Ending} (hk : IsTs wN (F lo wN.heap.size) vs kids) (hlo : lo ≤ wN.heap.size)
  (hm : Made (wN.alloc (.cells vs.toArray 59)) k (bs x) (.slice (some ⟨wN.heap.size, 0, none⟩) vs.length vs.length) e w5) :
  ∃ a, e = .returned (.pointer (some ⟨a, 0, none⟩)) ∧ IsT w5 (F lo w5.heap.size) (.pointer (some ⟨a, 0, none⟩)) (nd k x kids) ∧ Below wN.heap.size wN w5 := by
 obtain ⟨a, rfl, ha, hh, hB⟩ := hm
 have h1 : Below wN.heap.size wN (wN.alloc (.cells vs.toArray 59)) := (Below.refl _ _).alloc (Nat.le_refl _) _
 have h2 := below_trans h1 hB h1.size
 have hz : (wN.alloc (.cells vs.toArray 59)).heap.size = wN.heap.size + 1 := by simp
 have ha5 := lt_of_get hh
 refine ⟨a, rfl, isT_made ⟨by omega, ha5⟩ hh ?_ (hk.keep (F.mono (Nat.le_refl _) h2.size) fun i hi => h2.block i hi.2), h2⟩
 exact .inr ⟨wN.heap.size, vs.length, ⟨hlo, by have := hB.size; omega⟩, rfl, fun i hi => (hB.cell (p := ⟨wN.heap.size, i, none⟩) (by show wN.heap.size < _; omega)).trans (new_cells wN vs _ i hi)⟩
theorem node_none {wN w5 : World} {lo : Nat} {k : Int} {x : List UInt8} {e : Ending} (hlo : lo ≤ wN.heap.size) (hm : Made wN k (bs x) (.slice none 0 0) e w5) :
  ∃ a, e = .returned (.pointer (some ⟨a, 0, none⟩)) ∧ IsT w5 (F lo w5.heap.size) (.pointer (some ⟨a, 0, none⟩)) (nd k x []) ∧ Below wN.heap.size wN w5 := by
 obtain ⟨a, rfl, ha, hh, hB⟩ := hm
 exact ⟨a, rfl, isT_made ⟨by omega, lt_of_get hh⟩ hh (.inl ⟨rfl, none, 0, rfl⟩) (IsTs.nil _ _), hB⟩
theorem node_row {wN w5 : World} {lo : Nat} {v : Value} {S : Nat → Prop} {vs : List Value} {kids : List Tr} {k : Int} {x : List UInt8} {e : Ending} (hk : IsTs wN S vs kids) (hS : ∀ i, S i → F lo wN.heap.size i) (hlo : lo ≤ wN.heap.size)
  (ho : wN.ownsRow lo 59 1 v vs.length vs) (hm : Made wN k (bs x) v e w5) :
  ∃ a, e = .returned (.pointer (some ⟨a, 0, none⟩)) ∧ IsT w5 (F lo w5.heap.size) (.pointer (some ⟨a, 0, none⟩)) (nd k x kids) ∧ Below wN.heap.size wN w5 := by
 obtain ⟨a, rfl, ha, hh, hB⟩ := hm
 refine ⟨a, rfl, isT_made ⟨by omega, lt_of_get hh⟩ hh ?_ (hk.keep (fun i hi => F.mono (Nat.le_refl _) hB.size i (hS i hi)) fun i hi => hB.block i (hS i hi).2), hB⟩
 by_cases h0 : vs.length = 0
 ·obtain ⟨ao, cp, rfl⟩ := own_slice ho
  have : vs = [] := List.eq_nil_of_length_eq_zero h0
  subst this
  exact .inl ⟨rfl, ao, cp, rfl⟩
 ·obtain ⟨g, cp, rfl, hg1, hg2⟩ := ho.form (by omega)
  refine .inr ⟨g, cp, ⟨hg1, by have := hB.size; omega⟩, rfl, fun i hi => ?_⟩
  refine (hB.cell (p := ⟨g, i, none⟩) hg2).trans ((ho.cellAt i (by omega)).trans ?_)
  rw [List.getElem?_eq_getElem hi]
def Post (c : Cx) (nt : NT) (k : Nat) (w : World) (e : Ending) (w' : World) : Prop :=
 ∃ r, D c.E nt (c.R k) r ∧ match r with
  | .error p => e = sflt p ∧ Off c.b w w'
  | .ok (t, R1) => ∃ j v, R1 = c.R j ∧ k < j ∧ e = .returned v ∧ Go1 c w w' j ∧ IsT w' (F w.heap.size w'.heap.size) v t
theorem post_err {c : Cx} {nt : NT} {k : Nat} {w w' : World} {e : Ending} {p : Int} (h : D c.E nt (c.R k) (.error p)) (he : e = sflt p) (ho : Off c.b w w') : Post c nt k w e w' := ⟨_, h, he, ho⟩
theorem post_ok {c : Cx} {nt : NT} {k j : Nat} {w w' : World} {e : Ending} {t : Tr} {v : Value} (h : D c.E nt (c.R k) (.ok (t, c.R j))) (hj : k < j) (he : e = .returned v) (hi : In c w' j) (ho : Off c.b w w') (ht : IsT w' (F w.heap.size w'.heap.size) v t) : Post c nt k w e w' := ⟨_, h, j, v, rfl, hj, he, ⟨hi, ho⟩, ht⟩
def PostL (c : Cx) (nt : NT) (k : Nat) (w : World) (e : Ending) (w' : World) : Prop :=
 ∃ r, D c.E nt (c.R k) r ∧ match r with
  | .error p => e = sflt p ∧ Off c.b w w'
  | .ok (t, R1) => ∃ j v vs S, R1 = c.R j ∧ k < j ∧ e = .returned v ∧ Go1 c w w' j ∧ w'.ownsRow w.heap.size 59 1 v vs.length vs ∧ IsTs w' S vs t.kids ∧ (∀ i, S i → F w.heap.size w'.heap.size i) ∧ (∀ g, v.ownBlock = some g → ¬ S g)
theorem postL_err {c : Cx} {nt : NT} {k : Nat} {w w' : World} {e : Ending} {p : Int} (h : D c.E nt (c.R k) (.error p)) (he : e = sflt p) (ho : Off c.b w w') : PostL c nt k w e w' := ⟨_, h, he, ho⟩
theorem is_at (c : Cx) (k : Nat) (s : ByteArray) (w : World) (h : In c w k) {v : Bool} (hq : isF c.E s.data.toList (c.R k) = v) :
  Calls Tryz.prog 142 #[.pointer (some ⟨c.b, 0, none⟩), .string s] w fun e w' => e = .returned (.bool v) ∧ Below w.heap.size w w' := by
 rw [← hq]; exact is_any c k s w h
theorem ended_yes (c : Cx) (k : Nat) (v : Value) (w : World) (h : In c w k) (hq : isF c.E [59] (c.R k) = true) :
  Calls Tryz.prog 151 #[.pointer (some ⟨c.b, 0, none⟩), v] w fun e w' => e = .returned v ∧ Go1 c w w' (k + 1) := by
 have T := Lib.hid (need_yes c k ⟨#[59]⟩ (by decide) w h hq)
 clear h hq
 go_enter Tryz.func151, Tryz.ntmps151
 go_wp2_with fail
 refine T.out.mono ?_; rintro e w1 ⟨rfl, hG⟩
 go_wp2_with fail
 go_ret
 exact ⟨rfl, hG⟩
theorem ended_no (c : Cx) (k : Nat) (v : Value) (w : World) (h : In c w k) (hq : isF c.E [59] (c.R k) = false) :
  Calls Tryz.prog 151 #[.pointer (some ⟨c.b, 0, none⟩), v] w fun e w' => e = sflt (c.T k).pos ∧ Below w.heap.size w w' := by
 have T := Lib.hid (need_no c k ⟨#[59]⟩ w h hq)
 unfold sflt at T ⊢
 clear h hq
 go_enter Tryz.func151, Tryz.ntmps151
 go_wp2_with fail
 refine T.out.mono ?_; rintro e w1 ⟨rfl, hG⟩
 go_wp2_with fail
 exact bodyPost_panic rfl ⟨rfl, hG⟩
theorem isTarget_any (w : World) (S : Nat → Prop) (v : Value) (t : Tr) (h : IsT w S v t) :
  Calls Tryz.prog 231 #[v] w fun e w' => e = .returned (.bool (targetB t)) ∧ w = w' := by
 cases h with
 | mk a k x b u vs kids ha hh hr hl hk =>
  have c0 : w.cell? ⟨a, 0, none⟩ = some (.int .i64 k) := by simp [World.cell?, hh]
  have HB : Hid (targetB (.node k x b kids) = (k == 27 || k == 32 || k == 33)) := rfl
  have HK : k = 27 ∨ k = 32 ∨ k = 33 ∨ ((k == 27) = false ∧ (k == 32) = false ∧ (k == 33) = false) := by simp only [beq_eq_false_iff_ne]; omega
  clear hh hr hl hk ha
  rcases HK with rfl | rfl | rfl | ⟨k1, k2, k3⟩
  ·go_enter Tryz.func231, Tryz.ntmps231
   go_wp2_with fail
   go_ret
   exact ⟨rfl, rfl⟩
  ·go_enter Tryz.func231, Tryz.ntmps231
   go_wp2_with fail
   go_ret
   exact ⟨rfl, rfl⟩
  ·go_enter Tryz.func231, Tryz.ntmps231
   go_wp2_with fail
   go_ret
   exact ⟨rfl, rfl⟩
  ·have HE : Hid (targetB (.node k x b kids) = false) := by show _ = _; rw [HB.out, k1, k2, k3]; rfl
   go_enter Tryz.func231, Tryz.ntmps231
   go_wp2_with fail
   go_ret
   exact ⟨by rw [HE.out]; rfl, rfl⟩
theorem target_yes (w : World) (lo : Nat) (v : Value) (t : Tr) (k : Tk) (h : IsT w (F lo w.heap.size) v t) (hq : targetB t = true) :
  Calls Tryz.prog 220 #[v, tkW k] w fun e w' => e = .returned (.tuple #[]) ∧ Below w.heap.size w w' := by
 have HB := Lib.hid ((Below.refl w.heap.size w).alloc (Nat.le_refl _) (.cells #[.int .i64 k.kind, .int .i64 k.pos, .string (bs k.text), .int .u64 k.bits] 42))
 have T := Lib.hid (isTarget_any _ _ v t (h.stay HB.out))
 rw [hq] at T
 unfold tkW
 clear hq h
 go_enter Tryz.func220, Tryz.ntmps220
 go_wp2_with fail
 refine T.out.mono ?_; rintro e w' ⟨rfl, rfl⟩
 go_wp2_with fail
 go_end0
 exact ⟨rfl, HB.out⟩
theorem target_no (w : World) (lo : Nat) (v : Value) (t : Tr) (k : Tk) (h : IsT w (F lo w.heap.size) v t) (hq : targetB t = false) :
  Calls Tryz.prog 220 #[v, tkW k] w fun e w' => e = sflt k.pos ∧ Below w.heap.size w w' := by
 have HB := Lib.hid ((Below.refl w.heap.size w).alloc (Nat.le_refl _) (.cells #[.int .i64 k.kind, .int .i64 k.pos, .string (bs k.text), .int .u64 k.bits] 42))
 have T := Lib.hid (isTarget_any _ _ v t (h.stay HB.out))
 rw [hq] at T
 unfold tkW
 clear hq h
 go_enter Tryz.func220, Tryz.ntmps220
 go_wp2_with fail
 refine T.out.mono ?_; rintro e w' ⟨rfl, rfl⟩
 go_wp2_with fail
 exact bodyPost_panic rfl ⟨rfl, HB.out⟩
theorem stoken_agg (c : Cx) (k : Nat) (w : World) (h : In c w k) :
  Calls Tryz.prog 147 #[.pointer (some ⟨c.b, 0, none⟩)] w fun e w' => e = .returned (.agg #[.int .i64 (c.T k).kind, .int .i64 (c.T k).pos, .string (bs (c.T k).text), .int .u64 (c.T k).bits]) ∧ Below w.heap.size w w' := stoken_any c k w h
theorem B4.stay {w w' : World} {g : Nat} {x0 x1 x2 x3 : Value} (h : B4 w g x0 x1 x2 x3) (hb : Below w.heap.size w w') : B4 w' g x0 x1 x2 x3 := (hb.block g h.lt).trans h
theorem skey_no (c : Cx) (k : Nat) (w : World) (h : In c w k) (hq : ¬ ((c.T k).kind = 1 ∨ (c.T k).kind = 2)) :
  Calls Tryz.prog 258 #[.pointer (some ⟨c.b, 0, none⟩)] w fun e w' => e = sflt (c.T k).pos ∧ Below w.heap.size w w' := by
 have T := Lib.hid (stoken_any c k w h)
 have G := Lib.hid (fun w1 (hb : Below w.heap.size w w1) => sgiveUp_any c k w1 (h.below hb))
 unfold tkW at T
 unfold sflt at G ⊢
 generalize c.T k = t at *
 obtain ⟨tk, tp, tx, tb⟩ := t
 have hk1 : (tk == 1) = false := by rw [beq_eq_false_iff_ne]; intro e; exact hq (.inl e)
 have hk2 : (tk == 2) = false := by rw [beq_eq_false_iff_ne]; intro e; exact hq (.inr e)
 clear h hq
 go_enter Tryz.func258, Tryz.ntmps258
 go_wp2_with fail
 refine T.out.mono ?_; rintro e w1 ⟨rfl, hB1⟩
 have HBA := Lib.hid (hB1.alloc hB1.size (.cells #[.int .i64 tk, .int .i64 tp, .string (bs tx), .int .u64 tb] 42))
 clear hB1
 go_wp2_with fail
 refine (G.out _ HBA.out).mono ?_; rintro e w2 ⟨rfl, hB2⟩
 go_wp2_with fail
 exact bodyPost_panic rfl ⟨rfl, below_trans HBA.out hB2 HBA.out.size⟩
def PostF (lo : Nat) (c : Cx) (nt : NT) (k : Nat) (w : World) (e : Ending) (w' : World) : Prop :=
 ∃ r, D c.E nt (c.R k) r ∧ match r with
  | .error p => e = sflt p ∧ Off c.b w w'
  | .ok (t, R1) => ∃ j v, R1 = c.R j ∧ k < j ∧ e = .returned v ∧ Go1 c w w' j ∧ IsT w' (F lo w'.heap.size) v t
theorem postF_err {lo : Nat} {c : Cx} {nt : NT} {k : Nat} {w w' : World} {e : Ending} {p : Int} (h : D c.E nt (c.R k) (.error p)) (he : e = sflt p) (ho : Off c.b w w') : PostF lo c nt k w e w' := ⟨_, h, he, ho⟩
theorem postF_ok {lo : Nat} {c : Cx} {nt : NT} {k j : Nat} {w w' : World} {e : Ending} {t : Tr} {v : Value} (h : D c.E nt (c.R k) (.ok (t, c.R j))) (hj : k < j) (he : e = .returned v) (hi : In c w' j) (ho : Off c.b w w') (ht : IsT w' (F lo w'.heap.size) v t) : PostF lo c nt k w e w' := ⟨_, h, j, v, rfl, hj, he, ⟨hi, ho⟩, ht⟩
def PostLF (lo : Nat) (c : Cx) (nt : NT) (k : Nat) (w : World) (e : Ending) (w' : World) : Prop :=
 ∃ r, D c.E nt (c.R k) r ∧ match r with
  | .error p => e = sflt p ∧ Off c.b w w'
  | .ok (t, R1) => ∃ j v vs S, R1 = c.R j ∧ k < j ∧ e = .returned v ∧ Go1 c w w' j ∧ w'.ownsRow lo 59 1 v vs.length vs ∧ IsTs w' S vs t.kids ∧ (∀ i, S i → F lo w'.heap.size i) ∧ (∀ g, v.ownBlock = some g → ¬ S g)
end Go.Proofs.YtnkfodelgpidkaaGreatDoor
namespace Go.Proofs.YtnkfodelgpidkaaGreatDoor
open Go.RowKit
def Ok (c : Cx) (nt : NT) (f : Nat) (args : Array Value) (k : Nat) : Prop := ∀ w, In c w k → Calls Tryz.prog f args w (Post c nt k w)
def OkL (c : Cx) (nt : NT) (f : Nat) (args : Array Value) (k : Nat) : Prop := ∀ w, In c w k → Calls Tryz.prog f args w (PostL c nt k w)
def OkX (c : Cx) (ntf : Tr → NT) (f : Nat) (k : Nat) : Prop := ∀ (w : World) (lo v : Nat) (t : Tr), lo ≤ w.heap.size → c.b < lo → IsT w (F lo w.heap.size) (.pointer (some ⟨v, 0, none⟩)) t → In c w k → Calls Tryz.prog f #[.pointer (some ⟨c.b, 0, none⟩), .pointer (some ⟨v, 0, none⟩)] w (PostF lo c (ntf t) k w)
def OkXL (c : Cx) (ntf : Tr → NT) (f : Nat) (k : Nat) : Prop := ∀ (w : World) (lo v : Nat) (t : Tr), lo ≤ w.heap.size → c.b < lo → IsT w (F lo w.heap.size) (.pointer (some ⟨v, 0, none⟩)) t → In c w k → Calls Tryz.prog f #[.pointer (some ⟨c.b, 0, none⟩), .pointer (some ⟨v, 0, none⟩)] w (PostLF lo c (ntf t) k w)
theorem IsT.ptr {w : World} {S : Nat → Prop} {v : Value} {t : Tr} (h : IsT w S v t) : ∃ a, v = .pointer (some ⟨a, 0, none⟩) := by cases h; exact ⟨_, rfl⟩
abbrev Cx.p (c : Cx) : Value := .pointer (some ⟨c.b, 0, none⟩)
theorem bracketed_any (c : Cx) (k : Nat) (ihe : ∀ j, k < j → Ok c .expr 161 #[c.p] j) : Ok c .bracketed 195 #[c.p] k := by
 intro w h
 have hbl := h.lt
 have hfew := h.ok.few
 have G0 : Hid (Go1 c w w k) := ⟨h, Off.refl _ _⟩
 have IHE := Lib.hid ihe
 clear h ihe
 go_enter Tryz.func195, Tryz.ntmps195
 go_wp2_with fail
 cases hq : isF c.E [40] (c.R k)
 ·refine (need_no c k ⟨#[40]⟩ _ G0.out.1 hq).mono ?_; rintro e w1 ⟨rfl, hB⟩
  have HO := Lib.hid (G0.out.2.below hB)
  have Q1 := Lib.hid hq
  clear hB hq
  unfold sflt
  go_wp2_with fail
  exact bodyPost_panic rfl (post_err (show D c.E .bracketed (c.R k) (.error (c.T k).pos) from D.mk0 fun m => by simp only [body, need, Bool.false_eq_true, if_false, bad, R_hd, Q1.out]) rfl HO.out)
 ·refine (need_yes c k ⟨#[40]⟩ (by decide) _ G0.out.1 hq).mono ?_; rintro e w1 ⟨rfl, hG⟩
  have G2 : Hid (Go1 c w w1 (k + 1)) := ⟨hG.1, G0.out.2.trans hG.2⟩
  have Q1 := Lib.hid hq
  clear hG hq
  go_wp2_with fail
  refine (IHE.out (k + 1) (by omega) _ G2.out.1).mono ?_; rintro e w3 ⟨r, hD, hr⟩
  rcases r with p | ⟨t3, R1⟩
  ·obtain ⟨rfl, hO⟩ := hr
   have HO := Lib.hid (G2.out.2.trans hO)
   have D3 := Lib.hid hD
   clear hD hO
   unfold sflt
   go_wp2_with fail
   exact bodyPost_panic rfl (post_err (show D c.E .bracketed (c.R k) (.error p) from D.mk1 D3.out fun m h0 => by simp only [body, need, if_true, R_tail, bnd, Q1.out, h0]) rfl HO.out)
  ·obtain ⟨j3, vv, rfl, hj3, rfl, hG, hT⟩ := hr
   obtain ⟨v3, rfl⟩ := hT.ptr
   have G4 : Hid (Go1 c w w3 j3) := ⟨hG.1, G2.out.2.trans hG.2⟩
   have T3 := Lib.hid (hT.lower G2.out.2.size)
   have D3 := Lib.hid hD
   clear hD hG hT
   go_wp2_with fail
   cases hq : isF c.E [41] (c.R j3)
   ·refine (need_no c j3 ⟨#[41]⟩ _ G4.out.1 hq).mono ?_; rintro e w5 ⟨rfl, hB⟩
    have HO := Lib.hid (G4.out.2.below hB)
    have Q5 := Lib.hid hq
    clear hB hq
    unfold sflt
    go_wp2_with fail
    exact bodyPost_panic rfl (post_err (show D c.E .bracketed (c.R k) (.error (c.T j3).pos) from D.mk1 D3.out fun m h0 => by simp only [body, need, if_true, R_tail, bnd, Bool.false_eq_true, if_false, bad, R_hd, Q1.out, Q5.out, h0]) rfl HO.out)
   ·refine (need_yes c j3 ⟨#[41]⟩ (by decide) _ G4.out.1 hq).mono ?_; rintro e w5 ⟨rfl, hG⟩
    have G6 : Hid (Go1 c w w5 (j3 + 1)) := ⟨hG.1, G4.out.2.trans hG.2⟩
    have T7 := Lib.hid (T3.out.off hG.2 hbl)
    have Q5 := Lib.hid hq
    clear hG hq
    go_wp2_with fail
    go_ret
    exact post_ok (show D c.E .bracketed (c.R k) (.ok (t3, c.R (j3 + 1))) from D.mk1 D3.out fun m h0 => by simp only [body, need, if_true, R_tail, bnd, ret, Q1.out, Q5.out, h0]) (by omega) rfl G6.out.1 G6.out.2 T7.out
theorem whileDo_any (c : Cx) (k : Nat) (ihb : ∀ j, k < j → Ok c .bracketed 195 #[c.p] j) (ihs : ∀ j, k < j → Ok c .statement 89 #[c.p] j) : Ok c .whileDo 154 #[c.p] k := by
 intro w h
 have hbl := h.lt
 have hfew := h.ok.few
 have G0 : Hid (Go1 c w w k) := ⟨h, Off.refl _ _⟩
 have IHB := Lib.hid ihb
 have IHS := Lib.hid ihs
 clear h ihb ihs
 go_enter Tryz.func154, Tryz.ntmps154
 go_wp2_with fail
 cases hq : isF c.E [119, 104, 105, 108, 101] (c.R k)
 ·refine (need_no c k ⟨#[119, 104, 105, 108, 101]⟩ _ G0.out.1 hq).mono ?_; rintro e w1 ⟨rfl, hB⟩
  have HO := Lib.hid (G0.out.2.below hB)
  have Q1 := Lib.hid hq
  clear hB hq
  unfold sflt
  go_wp2_with fail
  exact bodyPost_panic rfl (post_err (show D c.E .whileDo (c.R k) (.error (c.T k).pos) from D.mk0 fun m => by simp only [body, need, Bool.false_eq_true, if_false, bad, R_hd, Q1.out]) rfl HO.out)
 ·refine (need_yes c k ⟨#[119, 104, 105, 108, 101]⟩ (by decide) _ G0.out.1 hq).mono ?_; rintro e w1 ⟨rfl, hG⟩
  have G2 : Hid (Go1 c w w1 (k + 1)) := ⟨hG.1, G0.out.2.trans hG.2⟩
  have Q1 := Lib.hid hq
  clear hG hq
  go_wp2_with fail
  refine (IHB.out (k + 1) (by omega) _ G2.out.1).mono ?_; rintro e w3 ⟨r, hD, hr⟩
  rcases r with p | ⟨t3, R1⟩
  ·obtain ⟨rfl, hO⟩ := hr
   have HO := Lib.hid (G2.out.2.trans hO)
   have D3 := Lib.hid hD
   clear hD hO
   unfold sflt
   go_wp2_with fail
   exact bodyPost_panic rfl (post_err (show D c.E .whileDo (c.R k) (.error p) from D.mk1 D3.out fun m h0 => by simp only [body, need, if_true, R_tail, bnd, Q1.out, h0]) rfl HO.out)
  ·obtain ⟨j3, vv, rfl, hj3, rfl, hG, hT⟩ := hr
   obtain ⟨v3, rfl⟩ := hT.ptr
   have G4 : Hid (Go1 c w w3 j3) := ⟨hG.1, G2.out.2.trans hG.2⟩
   have T3 := Lib.hid (hT.lower G2.out.2.size)
   have D3 := Lib.hid hD
   clear hD hG hT
   go_wp2_with fail
   refine (IHS.out j3 (by omega) _ G4.out.1).mono ?_; rintro e w5 ⟨r, hD, hr⟩
   rcases r with p | ⟨t5, R1⟩
   ·obtain ⟨rfl, hO⟩ := hr
    have HO := Lib.hid (G4.out.2.trans hO)
    have D5 := Lib.hid hD
    clear hD hO
    unfold sflt
    go_wp2_with fail
    exact bodyPost_panic rfl (post_err (show D c.E .whileDo (c.R k) (.error p) from D.mk2 D3.out D5.out fun m h0 h1 => by simp only [body, need, if_true, R_tail, bnd, Q1.out, h0, h1]) rfl HO.out)
   ·obtain ⟨j5, vv, rfl, hj5, rfl, hG, hT⟩ := hr
    obtain ⟨v5, rfl⟩ := hT.ptr
    have G6 : Hid (Go1 c w w5 j5) := ⟨hG.1, G4.out.2.trans hG.2⟩
    have T7 := Lib.hid (T3.out.off hG.2 hbl)
    have T5 := Lib.hid (hT.lower G4.out.2.size)
    have D5 := Lib.hid hD
    clear hD hG hT
    go_wp2_with fail
    refine (newNode_any _ _ _ _ _ _).mono ?_; rintro e w8 hm
    obtain ⟨a8, rfl, hT, hB⟩ := node_kids (k := 8) (x := []) (vs := [(.pointer (some ⟨v3, 0, none⟩)), (.pointer (some ⟨v5, 0, none⟩))]) (kids := [t3, t5]) (IsTs.cons T7.out (IsTs.cons T5.out (IsTs.nil _ _))) G6.out.2.size hm
    have G9 : Hid (Go1 c w w8 j5) := ⟨G6.out.1.below hB, G6.out.2.below hB⟩
    have T8 := Lib.hid hT
    clear hT hB hm
    go_wp2_with fail
    go_ret
    exact post_ok (show D c.E .whileDo (c.R k) (.ok ((nd 8 [] [t3, t5]), c.R j5)) from D.mk2 D3.out D5.out fun m h0 h1 => by simp only [body, need, if_true, R_tail, bnd, ret, Q1.out, h0, h1]) (by omega) rfl G9.out.1 G9.out.2 T8.out
theorem doWhile_any (c : Cx) (k : Nat) (ihb : ∀ j, k < j → Ok c .bracketed 195 #[c.p] j) (ihs : ∀ j, k < j → Ok c .statement 89 #[c.p] j) : Ok c .doWhile 155 #[c.p] k := by
 intro w h
 have hbl := h.lt
 have hfew := h.ok.few
 have G0 : Hid (Go1 c w w k) := ⟨h, Off.refl _ _⟩
 have IHB := Lib.hid ihb
 have IHS := Lib.hid ihs
 clear h ihb ihs
 go_enter Tryz.func155, Tryz.ntmps155
 go_wp2_with fail
 cases hq : isF c.E [100, 111] (c.R k)
 ·refine (need_no c k ⟨#[100, 111]⟩ _ G0.out.1 hq).mono ?_; rintro e w1 ⟨rfl, hB⟩
  have HO := Lib.hid (G0.out.2.below hB)
  have Q1 := Lib.hid hq
  clear hB hq
  unfold sflt
  go_wp2_with fail
  exact bodyPost_panic rfl (post_err (show D c.E .doWhile (c.R k) (.error (c.T k).pos) from D.mk0 fun m => by simp only [body, need, Bool.false_eq_true, if_false, bad, R_hd, Q1.out]) rfl HO.out)
 ·refine (need_yes c k ⟨#[100, 111]⟩ (by decide) _ G0.out.1 hq).mono ?_; rintro e w1 ⟨rfl, hG⟩
  have G2 : Hid (Go1 c w w1 (k + 1)) := ⟨hG.1, G0.out.2.trans hG.2⟩
  have Q1 := Lib.hid hq
  clear hG hq
  go_wp2_with fail
  refine (IHS.out (k + 1) (by omega) _ G2.out.1).mono ?_; rintro e w3 ⟨r, hD, hr⟩
  rcases r with p | ⟨t3, R1⟩
  ·obtain ⟨rfl, hO⟩ := hr
   have HO := Lib.hid (G2.out.2.trans hO)
   have D3 := Lib.hid hD
   clear hD hO
   unfold sflt
   go_wp2_with fail
   exact bodyPost_panic rfl (post_err (show D c.E .doWhile (c.R k) (.error p) from D.mk1 D3.out fun m h0 => by simp only [body, need, if_true, R_tail, bnd, Q1.out, h0]) rfl HO.out)
  ·obtain ⟨j3, vv, rfl, hj3, rfl, hG, hT⟩ := hr
   obtain ⟨v3, rfl⟩ := hT.ptr
   have G4 : Hid (Go1 c w w3 j3) := ⟨hG.1, G2.out.2.trans hG.2⟩
   have T3 := Lib.hid (hT.lower G2.out.2.size)
   have D3 := Lib.hid hD
   clear hD hG hT
   go_wp2_with fail
   cases hq : isF c.E [119, 104, 105, 108, 101] (c.R j3)
   ·refine (need_no c j3 ⟨#[119, 104, 105, 108, 101]⟩ _ G4.out.1 hq).mono ?_; rintro e w5 ⟨rfl, hB⟩
    have HO := Lib.hid (G4.out.2.below hB)
    have Q5 := Lib.hid hq
    clear hB hq
    unfold sflt
    go_wp2_with fail
    exact bodyPost_panic rfl (post_err (show D c.E .doWhile (c.R k) (.error (c.T j3).pos) from D.mk1 D3.out fun m h0 => by simp only [body, need, if_true, R_tail, bnd, Bool.false_eq_true, if_false, bad, R_hd, Q1.out, Q5.out, h0]) rfl HO.out)
   ·refine (need_yes c j3 ⟨#[119, 104, 105, 108, 101]⟩ (by decide) _ G4.out.1 hq).mono ?_; rintro e w5 ⟨rfl, hG⟩
    have G6 : Hid (Go1 c w w5 (j3 + 1)) := ⟨hG.1, G4.out.2.trans hG.2⟩
    have T7 := Lib.hid (T3.out.off hG.2 hbl)
    have Q5 := Lib.hid hq
    clear hG hq
    go_wp2_with fail
    refine (IHB.out (j3 + 1) (by omega) _ G6.out.1).mono ?_; rintro e w8 ⟨r, hD, hr⟩
    rcases r with p | ⟨t8, R1⟩
    ·obtain ⟨rfl, hO⟩ := hr
     have HO := Lib.hid (G6.out.2.trans hO)
     have D8 := Lib.hid hD
     clear hD hO
     unfold sflt
     go_wp2_with fail
     exact bodyPost_panic rfl (post_err (show D c.E .doWhile (c.R k) (.error p) from D.mk2 D3.out D8.out fun m h0 h1 => by simp only [body, need, if_true, R_tail, bnd, Q1.out, Q5.out, h0, h1]) rfl HO.out)
    ·obtain ⟨j8, vv, rfl, hj8, rfl, hG, hT⟩ := hr
     obtain ⟨v8, rfl⟩ := hT.ptr
     have G9 : Hid (Go1 c w w8 j8) := ⟨hG.1, G6.out.2.trans hG.2⟩
     have T10 := Lib.hid (T7.out.off hG.2 hbl)
     have T8 := Lib.hid (hT.lower G6.out.2.size)
     have D8 := Lib.hid hD
     clear hD hG hT
     go_wp2_with fail
     refine (newNode_any _ _ _ _ _ _).mono ?_; rintro e w11 hm
     obtain ⟨a11, rfl, hT, hB⟩ := node_kids (k := 9) (x := []) (vs := [(.pointer (some ⟨v3, 0, none⟩)), (.pointer (some ⟨v8, 0, none⟩))]) (kids := [t3, t8]) (IsTs.cons T10.out (IsTs.cons T8.out (IsTs.nil _ _))) G9.out.2.size hm
     have G12 : Hid (Go1 c w w11 j8) := ⟨G9.out.1.below hB, G9.out.2.below hB⟩
     have T11 := Lib.hid hT
     clear hT hB hm
     go_wp2_with fail
     cases hq : isF c.E [59] (c.R j8)
     ·refine (ended_no c j8 _ _ G12.out.1 hq).mono ?_; rintro e w15 ⟨rfl, hB⟩
      have HO := Lib.hid (G12.out.2.below hB)
      have Q15 := Lib.hid hq
      clear hB hq
      unfold sflt
      go_wp2_with fail
      exact bodyPost_panic rfl (post_err (show D c.E .doWhile (c.R k) (.error (c.T j8).pos) from D.mk2 D3.out D8.out fun m h0 h1 => by simp only [body, need, if_true, R_tail, bnd, Bool.false_eq_true, if_false, bad, R_hd, Q1.out, Q5.out, Q15.out, h0, h1]) rfl HO.out)
     ·refine (ended_yes c j8 _ _ G12.out.1 hq).mono ?_; rintro e w15 ⟨rfl, hG⟩
      have G16 : Hid (Go1 c w w15 (j8 + 1)) := ⟨hG.1, G12.out.2.trans hG.2⟩
      have T19 := Lib.hid (T11.out.off hG.2 hbl)
      have Q15 := Lib.hid hq
      clear hG hq
      go_wp2_with fail
      go_ret
      exact post_ok (show D c.E .doWhile (c.R k) (.ok ((nd 9 [] [t3, t8]), c.R (j8 + 1))) from D.mk2 D3.out D8.out fun m h0 h1 => by simp only [body, need, if_true, R_tail, bnd, ret, Q1.out, Q5.out, Q15.out, h0, h1]) (by omega) rfl G16.out.1 G16.out.2 T19.out
theorem throwIt_any (c : Cx) (k : Nat) (ihe : ∀ j, k < j → Ok c .expr 161 #[c.p] j) : Ok c .throwIt 159 #[c.p] k := by
 intro w h
 have hbl := h.lt
 have hfew := h.ok.few
 have G0 : Hid (Go1 c w w k) := ⟨h, Off.refl _ _⟩
 have IHE := Lib.hid ihe
 clear h ihe
 go_enter Tryz.func159, Tryz.ntmps159
 go_wp2_with fail
 cases hq : isF c.E [116, 104, 114, 111, 119] (c.R k)
 ·refine (need_no c k ⟨#[116, 104, 114, 111, 119]⟩ _ G0.out.1 hq).mono ?_; rintro e w1 ⟨rfl, hB⟩
  have HO := Lib.hid (G0.out.2.below hB)
  have Q1 := Lib.hid hq
  clear hB hq
  unfold sflt
  go_wp2_with fail
  exact bodyPost_panic rfl (post_err (show D c.E .throwIt (c.R k) (.error (c.T k).pos) from D.mk0 fun m => by simp only [body, need, Bool.false_eq_true, if_false, bad, R_hd, Q1.out]) rfl HO.out)
 ·refine (need_yes c k ⟨#[116, 104, 114, 111, 119]⟩ (by decide) _ G0.out.1 hq).mono ?_; rintro e w1 ⟨rfl, hG⟩
  have G2 : Hid (Go1 c w w1 (k + 1)) := ⟨hG.1, G0.out.2.trans hG.2⟩
  have Q1 := Lib.hid hq
  clear hG hq
  go_wp2_with fail
  refine (IHE.out (k + 1) (by omega) _ G2.out.1).mono ?_; rintro e w3 ⟨r, hD, hr⟩
  rcases r with p | ⟨t3, R1⟩
  ·obtain ⟨rfl, hO⟩ := hr
   have HO := Lib.hid (G2.out.2.trans hO)
   have D3 := Lib.hid hD
   clear hD hO
   unfold sflt
   go_wp2_with fail
   exact bodyPost_panic rfl (post_err (show D c.E .throwIt (c.R k) (.error p) from D.mk1 D3.out fun m h0 => by simp only [body, need, if_true, R_tail, bnd, Q1.out, h0]) rfl HO.out)
  ·obtain ⟨j3, vv, rfl, hj3, rfl, hG, hT⟩ := hr
   obtain ⟨v3, rfl⟩ := hT.ptr
   have G4 : Hid (Go1 c w w3 j3) := ⟨hG.1, G2.out.2.trans hG.2⟩
   have T3 := Lib.hid (hT.lower G2.out.2.size)
   have D3 := Lib.hid hD
   clear hD hG hT
   go_wp2_with fail
   refine (newNode_any _ _ _ _ _ _).mono ?_; rintro e w5 hm
   obtain ⟨a5, rfl, hT, hB⟩ := node_kids (k := 14) (x := []) (vs := [(.pointer (some ⟨v3, 0, none⟩))]) (kids := [t3]) (IsTs.cons T3.out (IsTs.nil _ _)) G4.out.2.size hm
   have G6 : Hid (Go1 c w w5 j3) := ⟨G4.out.1.below hB, G4.out.2.below hB⟩
   have T5 := Lib.hid hT
   clear hT hB hm
   go_wp2_with fail
   cases hq : isF c.E [59] (c.R j3)
   ·refine (ended_no c j3 _ _ G6.out.1 hq).mono ?_; rintro e w8 ⟨rfl, hB⟩
    have HO := Lib.hid (G6.out.2.below hB)
    have Q8 := Lib.hid hq
    clear hB hq
    unfold sflt
    go_wp2_with fail
    exact bodyPost_panic rfl (post_err (show D c.E .throwIt (c.R k) (.error (c.T j3).pos) from D.mk1 D3.out fun m h0 => by simp only [body, need, if_true, R_tail, bnd, Bool.false_eq_true, if_false, bad, R_hd, Q1.out, Q8.out, h0]) rfl HO.out)
   ·refine (ended_yes c j3 _ _ G6.out.1 hq).mono ?_; rintro e w8 ⟨rfl, hG⟩
    have G9 : Hid (Go1 c w w8 (j3 + 1)) := ⟨hG.1, G6.out.2.trans hG.2⟩
    have T11 := Lib.hid (T5.out.off hG.2 hbl)
    have Q8 := Lib.hid hq
    clear hG hq
    go_wp2_with fail
    go_ret
    exact post_ok (show D c.E .throwIt (c.R k) (.ok ((nd 14 [] [t3]), c.R (j3 + 1))) from D.mk1 D3.out fun m h0 => by simp only [body, need, if_true, R_tail, bnd, ret, Q1.out, Q8.out, h0]) (by omega) rfl G9.out.1 G9.out.2 T11.out
end Go.Proofs.YtnkfodelgpidkaaGreatDoor
namespace Go.Proofs.YtnkfodelgpidkaaGreatDoor
open Go.RowKit
theorem block_any (c : Cx) (k : Nat) (ihu : ∀ j, k < j → OkL c (.untl [125] .statement) 146 #[c.p, .string ⟨#[125]⟩, .func (.func 89) #[c.p] #[]] j) : Ok c .block 150 #[c.p] k := by
 intro w h
 have hbl := h.lt
 have hfew := h.ok.few
 have G0 : Hid (Go1 c w w k) := ⟨h, Off.refl _ _⟩
 have IHU := Lib.hid ihu
 clear h ihu
 go_enter Tryz.func150, Tryz.ntmps150
 go_wp2_with fail
 cases hq : isF c.E [123] (c.R k)
 ·refine (need_no c k ⟨#[123]⟩ _ G0.out.1 hq).mono ?_; rintro e w1 ⟨rfl, hB⟩
  have HO := Lib.hid (G0.out.2.below hB)
  have Q1 := Lib.hid hq
  clear hB hq
  unfold sflt
  go_wp2_with fail
  exact bodyPost_panic rfl (post_err (show D c.E .block (c.R k) (.error (c.T k).pos) from D.mk0 fun m => by simp only [body, need, Bool.false_eq_true, if_false, bad, R_hd, Q1.out]) rfl HO.out)
 ·refine (need_yes c k ⟨#[123]⟩ (by decide) _ G0.out.1 hq).mono ?_; rintro e w1 ⟨rfl, hG⟩
  have G2 : Hid (Go1 c w w1 (k + 1)) := ⟨hG.1, G0.out.2.trans hG.2⟩
  have Q1 := Lib.hid hq
  clear hG hq
  go_wp2_with fail
  refine (IHU.out (k + 1) (by omega) _ G2.out.1).mono ?_; rintro e w3 ⟨r, hD, hr⟩
  rcases r with p | ⟨t3, R1⟩
  ·obtain ⟨rfl, hO⟩ := hr
   have HO := Lib.hid (G2.out.2.trans hO)
   have D3 := Lib.hid hD
   clear hD hO
   unfold sflt
   go_wp2_with fail
   exact bodyPost_panic rfl (post_err (show D c.E .block (c.R k) (.error p) from D.mk1 D3.out fun m h0 => by simp only [body, need, if_true, R_tail, bnd, Q1.out, h0]) rfl HO.out)
  ·obtain ⟨j3, v3, vs3, S3, rfl, hj3, rfl, hG, hW, hK, hS, hN⟩ := hr
   have G4 : Hid (Go1 c w w3 j3) := ⟨hG.1, G2.out.2.trans hG.2⟩
   have HW3 := Lib.hid (own_mono hW G2.out.2.size)
   have HK3 := Lib.hid hK
   have HS3 : Hid (∀ i, S3 i → F w.heap.size w3.heap.size i) := fun i hi => F.mono G2.out.2.size (Nat.le_refl _) i (hS i hi)
   obtain ⟨ao3, cp3, rfl⟩ := own_slice hW
   have D3 := Lib.hid hD
   clear hD hG hW hK hS hN
   go_wp2_with fail
   refine (newNode_any _ _ _ _ _ _).mono ?_; rintro e w5 hm
   obtain ⟨a5, rfl, hT, hB⟩ := node_row (k := 2) (x := []) HK3.out HS3.out G4.out.2.size HW3.out hm
   have G6 : Hid (Go1 c w w5 j3) := ⟨G4.out.1.below hB, G4.out.2.below hB⟩
   have T5 := Lib.hid hT
   clear hT hB hm
   go_wp2_with fail
   go_ret
   exact post_ok (show D c.E .block (c.R k) (.ok ((nd 2 [] t3.kids), c.R j3)) from D.mk1 D3.out fun m h0 => by simp only [body, need, if_true, R_tail, bnd, ret, Q1.out, h0]) (by omega) rfl G6.out.1 G6.out.2 T5.out
theorem vars_any (c : Cx) (k : Nat) (ihr : ∀ j, k < j → OkL c (.row .decl) 193 #[c.p, .func (.func 194) #[c.p] #[]] j) : Ok c .vars 152 #[c.p] k := by
 intro w h
 have hbl := h.lt
 have hfew := h.ok.few
 have G0 : Hid (Go1 c w w k) := ⟨h, Off.refl _ _⟩
 have IHR := Lib.hid ihr
 clear h ihr
 go_enter Tryz.func152, Tryz.ntmps152
 go_wp2_with fail
 cases hq : isF c.E [118, 97, 114] (c.R k)
 ·refine (need_no c k ⟨#[118, 97, 114]⟩ _ G0.out.1 hq).mono ?_; rintro e w1 ⟨rfl, hB⟩
  have HO := Lib.hid (G0.out.2.below hB)
  have Q1 := Lib.hid hq
  clear hB hq
  unfold sflt
  go_wp2_with fail
  exact bodyPost_panic rfl (post_err (show D c.E .vars (c.R k) (.error (c.T k).pos) from D.mk0 fun m => by simp only [body, need, Bool.false_eq_true, if_false, bad, R_hd, Q1.out]) rfl HO.out)
 ·refine (need_yes c k ⟨#[118, 97, 114]⟩ (by decide) _ G0.out.1 hq).mono ?_; rintro e w1 ⟨rfl, hG⟩
  have G2 : Hid (Go1 c w w1 (k + 1)) := ⟨hG.1, G0.out.2.trans hG.2⟩
  have Q1 := Lib.hid hq
  clear hG hq
  go_wp2_with fail
  refine (IHR.out (k + 1) (by omega) _ G2.out.1).mono ?_; rintro e w3 ⟨r, hD, hr⟩
  rcases r with p | ⟨t3, R1⟩
  ·obtain ⟨rfl, hO⟩ := hr
   have HO := Lib.hid (G2.out.2.trans hO)
   have D3 := Lib.hid hD
   clear hD hO
   unfold sflt
   go_wp2_with fail
   exact bodyPost_panic rfl (post_err (show D c.E .vars (c.R k) (.error p) from D.mk1 D3.out fun m h0 => by simp only [body, need, if_true, R_tail, bnd, Q1.out, h0]) rfl HO.out)
  ·obtain ⟨j3, v3, vs3, S3, rfl, hj3, rfl, hG, hW, hK, hS, hN⟩ := hr
   have G4 : Hid (Go1 c w w3 j3) := ⟨hG.1, G2.out.2.trans hG.2⟩
   have HW3 := Lib.hid (own_mono hW G2.out.2.size)
   have HK3 := Lib.hid hK
   have HS3 : Hid (∀ i, S3 i → F w.heap.size w3.heap.size i) := fun i hi => F.mono G2.out.2.size (Nat.le_refl _) i (hS i hi)
   obtain ⟨ao3, cp3, rfl⟩ := own_slice hW
   have D3 := Lib.hid hD
   clear hD hG hW hK hS hN
   go_wp2_with fail
   refine (newNode_any _ _ _ _ _ _).mono ?_; rintro e w5 hm
   obtain ⟨a5, rfl, hT, hB⟩ := node_row (k := 3) (x := []) HK3.out HS3.out G4.out.2.size HW3.out hm
   have G6 : Hid (Go1 c w w5 j3) := ⟨G4.out.1.below hB, G4.out.2.below hB⟩
   have T5 := Lib.hid hT
   clear hT hB hm
   go_wp2_with fail
   go_ret
   exact post_ok (show D c.E .vars (c.R k) (.ok ((nd 3 [] t3.kids), c.R j3)) from D.mk1 D3.out fun m h0 => by simp only [body, need, if_true, R_tail, bnd, ret, Q1.out, h0]) (by omega) rfl G6.out.1 G6.out.2 T5.out
theorem param_any (c : Cx) (k : Nat)  : Ok c .param 145 #[c.p] k := by
 intro w h
 have hbl := h.lt
 have hfew := h.ok.few
 have G0 : Hid (Go1 c w w k) := ⟨h, Off.refl _ _⟩
 clear h
 go_enter Tryz.func145, Tryz.ntmps145
 go_wp2_with fail
 by_cases hq : (c.T k).kind = 1
 ·refine (sname_yes c k _ G0.out.1 hq).mono ?_; rintro e w1 ⟨rfl, hG⟩
  have G2 : Hid (Go1 c w w1 (k + 1)) := ⟨hG.1, G0.out.2.trans hG.2⟩
  have Q1 := Lib.hid hq
  clear hG hq
  go_wp2_with fail
  refine (newNode_any _ _ _ _ _ _).mono ?_; rintro e w3 hm
  obtain ⟨a3, rfl, hT, hB⟩ := node_none (k := 19) (x := (c.T k).text) G2.out.2.size hm
  have G4 : Hid (Go1 c w w3 (k + 1)) := ⟨G2.out.1.below hB, G2.out.2.below hB⟩
  have T3 := Lib.hid hT
  clear hT hB hm
  go_wp2_with fail
  go_ret
  exact post_ok (show D c.E .param (c.R k) (.ok ((nd 19 (c.T k).text []), c.R (k + 1))) from D.mk0 fun m => by simp only [body, nameK, if_true, R_tail, R_hd, ret, Q1.out]) (by omega) rfl G4.out.1 G4.out.2 T3.out
 ·refine (sname_no c k _ G0.out.1 hq).mono ?_; rintro e w1 ⟨rfl, hB⟩
  have HO := Lib.hid (G0.out.2.below hB)
  have Q1 := Lib.hid hq
  clear hB hq
  unfold sflt
  go_wp2_with fail
  exact bodyPost_panic rfl (post_err (show D c.E .param (c.R k) (.error (c.T k).pos) from D.mk0 fun m => by simp only [body, nameK, if_false, bad, R_hd, Q1.out]) rfl HO.out)
theorem catchIt_any (c : Cx) (k : Nat) (ihk : ∀ j, k < j → Ok c .block 150 #[c.p] j) : Ok c .catchIt 198 #[c.p] k := by
 intro w h
 have hbl := h.lt
 have hfew := h.ok.few
 have G0 : Hid (Go1 c w w k) := ⟨h, Off.refl _ _⟩
 have IHK := Lib.hid ihk
 clear h ihk
 go_enter Tryz.func198, Tryz.ntmps198
 go_wp2_with fail
 cases hq : isF c.E [99, 97, 116, 99, 104] (c.R k)
 ·refine (need_no c k ⟨#[99, 97, 116, 99, 104]⟩ _ G0.out.1 hq).mono ?_; rintro e w1 ⟨rfl, hB⟩
  have HO := Lib.hid (G0.out.2.below hB)
  have Q1 := Lib.hid hq
  clear hB hq
  unfold sflt
  go_wp2_with fail
  exact bodyPost_panic rfl (post_err (show D c.E .catchIt (c.R k) (.error (c.T k).pos) from D.mk0 fun m => by simp only [body, need, Bool.false_eq_true, if_false, bad, R_hd, Q1.out]) rfl HO.out)
 ·refine (need_yes c k ⟨#[99, 97, 116, 99, 104]⟩ (by decide) _ G0.out.1 hq).mono ?_; rintro e w1 ⟨rfl, hG⟩
  have G2 : Hid (Go1 c w w1 (k + 1)) := ⟨hG.1, G0.out.2.trans hG.2⟩
  have Q1 := Lib.hid hq
  clear hG hq
  go_wp2_with fail
  cases hq : isF c.E [40] (c.R (k + 1))
  ·refine (need_no c (k + 1) ⟨#[40]⟩ _ G2.out.1 hq).mono ?_; rintro e w3 ⟨rfl, hB⟩
   have HO := Lib.hid (G2.out.2.below hB)
   have Q3 := Lib.hid hq
   clear hB hq
   unfold sflt
   go_wp2_with fail
   exact bodyPost_panic rfl (post_err (show D c.E .catchIt (c.R k) (.error (c.T (k + 1)).pos) from D.mk0 fun m => by simp only [body, need, if_true, R_tail, Bool.false_eq_true, if_false, bad, R_hd, Q1.out, Q3.out]) rfl HO.out)
  ·refine (need_yes c (k + 1) ⟨#[40]⟩ (by decide) _ G2.out.1 hq).mono ?_; rintro e w3 ⟨rfl, hG⟩
   have G4 : Hid (Go1 c w w3 ((k + 1) + 1)) := ⟨hG.1, G2.out.2.trans hG.2⟩
   have Q3 := Lib.hid hq
   clear hG hq
   go_wp2_with fail
   by_cases hq : (c.T ((k + 1) + 1)).kind = 1
   ·refine (sname_yes c ((k + 1) + 1) _ G4.out.1 hq).mono ?_; rintro e w5 ⟨rfl, hG⟩
    have G6 : Hid (Go1 c w w5 (((k + 1) + 1) + 1)) := ⟨hG.1, G4.out.2.trans hG.2⟩
    have Q5 := Lib.hid hq
    clear hG hq
    go_wp2_with fail
    cases hq : isF c.E [41] (c.R (((k + 1) + 1) + 1))
    ·refine (need_no c (((k + 1) + 1) + 1) ⟨#[41]⟩ _ G6.out.1 hq).mono ?_; rintro e w7 ⟨rfl, hB⟩
     have HO := Lib.hid (G6.out.2.below hB)
     have Q7 := Lib.hid hq
     clear hB hq
     unfold sflt
     go_wp2_with fail
     exact bodyPost_panic rfl (post_err (show D c.E .catchIt (c.R k) (.error (c.T (((k + 1) + 1) + 1)).pos) from D.mk0 fun m => by simp only [body, need, if_true, R_tail, nameK, R_hd, Bool.false_eq_true, if_false, bad, Q1.out, Q3.out, Q5.out, Q7.out]) rfl HO.out)
    ·refine (need_yes c (((k + 1) + 1) + 1) ⟨#[41]⟩ (by decide) _ G6.out.1 hq).mono ?_; rintro e w7 ⟨rfl, hG⟩
     have G8 : Hid (Go1 c w w7 ((((k + 1) + 1) + 1) + 1)) := ⟨hG.1, G6.out.2.trans hG.2⟩
     have Q7 := Lib.hid hq
     clear hG hq
     go_wp2_with fail
     refine (IHK.out ((((k + 1) + 1) + 1) + 1) (by omega) _ G8.out.1).mono ?_; rintro e w9 ⟨r, hD, hr⟩
     rcases r with p | ⟨t9, R1⟩
     ·obtain ⟨rfl, hO⟩ := hr
      have HO := Lib.hid (G8.out.2.trans hO)
      have D9 := Lib.hid hD
      clear hD hO
      unfold sflt
      go_wp2_with fail
      exact bodyPost_panic rfl (post_err (show D c.E .catchIt (c.R k) (.error p) from D.mk1 D9.out fun m h0 => by simp only [body, need, if_true, R_tail, nameK, R_hd, bnd, Q1.out, Q3.out, Q5.out, Q7.out, h0]) rfl HO.out)
     ·obtain ⟨j9, vv, rfl, hj9, rfl, hG, hT⟩ := hr
      obtain ⟨v9, rfl⟩ := hT.ptr
      have G10 : Hid (Go1 c w w9 j9) := ⟨hG.1, G8.out.2.trans hG.2⟩
      have T9 := Lib.hid (hT.lower G8.out.2.size)
      have D9 := Lib.hid hD
      clear hD hG hT
      go_wp2_with fail
      refine (newNode_any _ _ _ _ _ _).mono ?_; rintro e w11 hm
      obtain ⟨a11, rfl, hT, hB⟩ := node_kids (k := 16) (x := (c.T ((k + 1) + 1)).text) (vs := [(.pointer (some ⟨v9, 0, none⟩))]) (kids := [t9]) (IsTs.cons T9.out (IsTs.nil _ _)) G10.out.2.size hm
      have G12 : Hid (Go1 c w w11 j9) := ⟨G10.out.1.below hB, G10.out.2.below hB⟩
      have T11 := Lib.hid hT
      clear hT hB hm
      go_wp2_with fail
      go_ret
      exact post_ok (show D c.E .catchIt (c.R k) (.ok ((nd 16 (c.T ((k + 1) + 1)).text [t9]), c.R j9)) from D.mk1 D9.out fun m h0 => by simp only [body, need, if_true, R_tail, nameK, R_hd, bnd, ret, Q1.out, Q3.out, Q5.out, Q7.out, h0]) (by omega) rfl G12.out.1 G12.out.2 T11.out
   ·refine (sname_no c ((k + 1) + 1) _ G4.out.1 hq).mono ?_; rintro e w5 ⟨rfl, hB⟩
    have HO := Lib.hid (G4.out.2.below hB)
    have Q5 := Lib.hid hq
    clear hB hq
    unfold sflt
    go_wp2_with fail
    exact bodyPost_panic rfl (post_err (show D c.E .catchIt (c.R k) (.error (c.T ((k + 1) + 1)).pos) from D.mk0 fun m => by simp only [body, need, if_true, R_tail, nameK, if_false, bad, R_hd, Q1.out, Q3.out, Q5.out]) rfl HO.out)
theorem forStart_any (c : Cx) (k : Nat) (ihv : Ok c .vars 152 #[c.p] k) (ihe : Ok c .expr 161 #[c.p] k) : Ok c .forStart 196 #[c.p] k := by
 intro w h
 have hbl := h.lt
 have hfew := h.ok.few
 have G0 : Hid (Go1 c w w k) := ⟨h, Off.refl _ _⟩
 have IHV := Lib.hid ihv
 have IHE := Lib.hid ihe
 clear h ihv ihe
 go_enter Tryz.func196, Tryz.ntmps196
 go_wp2_with fail
 refine (fixed_any c k _ G0.out.1).mono ?_; rintro e w1 ⟨rfl, hB⟩
 have G2 : Hid (Go1 c w w1 k) := ⟨G0.out.1.below hB, G0.out.2.below hB⟩
 clear hB
 by_cases x1_0 : fx (c.T k) = [118, 97, 114]
 ·have n1_0 : ((bs (fx (c.T k))).toList == [118, 97, 114]) = true := gl_true (by rw [bs_list, x1_0])
  have Q1_0_0 : Hid (isF c.E [118, 97, 114] (c.R k) = true) := by show _ = _; rw [isF_T, x1_0]; rfl
  have hlt : k < c.ts.length := fx_in G2.out.1.le (by rw [x1_0]; decide)
  clear x1_0
  go_wp2_with fail
  refine (IHV.out _ G2.out.1).mono ?_; rintro e w3 ⟨r, hD, hr⟩
  rcases r with p | ⟨t3, R1⟩
  ·obtain ⟨rfl, hO⟩ := hr
   have HO := Lib.hid (G2.out.2.trans hO)
   have D3 := Lib.hid hD
   clear hD hO
   unfold sflt
   go_wp2_with fail
   exact bodyPost_panic rfl (post_err (show D c.E .forStart (c.R k) (.error p) from D.mk1 D3.out fun m h0 => by simp only [body, if_true, bnd, Q1_0_0.out, h0]) rfl HO.out)
  ·obtain ⟨j3, vv, rfl, hj3, rfl, hG, hT⟩ := hr
   obtain ⟨v3, rfl⟩ := hT.ptr
   have G4 : Hid (Go1 c w w3 j3) := ⟨hG.1, G2.out.2.trans hG.2⟩
   have T3 := Lib.hid (hT.lower G2.out.2.size)
   have D3 := Lib.hid hD
   clear hD hG hT
   go_wp2_with fail
   cases hq : isF c.E [59] (c.R j3)
   ·refine (ended_no c j3 _ _ G4.out.1 hq).mono ?_; rintro e w5 ⟨rfl, hB⟩
    have HO := Lib.hid (G4.out.2.below hB)
    have Q5 := Lib.hid hq
    clear hB hq
    unfold sflt
    go_wp2_with fail
    exact bodyPost_panic rfl (post_err (show D c.E .forStart (c.R k) (.error (c.T j3).pos) from D.mk1 D3.out fun m h0 => by simp only [body, if_true, bnd, need, Bool.false_eq_true, if_false, bad, R_hd, Q1_0_0.out, Q5.out, h0]) rfl HO.out)
   ·refine (ended_yes c j3 _ _ G4.out.1 hq).mono ?_; rintro e w5 ⟨rfl, hG⟩
    have G6 : Hid (Go1 c w w5 (j3 + 1)) := ⟨hG.1, G4.out.2.trans hG.2⟩
    have T7 := Lib.hid (T3.out.off hG.2 hbl)
    have Q5 := Lib.hid hq
    clear hG hq
    go_wp2_with fail
    go_ret
    exact post_ok (show D c.E .forStart (c.R k) (.ok (t3, c.R (j3 + 1))) from D.mk1 D3.out fun m h0 => by simp only [body, if_true, bnd, need, R_tail, ret, Q1_0_0.out, Q5.out, h0]) (by omega) rfl G6.out.1 G6.out.2 T7.out
 ·skip
  by_cases x1_1 : fx (c.T k) = [59]
  ·have n1_0 : ((bs (fx (c.T k))).toList == [118, 97, 114]) = false := gl_false (by rw [bs_list, x1_1]; decide)
   have Q1_1_0 : Hid (isF c.E [118, 97, 114] (c.R k) = false) := by show _ = _; rw [isF_T, x1_1]; rfl
   have n1_1 : ((bs (fx (c.T k))).toList == [59]) = true := gl_true (by rw [bs_list, x1_1])
   have Q1_1_1 : Hid (isF c.E [59] (c.R k) = true) := by show _ = _; rw [isF_T, x1_1]; rfl
   have hlt : k < c.ts.length := fx_in G2.out.1.le (by rw [x1_1]; decide)
   clear x1_0 x1_1
   go_wp2_with fail
   refine (newNode_any _ _ _ _ _ _).mono ?_; rintro e w8 hm
   obtain ⟨a8, rfl, hT, hB⟩ := node_none (k := 5) (x := []) G2.out.2.size hm
   have G9 : Hid (Go1 c w w8 k) := ⟨G2.out.1.below hB, G2.out.2.below hB⟩
   have T8 := Lib.hid hT
   clear hT hB hm
   go_wp2_with fail
   refine (ended_yes c k _ _ G9.out.1 Q1_1_1.out).mono ?_; rintro e w10 ⟨rfl, hG⟩
   have G11 : Hid (Go1 c w w10 (k + 1)) := ⟨hG.1, G9.out.2.trans hG.2⟩
   have T12 := Lib.hid (T8.out.off hG.2 hbl)
   clear hG
   go_wp2_with fail
   go_ret
   exact post_ok (show D c.E .forStart (c.R k) (.ok ((nd 5 [] []), c.R (k + 1))) from D.mk0 fun m => by simp only [body, Bool.false_eq_true, if_false, if_true, need, R_tail, ret, Q1_1_0.out, Q1_1_1.out]) (by omega) rfl G11.out.1 G11.out.2 T12.out
  ·have n1_0 : ((bs (fx (c.T k))).toList == [118, 97, 114]) = false := gl_false (by rw [bs_list]; exact x1_0)
   have Q1_d_0 : Hid (isF c.E [118, 97, 114] (c.R k) = false) := by show _ = _; rw [isF_T, beq_eq_false_iff_ne]; exact x1_0
   have n1_1 : ((bs (fx (c.T k))).toList == [59]) = false := gl_false (by rw [bs_list]; exact x1_1)
   have Q1_d_1 : Hid (isF c.E [59] (c.R k) = false) := by show _ = _; rw [isF_T, beq_eq_false_iff_ne]; exact x1_1
   clear x1_0 x1_1
   go_wp2_with fail
   refine (IHE.out _ G2.out.1).mono ?_; rintro e w13 ⟨r, hD, hr⟩
   rcases r with p | ⟨t13, R1⟩
   ·obtain ⟨rfl, hO⟩ := hr
    have HO := Lib.hid (G2.out.2.trans hO)
    have D13 := Lib.hid hD
    clear hD hO
    unfold sflt
    go_wp2_with fail
    exact bodyPost_panic rfl (post_err (show D c.E .forStart (c.R k) (.error p) from D.mk1 D13.out fun m h0 => by simp only [body, Bool.false_eq_true, if_false, bnd, Q1_d_0.out, Q1_d_1.out, h0]) rfl HO.out)
   ·obtain ⟨j13, vv, rfl, hj13, rfl, hG, hT⟩ := hr
    obtain ⟨v13, rfl⟩ := hT.ptr
    have G14 : Hid (Go1 c w w13 j13) := ⟨hG.1, G2.out.2.trans hG.2⟩
    have T13 := Lib.hid (hT.lower G2.out.2.size)
    have D13 := Lib.hid hD
    clear hD hG hT
    go_wp2_with fail
    refine (newNode_any _ _ _ _ _ _).mono ?_; rintro e w15 hm
    obtain ⟨a15, rfl, hT, hB⟩ := node_kids (k := 6) (x := []) (vs := [(.pointer (some ⟨v13, 0, none⟩))]) (kids := [t13]) (IsTs.cons T13.out (IsTs.nil _ _)) G14.out.2.size hm
    have G16 : Hid (Go1 c w w15 j13) := ⟨G14.out.1.below hB, G14.out.2.below hB⟩
    have T15 := Lib.hid hT
    clear hT hB hm
    go_wp2_with fail
    cases hq : isF c.E [59] (c.R j13)
    ·refine (ended_no c j13 _ _ G16.out.1 hq).mono ?_; rintro e w18 ⟨rfl, hB⟩
     have HO := Lib.hid (G16.out.2.below hB)
     have Q18 := Lib.hid hq
     clear hB hq
     unfold sflt
     go_wp2_with fail
     exact bodyPost_panic rfl (post_err (show D c.E .forStart (c.R k) (.error (c.T j13).pos) from D.mk1 D13.out fun m h0 => by simp only [body, Bool.false_eq_true, if_false, bnd, need, bad, R_hd, Q1_d_0.out, Q1_d_1.out, Q18.out, h0]) rfl HO.out)
    ·refine (ended_yes c j13 _ _ G16.out.1 hq).mono ?_; rintro e w18 ⟨rfl, hG⟩
     have G19 : Hid (Go1 c w w18 (j13 + 1)) := ⟨hG.1, G16.out.2.trans hG.2⟩
     have T21 := Lib.hid (T15.out.off hG.2 hbl)
     have Q18 := Lib.hid hq
     clear hG hq
     go_wp2_with fail
     go_ret
     exact post_ok (show D c.E .forStart (c.R k) (.ok ((nd 6 [] [t13]), c.R (j13 + 1))) from D.mk1 D13.out fun m h0 => by simp only [body, Bool.false_eq_true, if_false, bnd, need, if_true, R_tail, ret, Q1_d_0.out, Q1_d_1.out, Q18.out, h0]) (by omega) rfl G19.out.1 G19.out.2 T21.out
theorem forLoop_any (c : Cx) (k : Nat) (ihf : ∀ j, k < j → Ok c .forStart 196 #[c.p] j) (iho : ∀ j, k < j → Ok c (.optional [59]) 197 #[c.p, .string ⟨#[59]⟩] j) (ihp : ∀ j, k < j → Ok c (.optional [41]) 197 #[c.p, .string ⟨#[41]⟩] j) (ihs : ∀ j, k < j → Ok c .statement 89 #[c.p] j) : Ok c .forLoop 156 #[c.p] k := by
 intro w h
 have hbl := h.lt
 have hfew := h.ok.few
 have G0 : Hid (Go1 c w w k) := ⟨h, Off.refl _ _⟩
 have IHF := Lib.hid ihf
 have IHO := Lib.hid iho
 have IHP := Lib.hid ihp
 have IHS := Lib.hid ihs
 clear h ihf iho ihp ihs
 go_enter Tryz.func156, Tryz.ntmps156
 go_wp2_with fail
 cases hq : isF c.E [102, 111, 114] (c.R k)
 ·refine (need_no c k ⟨#[102, 111, 114]⟩ _ G0.out.1 hq).mono ?_; rintro e w1 ⟨rfl, hB⟩
  have HO := Lib.hid (G0.out.2.below hB)
  have Q1 := Lib.hid hq
  clear hB hq
  unfold sflt
  go_wp2_with fail
  exact bodyPost_panic rfl (post_err (show D c.E .forLoop (c.R k) (.error (c.T k).pos) from D.mk0 fun m => by simp only [body, need, Bool.false_eq_true, if_false, bad, R_hd, Q1.out]) rfl HO.out)
 ·refine (need_yes c k ⟨#[102, 111, 114]⟩ (by decide) _ G0.out.1 hq).mono ?_; rintro e w1 ⟨rfl, hG⟩
  have G2 : Hid (Go1 c w w1 (k + 1)) := ⟨hG.1, G0.out.2.trans hG.2⟩
  have Q1 := Lib.hid hq
  clear hG hq
  go_wp2_with fail
  cases hq : isF c.E [40] (c.R (k + 1))
  ·refine (need_no c (k + 1) ⟨#[40]⟩ _ G2.out.1 hq).mono ?_; rintro e w3 ⟨rfl, hB⟩
   have HO := Lib.hid (G2.out.2.below hB)
   have Q3 := Lib.hid hq
   clear hB hq
   unfold sflt
   go_wp2_with fail
   exact bodyPost_panic rfl (post_err (show D c.E .forLoop (c.R k) (.error (c.T (k + 1)).pos) from D.mk0 fun m => by simp only [body, need, if_true, R_tail, Bool.false_eq_true, if_false, bad, R_hd, Q1.out, Q3.out]) rfl HO.out)
  ·refine (need_yes c (k + 1) ⟨#[40]⟩ (by decide) _ G2.out.1 hq).mono ?_; rintro e w3 ⟨rfl, hG⟩
   have G4 : Hid (Go1 c w w3 ((k + 1) + 1)) := ⟨hG.1, G2.out.2.trans hG.2⟩
   have Q3 := Lib.hid hq
   clear hG hq
   go_wp2_with fail
   refine (IHF.out ((k + 1) + 1) (by omega) _ G4.out.1).mono ?_; rintro e w5 ⟨r, hD, hr⟩
   rcases r with p | ⟨t5, R1⟩
   ·obtain ⟨rfl, hO⟩ := hr
    have HO := Lib.hid (G4.out.2.trans hO)
    have D5 := Lib.hid hD
    clear hD hO
    unfold sflt
    go_wp2_with fail
    exact bodyPost_panic rfl (post_err (show D c.E .forLoop (c.R k) (.error p) from D.mk1 D5.out fun m h0 => by simp only [body, need, if_true, R_tail, bnd, Q1.out, Q3.out, h0]) rfl HO.out)
   ·obtain ⟨j5, vv, rfl, hj5, rfl, hG, hT⟩ := hr
    obtain ⟨v5, rfl⟩ := hT.ptr
    have G6 : Hid (Go1 c w w5 j5) := ⟨hG.1, G4.out.2.trans hG.2⟩
    have T5 := Lib.hid (hT.lower G4.out.2.size)
    have D5 := Lib.hid hD
    clear hD hG hT
    go_wp2_with fail
    refine (IHO.out j5 (by omega) _ G6.out.1).mono ?_; rintro e w7 ⟨r, hD, hr⟩
    rcases r with p | ⟨t7, R1⟩
    ·obtain ⟨rfl, hO⟩ := hr
     have HO := Lib.hid (G6.out.2.trans hO)
     have D7 := Lib.hid hD
     clear hD hO
     unfold sflt
     go_wp2_with fail
     exact bodyPost_panic rfl (post_err (show D c.E .forLoop (c.R k) (.error p) from D.mk2 D5.out D7.out fun m h0 h1 => by simp only [body, need, if_true, R_tail, bnd, Q1.out, Q3.out, h0, h1]) rfl HO.out)
    ·obtain ⟨j7, vv, rfl, hj7, rfl, hG, hT⟩ := hr
     obtain ⟨v7, rfl⟩ := hT.ptr
     have G8 : Hid (Go1 c w w7 j7) := ⟨hG.1, G6.out.2.trans hG.2⟩
     have T9 := Lib.hid (T5.out.off hG.2 hbl)
     have T7 := Lib.hid (hT.lower G6.out.2.size)
     have D7 := Lib.hid hD
     clear hD hG hT
     go_wp2_with fail
     refine (IHP.out j7 (by omega) _ G8.out.1).mono ?_; rintro e w10 ⟨r, hD, hr⟩
     rcases r with p | ⟨t10, R1⟩
     ·obtain ⟨rfl, hO⟩ := hr
      have HO := Lib.hid (G8.out.2.trans hO)
      have D10 := Lib.hid hD
      clear hD hO
      unfold sflt
      go_wp2_with fail
      exact bodyPost_panic rfl (post_err (show D c.E .forLoop (c.R k) (.error p) from D.mk3 D5.out D7.out D10.out fun m h0 h1 h2 => by simp only [body, need, if_true, R_tail, bnd, Q1.out, Q3.out, h0, h1, h2]) rfl HO.out)
     ·obtain ⟨j10, vv, rfl, hj10, rfl, hG, hT⟩ := hr
      obtain ⟨v10, rfl⟩ := hT.ptr
      have G11 : Hid (Go1 c w w10 j10) := ⟨hG.1, G8.out.2.trans hG.2⟩
      have T12 := Lib.hid (T9.out.off hG.2 hbl)
      have T13 := Lib.hid (T7.out.off hG.2 hbl)
      have T10 := Lib.hid (hT.lower G8.out.2.size)
      have D10 := Lib.hid hD
      clear hD hG hT
      go_wp2_with fail
      refine (IHS.out j10 (by omega) _ G11.out.1).mono ?_; rintro e w14 ⟨r, hD, hr⟩
      rcases r with p | ⟨t14, R1⟩
      ·obtain ⟨rfl, hO⟩ := hr
       have HO := Lib.hid (G11.out.2.trans hO)
       have D14 := Lib.hid hD
       clear hD hO
       unfold sflt
       go_wp2_with fail
       exact bodyPost_panic rfl (post_err (show D c.E .forLoop (c.R k) (.error p) from D.mk4 D5.out D7.out D10.out D14.out fun m h0 h1 h2 h3 => by simp only [body, need, if_true, R_tail, bnd, Q1.out, Q3.out, h0, h1, h2, h3]) rfl HO.out)
      ·obtain ⟨j14, vv, rfl, hj14, rfl, hG, hT⟩ := hr
       obtain ⟨v14, rfl⟩ := hT.ptr
       have G15 : Hid (Go1 c w w14 j14) := ⟨hG.1, G11.out.2.trans hG.2⟩
       have T16 := Lib.hid (T12.out.off hG.2 hbl)
       have T17 := Lib.hid (T13.out.off hG.2 hbl)
       have T18 := Lib.hid (T10.out.off hG.2 hbl)
       have T14 := Lib.hid (hT.lower G11.out.2.size)
       have D14 := Lib.hid hD
       clear hD hG hT
       go_wp2_with fail
       refine (newNode_any _ _ _ _ _ _).mono ?_; rintro e w19 hm
       obtain ⟨a19, rfl, hT, hB⟩ := node_kids (k := 10) (x := []) (vs := [(.pointer (some ⟨v5, 0, none⟩)), (.pointer (some ⟨v7, 0, none⟩)), (.pointer (some ⟨v10, 0, none⟩)), (.pointer (some ⟨v14, 0, none⟩))]) (kids := [t5, t7, t10, t14]) (IsTs.cons T16.out (IsTs.cons T17.out (IsTs.cons T18.out (IsTs.cons T14.out (IsTs.nil _ _))))) G15.out.2.size hm
       have G20 : Hid (Go1 c w w19 j14) := ⟨G15.out.1.below hB, G15.out.2.below hB⟩
       have T19 := Lib.hid hT
       clear hT hB hm
       go_wp2_with fail
       go_ret
       exact post_ok (show D c.E .forLoop (c.R k) (.ok ((nd 10 [] [t5, t7, t10, t14]), c.R j14)) from D.mk4 D5.out D7.out D10.out D14.out fun m h0 h1 h2 h3 => by simp only [body, need, if_true, R_tail, bnd, ret, Q1.out, Q3.out, h0, h1, h2, h3]) (by omega) rfl G20.out.1 G20.out.2 T19.out
theorem optional_any (c : Cx) (k : Nat) (stop : List UInt8) (hst : stop ≠ []) (ihe : Ok c .expr 161 #[c.p] k) : Ok c (.optional stop) 197 #[c.p, .string (bs stop)] k := by
 intro w h
 have hbl := h.lt
 have hfew := h.ok.few
 have G0 : Hid (Go1 c w w k) := ⟨h, Off.refl _ _⟩
 have IHE := Lib.hid ihe
 clear h ihe
 go_enter Tryz.func197, Tryz.ntmps197
 go_wp2_with fail
 cases hq : isF c.E stop (c.R k)
 ·refine (skip_no c k (bs stop) _ G0.out.1 hq).mono ?_; rintro e w1 ⟨rfl, hB⟩
  have G2 : Hid (Go1 c w w1 k) := ⟨G0.out.1.below hB, G0.out.2.below hB⟩
  have Q1 := Lib.hid hq
  clear hB hq
  go_wp2_with fail
  refine (IHE.out _ G2.out.1).mono ?_; rintro e w3 ⟨r, hD, hr⟩
  rcases r with p | ⟨t3, R1⟩
  ·obtain ⟨rfl, hO⟩ := hr
   have HO := Lib.hid (G2.out.2.trans hO)
   have D3 := Lib.hid hD
   clear hD hO
   unfold sflt
   go_wp2_with fail
   exact bodyPost_panic rfl (post_err (show D c.E (.optional stop) (c.R k) (.error p) from D.mk1 D3.out fun m h0 => by simp only [body, Bool.false_eq_true, if_false, bnd, Q1.out, h0]) rfl HO.out)
  ·obtain ⟨j3, vv, rfl, hj3, rfl, hG, hT⟩ := hr
   obtain ⟨v3, rfl⟩ := hT.ptr
   have G4 : Hid (Go1 c w w3 j3) := ⟨hG.1, G2.out.2.trans hG.2⟩
   have T3 := Lib.hid (hT.lower G2.out.2.size)
   have D3 := Lib.hid hD
   clear hD hG hT
   go_wp2_with fail
   cases hq : isF c.E stop (c.R j3)
   ·refine (need_no c j3 (bs stop) _ G4.out.1 hq).mono ?_; rintro e w5 ⟨rfl, hB⟩
    have HO := Lib.hid (G4.out.2.below hB)
    have Q5 := Lib.hid hq
    clear hB hq
    unfold sflt
    go_wp2_with fail
    exact bodyPost_panic rfl (post_err (show D c.E (.optional stop) (c.R k) (.error (c.T j3).pos) from D.mk1 D3.out fun m h0 => by simp only [body, Bool.false_eq_true, if_false, bnd, need, bad, R_hd, Q1.out, Q5.out, h0]) rfl HO.out)
   ·refine (need_yes c j3 (bs stop) hst _ G4.out.1 hq).mono ?_; rintro e w5 ⟨rfl, hG⟩
    have G6 : Hid (Go1 c w w5 (j3 + 1)) := ⟨hG.1, G4.out.2.trans hG.2⟩
    have T7 := Lib.hid (T3.out.off hG.2 hbl)
    have Q5 := Lib.hid hq
    clear hG hq
    go_wp2_with fail
    go_ret
    exact post_ok (show D c.E (.optional stop) (c.R k) (.ok (t3, c.R (j3 + 1))) from D.mk1 D3.out fun m h0 => by simp only [body, Bool.false_eq_true, if_false, bnd, need, if_true, R_tail, ret, Q1.out, Q5.out, h0]) (by omega) rfl G6.out.1 G6.out.2 T7.out
 ·refine (skip_yes c k (bs stop) hst _ G0.out.1 hq).mono ?_; rintro e w1 ⟨rfl, hG⟩
  have G8 : Hid (Go1 c w w1 (k + 1)) := ⟨hG.1, G0.out.2.trans hG.2⟩
  have Q1 := Lib.hid hq
  clear hG hq
  go_wp2_with fail
  refine (newNode_any _ _ _ _ _ _).mono ?_; rintro e w9 hm
  obtain ⟨a9, rfl, hT, hB⟩ := node_none (k := 5) (x := []) G8.out.2.size hm
  have G10 : Hid (Go1 c w w9 (k + 1)) := ⟨G8.out.1.below hB, G8.out.2.below hB⟩
  have T9 := Lib.hid hT
  clear hT hB hm
  go_wp2_with fail
  go_ret
  exact post_ok (show D c.E (.optional stop) (c.R k) (.ok ((nd 5 [] []), c.R (k + 1))) from D.mk0 fun m => by simp only [body, if_true, R_tail, ret, Q1.out]) (by omega) rfl G10.out.1 G10.out.2 T9.out
end Go.Proofs.YtnkfodelgpidkaaGreatDoor
