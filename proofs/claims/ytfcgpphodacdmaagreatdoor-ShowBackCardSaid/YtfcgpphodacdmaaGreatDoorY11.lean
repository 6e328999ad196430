/- Part of a proof: contracts of functions. -/
import Derived.Test.YtfcgpphodacdmaaGreatDoorY6
import Derived.Test.YtfcgpphodacdmaaGreatDoorY2
import Derived.Test.YtfcgpphodacdmaaGreatDoorY7
import Derived.Test.YtfcgpphodacdmaaGreatDoorY8
import Derived.Test.YtfcgpphodacdmaaGreatDoorY9
import Derived.Test.YtfcgpphodacdmaaGreatDoorY10
set_option maxRecDepth 100000
set_option maxHeartbeats 4000000
set_option linter.all false
namespace Go.Proofs.YtfcgpphodacdmaaGreatDoor
section
inductive Tr where
 | node (kind : Int) (text : List UInt8) (bits : Int) (kids : List Tr)
def Tr.kind : Tr → Int | .node k _ _ _ => k
def Tr.text : Tr → List UInt8 | .node _ x _ _ => x
def Tr.bits : Tr → Int | .node _ _ b _ => b
def Tr.kids : Tr → List Tr | .node _ _ _ l => l
abbrev nd (kind : Int) (text : List UInt8) (kids : List Tr) : Tr := .node kind text 0 kids
abbrev bag (l : List Tr) : Tr := .node 0 [] 0 l
def fx (t : Tk) : List UInt8 := if t.kind = 2 ∨ t.kind = 5 then t.text else []
def hd (E : Int) (R : List Tk) : Tk := R.headD ⟨0, E, [], 0⟩
def isF (E : Int) (s : List UInt8) (R : List Tk) : Bool := fx (hd E R) == s
def yT (t : Tr) : Bool := t.kind == 27 || t.kind == 32 || t.kind == 33
def yg : List (List UInt8) := [[100, 101, 108, 101, 116, 101], [118, 111, 105, 100], [116, 121, 112, 101, 111, 102], [43], [45], [126], [33]]
def yG : List (List UInt8) := [[43, 43], [45, 45]]
def xy : List (List UInt8) := [[61], [43, 61], [45, 61], [42, 61], [47, 61], [37, 61], [38, 61], [124, 61], [94, 61], [60, 60, 61], [62, 62, 61], [62, 62, 62, 61]]
def q6 : List (List UInt8 × Int) := [([124, 124], 1), ([38, 38], 2), ([124], 3), ([94], 4), ([38], 5), ([61, 61, 61], 6), ([33, 61, 61], 6), ([60], 7), ([62], 7), ([60, 61], 7), ([62, 61], 7), ([105, 110, 115, 116, 97, 110, 99, 101, 111, 102], 7), ([105, 110], 7), ([60, 60], 8), ([62, 62], 8), ([62, 62, 62], 8), ([43], 9), ([45], 9), ([42], 10), ([47], 10), ([37], 10)]
def yj (s : List UInt8) : Int := (q6.lookup s).getD 0
inductive NT where
 | element | statement | block | vars | decl | ifElse | whileDo | doWhile | forLoop | forStart | giveBack | throwIt | tryIt | catchIt
 | expr | assign | cond | unary | postfx | member | primaryOrNew | newObject | maker | primary | fixedPrimary | bracketed | prop | param | program
 | function (kind : Int) (name : List UInt8) | optional (stop : List UInt8) | leave (kind : Int)
 | exprMore (x : Tr) | binary (least : Int) | binMore (least : Int) (x : Tr) | memMore (x : Tr) | makMore (x : Tr) | part (x : Tr) | called (x : Tr)
 | untl (stop : List UInt8) (it : NT) | row (it : NT) | rowMore (it : NT) | list (stop : List UInt8) (it : NT)
abbrev Rs := Option (Except Int (Tr × List Tk))
def bnd (x : Rs) (k : Tr → List Tk → Rs) : Rs := match x with
 | none => none
 | some (.error e) => some (.error e)
 | some (.ok (t, R)) => k t R
def ret (t : Tr) (R : List Tk) : Rs := some (.ok (t, R))
def bad (E : Int) (R : List Tk) : Rs := some (.error (hd E R).pos)
section
variable (E : Int) (rec : NT → List Tk → Rs)
def need (s : List UInt8) (R : List Tk) (k : List Tk → Rs) : Rs := if isF E s R then k R.tail else bad E R
def nameK (R : List Tk) (k : List UInt8 → List Tk → Rs) : Rs := if (hd E R).kind = 1 then k (hd E R).text R.tail else bad E R
def keyK (R : List Tk) (k : List UInt8 → List Tk → Rs) : Rs := if (hd E R).kind = 1 ∨ (hd E R).kind = 2 then k (hd E R).text R.tail else bad E R
def propK (R : List Tk) (k : List UInt8 → List Tk → Rs) : Rs :=
 if (hd E R).kind = 4 then k (hd E R).text R.tail else if (hd E R).kind = 3 then k (Bt.textI (hd E R).bits).data.toList R.tail else keyK E R k
def zg : NT → List Tk → Rs
 | .element, R => if isF E [102, 117, 110, 99, 116, 105, 111, 110] R then nameK E R.tail fun x R1 => rec (.function 18 x) R1 else rec .statement R
 | .function kind name, R => need E [40] R fun R1 => bnd (rec (.list [41] .param) R1) fun ps R2 => need E [123] R2 fun R3 => bnd (rec (.untl [125] .element) R3) fun bd R4 => ret (nd kind name (ps.kids ++ [nd 20 [] bd.kids])) R4
 | .param, R => nameK E R fun x R1 => ret (nd 19 x []) R1
 | .list stop it, R => if isF E stop R then ret (bag []) R.tail else bnd (rec (.row it) R) fun l R1 => need E stop R1 fun R2 => ret (bag l.kids) R2
 | .row it, R => bnd (rec it R) fun x R1 => bnd (rec (.rowMore it) R1) fun l R2 => ret (bag (x :: l.kids)) R2
 | .rowMore it, R => if isF E [44] R then bnd (rec it R.tail) fun x R1 => bnd (rec (.rowMore it) R1) fun l R2 => ret (bag (x :: l.kids)) R2 else ret (bag []) R
 | .untl stop it, R => if isF E stop R then ret (bag []) R.tail else bnd (rec it R) fun x R1 => bnd (rec (.untl stop it) R1) fun l R2 => ret (bag (x :: l.kids)) R2
 | .program, R => match R with
  | [] => ret (bag []) []
  | t :: q => bnd (rec .element (t :: q)) fun x R1 => bnd (rec .program R1) fun l R2 => ret (bag (x :: l.kids)) R2
 | .statement, R => if isF E [123] R then rec .block R else if isF E [118, 97, 114] R then bnd (rec .vars R) (fun x R1 => need E [59] R1 fun R2 => ret x R2) else if isF E [59] R then need E [59] R (fun R1 => ret (nd 5 [] []) R1) else if isF E [105, 102] R then rec .ifElse R else if isF E [119, 104, 105, 108, 101] R then rec .whileDo R else if isF E [100, 111] R then rec .doWhile R else if isF E [102, 111, 114] R then rec .forLoop R else if isF E [98, 114, 101, 97, 107] R then rec (.leave 11) R else if isF E [99, 111, 110, 116, 105, 110, 117, 101] R then rec (.leave 12) R else if isF E [114, 101, 116, 117, 114, 110] R then rec .giveBack R else if isF E [116, 104, 114, 111, 119] R then rec .throwIt R else if isF E [116, 114, 121] R then rec .tryIt R else if isF E [102, 117, 110, 99, 116, 105, 111, 110] R then bad E R else bnd (rec .expr R) fun x R1 => need E [59] R1 fun R2 => ret (nd 6 [] [x]) R2
 | .block, R => need E [123] R fun R1 => bnd (rec (.untl [125] .statement) R1) fun l R2 => ret (nd 2 [] l.kids) R2
 | .vars, R => need E [118, 97, 114] R fun R1 => bnd (rec (.row .decl) R1) fun l R2 => ret (nd 3 [] l.kids) R2
 | .decl, R => nameK E R fun x R1 => if isF E [61] R1 then bnd (rec .assign R1.tail) (fun y R2 => ret (nd 4 x [y]) R2) else ret (nd 4 x []) R1
 | .ifElse, R => need E [105, 102] R fun R1 => bnd (rec .bracketed R1) fun x R2 => bnd (rec .statement R2) fun y R3 => if isF E [101, 108, 115, 101] R3 then bnd (rec .statement R3.tail) (fun z R4 => ret (nd 7 [] [x, y, z]) R4) else ret (nd 7 [] [x, y]) R3
 | .whileDo, R => need E [119, 104, 105, 108, 101] R fun R1 => bnd (rec .bracketed R1) fun x R2 => bnd (rec .statement R2) fun y R3 => ret (nd 8 [] [x, y]) R3
 | .doWhile, R => need E [100, 111] R fun R1 => bnd (rec .statement R1) fun x R2 => need E [119, 104, 105, 108, 101] R2 fun R3 => bnd (rec .bracketed R3) fun y R4 => need E [59] R4 fun R5 => ret (nd 9 [] [x, y]) R5
 | .forLoop, R => need E [102, 111, 114] R fun R1 => need E [40] R1 fun R2 => bnd (rec .forStart R2) fun x R3 => bnd (rec (.optional [59]) R3) fun y R4 => bnd (rec (.optional [41]) R4) fun z R5 => bnd (rec .statement R5) fun s R6 => ret (nd 10 [] [x, y, z, s]) R6
 | .forStart, R => if isF E [118, 97, 114] R then bnd (rec .vars R) (fun x R1 => need E [59] R1 fun R2 => ret x R2) else if isF E [59] R then need E [59] R (fun R1 => ret (nd 5 [] []) R1) else bnd (rec .expr R) fun x R1 => need E [59] R1 fun R2 => ret (nd 6 [] [x]) R2
 | .optional stop, R => if isF E stop R then ret (nd 5 [] []) R.tail else bnd (rec .expr R) fun x R1 => need E stop R1 fun R2 => ret x R2
 | .leave kind, R => need E [59] R.tail fun R1 => ret (nd kind [] []) R1
 | .giveBack, R => need E [114, 101, 116, 117, 114, 110] R fun R1 => if isF E [59] R1 then need E [59] R1 (fun R2 => ret (nd 13 [] []) R2) else bnd (rec .expr R1) fun x R2 => need E [59] R2 fun R3 => ret (nd 13 [] [x]) R3
 | .throwIt, R => need E [116, 104, 114, 111, 119] R fun R1 => bnd (rec .expr R1) fun x R2 => need E [59] R2 fun R3 => ret (nd 14 [] [x]) R3
 | .tryIt, R => need E [116, 114, 121] R fun R1 => bnd (rec .block R1) fun x R2 => if isF E [99, 97, 116, 99, 104] R2 then bnd (rec .catchIt R2) (fun y R3 => if isF E [102, 105, 110, 97, 108, 108, 121] R3 then bnd (rec .block R3.tail) (fun z R4 => ret (nd 15 [] [x, y, nd 17 [] [z]]) R4) else ret (nd 15 [] [x, y]) R3) else if isF E [102, 105, 110, 97, 108, 108, 121] R2 then bnd (rec .block R2.tail) (fun z R4 => ret (nd 15 [] [x, nd 17 [] [z]]) R4) else bad E R2
 | .catchIt, R => need E [99, 97, 116, 99, 104] R fun R1 => need E [40] R1 fun R2 => nameK E R2 fun x R3 => need E [41] R3 fun R4 => bnd (rec .block R4) fun y R5 => ret (nd 16 x [y]) R5
 | .expr, R => bnd (rec .assign R) fun x R1 => rec (.exprMore x) R1
 | .exprMore x, R => if isF E [44] R then bnd (rec .assign R.tail) (fun y R1 => rec (.exprMore (nd 42 [] [x, y])) R1) else ret x R
 | .assign, R => bnd (rec .cond R) fun x R1 => if xy.contains (fx (hd E R1)) then (if yT x then bnd (rec .assign R1.tail) (fun y R2 => ret (nd 41 (hd E R1).text [x, y]) R2) else bad E R1) else ret x R1
 | .cond, R => bnd (rec (.binary 1) R) fun x R1 => if isF E [63] R1 then bnd (rec .assign R1.tail) (fun y R2 => need E [58] R2 fun R3 => bnd (rec .assign R3) fun z R4 => ret (nd 40 [] [x, y, z]) R4) else ret x R1
 | .binary least, R => bnd (rec .unary R) fun x R1 => rec (.binMore least x) R1
 | .binMore least x, R => if yj (fx (hd E R)) < least then ret x R else bnd (rec (.binary (yj (fx (hd E R)) + 1)) R.tail) fun y R1 => rec (.binMore least (nd (if yj (fx (hd E R)) ≤ 2 then 39 else 38) (fx (hd E R)) [x, y])) R1
 | .unary, R => if yg.contains (fx (hd E R)) then bnd (rec .unary R.tail) (fun x R1 => ret (nd 36 (hd E R).text [x]) R1) else if yG.contains (fx (hd E R)) then bnd (rec .unary R.tail) (fun x R1 => if yT x then ret (nd 37 (hd E R).text [x]) R1 else bad E R) else rec .postfx R
 | .postfx, R => bnd (rec .member R) fun x R1 => if yG.contains (fx (hd E R1)) then (if yT x then ret (.node 37 (hd E R1).text 1 [x]) R1.tail else bad E R1) else ret x R1
 | .member, R => bnd (rec .primaryOrNew R) fun x R1 => rec (.memMore x) R1
 | .memMore x, R => if isF E [46] R then bnd (rec (.part x) R) (fun y R1 => rec (.memMore y) R1) else if isF E [91] R then bnd (rec (.part x) R) (fun y R1 => rec (.memMore y) R1) else if isF E [40] R then bnd (rec (.called x) R) (fun l R1 => rec (.memMore (nd 34 [] l.kids)) R1) else ret x R
 | .primaryOrNew, R => if isF E [110, 101, 119] R then rec .newObject R else rec .primary R
 | .newObject, R => need E [110, 101, 119] R fun R1 => bnd (rec .maker R1) fun x R2 => if isF E [40] R2 then bnd (rec (.called x) R2) (fun l R3 => ret (nd 35 [] l.kids) R3) else ret (nd 35 [] [x]) R2
 | .maker, R => if isF E [110, 101, 119] R then rec .newObject R else bnd (rec .primary R) fun x R1 => rec (.makMore x) R1
 | .makMore x, R => if isF E [46] R then bnd (rec (.part x) R) (fun y R1 => rec (.makMore y) R1) else if isF E [91] R then bnd (rec (.part x) R) (fun y R1 => rec (.makMore y) R1) else ret x R
 | .part x, R => if isF E [46] R then keyK E R.tail (fun y R1 => ret (nd 32 y [x]) R1) else need E [91] R fun R1 => bnd (rec .expr R1) fun y R2 => need E [93] R2 fun R3 => ret (nd 33 [] [x, y]) R3
 | .called x, R => need E [40] R fun R1 => bnd (rec (.list [41] .assign) R1) fun l R2 => ret (bag (x :: l.kids)) R2
 | .bracketed, R => need E [40] R fun R1 => bnd (rec .expr R1) fun x R2 => need E [41] R2 fun R3 => ret x R3
 | .primary, R => if (hd E R).kind = 1 then ret (.node 27 (hd E R).text (hd E R).bits []) R.tail else if (hd E R).kind = 3 then ret (.node 21 (hd E R).text (hd E R).bits []) R.tail else if (hd E R).kind = 4 then ret (.node 22 (hd E R).text (hd E R).bits []) R.tail else rec .fixedPrimary R
 | .fixedPrimary, R => if isF E [116, 104, 105, 115] R then ret (nd 26 [] []) R.tail else if isF E [110, 117, 108, 108] R then ret (nd 25 [] []) R.tail else if isF E [116, 114, 117, 101] R then ret (nd 23 [] []) R.tail else if isF E [102, 97, 108, 115, 101] R then ret (nd 24 [] []) R.tail else if isF E [40] R then rec .bracketed R else if isF E [91] R then bnd (rec (.list [93] .assign) R.tail) (fun l R1 => ret (nd 28 [] l.kids) R1) else if isF E [123] R then bnd (rec (.list [125] .prop) R.tail) (fun l R1 => ret (nd 29 [] l.kids) R1) else if isF E [102, 117, 110, 99, 116, 105, 111, 110] R then (if isF E [40] R.tail then rec (.function 31 []) R.tail else nameK E R.tail fun x R1 => rec (.function 31 x) R1) else bad E R
 | .prop, R => propK E R fun x R1 => need E [58] R1 fun R2 => bnd (rec .assign R2) fun y R3 => ret (nd 30 x [y]) R3
end
def Q (E : Int) : Nat → NT → List Tk → Rs
 | 0 => fun _ _ => none
 | n + 1 => zg E (Q E n)
def Le (x y : Rs) : Prop := ∀ r, x = some r → y = some r
theorem Le.refl (x : Rs) : Le x x := fun _ h => h
theorem Le.bnd {x y : Rs} {k l : Tr → List Tk → Rs} (h : Le x y) (hk : ∀ t R, Le (k t R) (l t R)) : Le (bnd x k) (bnd y l) := by
 intro r hr;unfold Go.Proofs.YtfcgpphodacdmaaGreatDoor.bnd at hr ⊢;cases x with
 | none => cases hr
 | some z => rw [h z rfl]; rcases z with e | ⟨t, R⟩; exact hr; exact hk t R r hr
theorem Le.need {E : Int} {s : List UInt8} {R : List Tk} {k l : List Tk → Rs} (hk : ∀ R, Le (k R) (l R)) : Le (need E s R k) (need E s R l) := by
 unfold Go.Proofs.YtfcgpphodacdmaaGreatDoor.need; split; exact hk _; exact Le.refl _
theorem Le.nameK {E : Int} {R : List Tk} {k l : List UInt8 → List Tk → Rs} (hk : ∀ x R, Le (k x R) (l x R)) : Le (nameK E R k) (nameK E R l) := by
 unfold Go.Proofs.YtfcgpphodacdmaaGreatDoor.nameK; split; exact hk _ _; exact Le.refl _
theorem Le.keyK {E : Int} {R : List Tk} {k l : List UInt8 → List Tk → Rs} (hk : ∀ x R, Le (k x R) (l x R)) : Le (keyK E R k) (keyK E R l) := by
 unfold Go.Proofs.YtfcgpphodacdmaaGreatDoor.keyK; split; exact hk _ _; exact Le.refl _
theorem Le.propK {E : Int} {R : List Tk} {k l : List UInt8 → List Tk → Rs} (hk : ∀ x R, Le (k x R) (l x R)) : Le (propK E R k) (propK E R l) := by
 unfold Go.Proofs.YtfcgpphodacdmaaGreatDoor.propK; split; exact hk _ _; split; exact hk _ _; exact Le.keyK hk
theorem Le.ite {c : Prop} [Decidable c] {a b x y : Rs} (h : Le a b) (g : Le x y) : Le (if c then a else x) (if c then b else y) := by
 split; exact h; exact g
theorem zhl {E : Int} {f g : NT → List Tk → Rs} (h : ∀ nt R, Le (f nt R) (g nt R)) (nt : NT) (R : List Tk) : Le (zg E f nt R) (zg E g nt R) := by
 cases nt <;> simp only [zg] <;> repeat' (first | exact Le.refl _ | exact h _ _ | refine Le.bnd ?_ fun _ _ => ?_ | refine Le.need fun _ => ?_ | refine Le.nameK fun _ _ => ?_ | refine Le.keyK fun _ _ => ?_ | refine Le.propK fun _ _ => ?_ | refine Le.ite ?_ ?_ | split)
theorem zhm (E : Int) : ∀ (n : Nat) (nt : NT) (R : List Tk), Le (Q E n nt R) (Q E (n + 1) nt R)
 | 0, _, _ => fun _ h => by cases h
 | n + 1, nt, R => zhl (zhm E n) nt R
theorem zmA {E : Int} {nt : NT} {R : List Tk} {r : Except Int (Tr × List Tk)} {n : Nat} (h : Q E n nt R = some r) : ∀ m, n ≤ m → Q E m nt R = some r := by
 intro m hm;obtain ⟨k, rfl⟩ : ∃ k, m = n + k := ⟨m - n, by omega⟩;clear hm
 induction k with
 | zero => exact h
 | succ k ih => exact zhm E (n + k) nt R r ih
def D (E : Int) (nt : NT) (R : List Tk) (r : Except Int (Tr × List Tk)) : Prop := ∃ n, ∀ m, n ≤ m → Q E m nt R = some r
theorem D.of {E : Int} {nt : NT} {R : List Tk} {r : Except Int (Tr × List Tk)} {n : Nat} (h : Q E n nt R = some r) : D E nt R r := ⟨n, zmA h⟩
theorem D.det {E : Int} {nt : NT} {R : List Tk} {r r' : Except Int (Tr × List Tk)} (h : D E nt R r) (h' : D E nt R r') : r = r' := by
 obtain ⟨n, h⟩ := h;obtain ⟨m, h'⟩ := h';have h1 := h (n + m) (by omega);rw [h' (n + m) (by omega)] at h1;injection h1 with h1; exact h1.symm
theorem D.mk0 {E : Int} {nt : NT} {R : List Tk} {r : Except Int (Tr × List Tk)} (h : ∀ m, zg E (Q E m) nt R = some r) : D E nt R r := ⟨1, fun m hm => by
  obtain ⟨k, rfl⟩ : ∃ k, m = k + 1 := ⟨m - 1, by omega⟩;exact h k⟩
theorem D.mk1 {E : Int} {nt a : NT} {R A : List Tk} {r ra : Except Int (Tr × List Tk)} (ha : D E a A ra) (h : ∀ m, Q E m a A = some ra → zg E (Q E m) nt R = some r) : D E nt R r := by
 obtain ⟨n, ha⟩ := ha;refine ⟨n + 1, fun m hm => ?_⟩;obtain ⟨k, rfl⟩ : ∃ k, m = k + 1 := ⟨m - 1, by omega⟩;exact h k (ha k (by omega))
theorem D.mk2 {E : Int} {nt a b : NT} {R A B : List Tk} {r ra rb : Except Int (Tr × List Tk)} (ha : D E a A ra) (hb : D E b B rb) (h : ∀ m, Q E m a A = some ra → Q E m b B = some rb → zg E (Q E m) nt R = some r) : D E nt R r := by
 obtain ⟨n, ha⟩ := ha;obtain ⟨i, hb⟩ := hb;refine ⟨n + i + 1, fun m hm => ?_⟩;obtain ⟨k, rfl⟩ : ∃ k, m = k + 1 := ⟨m - 1, by omega⟩;exact h k (ha k (by omega)) (hb k (by omega))
theorem D.mk3 {E : Int} {nt a b c : NT} {R A B C : List Tk} {r ra rb rc : Except Int (Tr × List Tk)} (ha : D E a A ra) (hb : D E b B rb) (hc : D E c C rc) (h : ∀ m, Q E m a A = some ra → Q E m b B = some rb → Q E m c C = some rc → zg E (Q E m) nt R = some r) : D E nt R r := by
 obtain ⟨n, ha⟩ := ha;obtain ⟨i, hb⟩ := hb;obtain ⟨j, hc⟩ := hc;refine ⟨n + i + j + 1, fun m hm => ?_⟩;obtain ⟨k, rfl⟩ : ∃ k, m = k + 1 := ⟨m - 1, by omega⟩;exact h k (ha k (by omega)) (hb k (by omega)) (hc k (by omega))
theorem D.mk4 {E : Int} {nt a b c d : NT} {R A B C F : List Tk} {r ra rb rc rd : Except Int (Tr × List Tk)} (ha : D E a A ra) (hb : D E b B rb) (hc : D E c C rc) (hd : D E d F rd) (h : ∀ m, Q E m a A = some ra → Q E m b B = some rb → Q E m c C = some rc → Q E m d F = some rd → zg E (Q E m) nt R = some r) : D E nt R r := by
 obtain ⟨n, ha⟩ := ha;obtain ⟨i, hb⟩ := hb;obtain ⟨j, hc⟩ := hc;obtain ⟨l, hd⟩ := hd;refine ⟨n + i + j + l + 1, fun m hm => ?_⟩;obtain ⟨k, rfl⟩ : ∃ k, m = k + 1 := ⟨m - 1, by omega⟩;exact h k (ha k (by omega)) (hb k (by omega)) (hc k (by omega)) (hd k (by omega))
end
end Go.Proofs.YtfcgpphodacdmaaGreatDoor
namespace Go.Proofs.YtfcgpphodacdmaaGreatDoor
open Go.RowKit
theorem zp8 (k : Int) (hk : ¬ k ∈ ([1, 20, 2, 3, 7, 8, 9, 10, 4, 13, 6, 14, 15, 16, 17, 18, 31, 5, 11, 12, 19] : List Int)) (w : World) (v : Value) (L : List Int) (h : IRo w v L) (hl : L.length ≤ 1000000) (hL : Rng L) :
  Calls Tryz.prog 64 #[.int .i64 k, v] w (zM w (zP k L)) := by
 have e : zP k L = yD k L := by
  simp only [List.mem_cons, List.not_mem_nil, or_false, not_or] at hk;unfold zP
  repeat rw [if_neg (by omega)]
 rw [e];have MO := za (zcb k w v L h hl hL);obtain ⟨ao, cp, rfl⟩ := h.slice;have e1 : (k == 1) = false := beq_eq_false_iff_ne.2 fun e => hk (by subst e; decide)
 have e20 : (k == 20) = false := beq_eq_false_iff_ne.2 fun e => hk (by subst e; decide)
 have e2 : (k == 2) = false := beq_eq_false_iff_ne.2 fun e => hk (by subst e; decide)
 have e3 : (k == 3) = false := beq_eq_false_iff_ne.2 fun e => hk (by subst e; decide)
 have e7 : (k == 7) = false := beq_eq_false_iff_ne.2 fun e => hk (by subst e; decide)
 have e8 : (k == 8) = false := beq_eq_false_iff_ne.2 fun e => hk (by subst e; decide)
 have e9 : (k == 9) = false := beq_eq_false_iff_ne.2 fun e => hk (by subst e; decide)
 have e10 : (k == 10) = false := beq_eq_false_iff_ne.2 fun e => hk (by subst e; decide)
 have e4 : (k == 4) = false := beq_eq_false_iff_ne.2 fun e => hk (by subst e; decide)
 have e13 : (k == 13) = false := beq_eq_false_iff_ne.2 fun e => hk (by subst e; decide)
 have e6 : (k == 6) = false := beq_eq_false_iff_ne.2 fun e => hk (by subst e; decide)
 have e14 : (k == 14) = false := beq_eq_false_iff_ne.2 fun e => hk (by subst e; decide)
 have e15 : (k == 15) = false := beq_eq_false_iff_ne.2 fun e => hk (by subst e; decide)
 have e16 : (k == 16) = false := beq_eq_false_iff_ne.2 fun e => hk (by subst e; decide)
 have e17 : (k == 17) = false := beq_eq_false_iff_ne.2 fun e => hk (by subst e; decide)
 have e18 : (k == 18) = false := beq_eq_false_iff_ne.2 fun e => hk (by subst e; decide)
 have e31 : (k == 31) = false := beq_eq_false_iff_ne.2 fun e => hk (by subst e; decide)
 have e5 : (k == 5) = false := beq_eq_false_iff_ne.2 fun e => hk (by subst e; decide)
 have e11 : (k == 11) = false := beq_eq_false_iff_ne.2 fun e => hk (by subst e; decide)
 have e12 : (k == 12) = false := beq_eq_false_iff_ne.2 fun e => hk (by subst e; decide)
 have e19 : (k == 19) = false := beq_eq_false_iff_ne.2 fun e => hk (by subst e; decide)
 clear h hk e hL;generalize yD k L = b at *
 go_enter Tryz.func64, Tryz.ntmps64
 go_wp2_with fail;refine MO.out.mono ?_;rintro e w1 ⟨rfl, hB⟩;have HB := za hB;clear hB;go_wp2_with fail;go_ret;exact ⟨rfl, HB.out⟩
theorem ze9 (k : Int) (w : World) (v : Value) (L : List Int) (h : IRo w v L) (hl : L.length ≤ 1000000) (hL : Rng L) :
  Calls Tryz.prog 64 #[.int .i64 k, v] w (zM w (zP k L)) := by
 by_cases hk : k ∈ ([1, 20, 2, 3, 7, 8, 9, 10, 4, 13, 6, 14, 15, 16, 17, 18, 31, 5, 11, 12, 19] : List Int)
 ·simp only [List.mem_cons, List.not_mem_nil, or_false] at hk;rcases hk with rfl | rfl | rfl | rfl | rfl | rfl | rfl | rfl | rfl | rfl | rfl | rfl | rfl | rfl | rfl | rfl | rfl | rfl | rfl | rfl | rfl
  ·exact zq6 w v L h hl hL
  ·exact zo6 w v L h hl hL
  ·exact zq7 w v L h hl hL
  ·exact zq8 w v L h hl hL
  ·exact zq9 w v L h hl hL
  ·exact zrk w v L h hl hL
  ·exact zrl w v L h hl hL
  ·exact zpT w v L h hl hL
  ·exact zrm w v L h hl hL
  ·exact zpU w v L h hl hL
  ·exact zrr w v L h hl hL
  ·exact zqb w v L h hl hL
  ·exact zqe w v L h hl hL
  ·exact zqc w v L h hl hL
  ·exact zqd w v L h hl hL
  ·exact zn9 w v L h hl hL
  ·exact zoa w v L h hl hL
  ·exact zql w v L h hl hL
  ·exact zob w v L h hl hL
  ·exact zoc w v L h hl hL
  ·exact zod w v L h hl hL
 ·exact zp8 k hk w v L h hl hL
end Go.Proofs.YtfcgpphodacdmaaGreatDoor
