/- Plain words for tokens: what stands at the front of a list of bytes; no program in sight. -/
import Derived.Test.YtcpjggcpimghjaaUPlain
import Derived.Test.YtcpjggcpimghjaaBPlain
namespace Go.Proofs.Ytcpjggcpimghjaa
open Go.RowKit
set_option linter.unusedVariables false

/- Bytes. -/
def letB (c : Int) : Bool := decide ((97 ≤ c ∧ c ≤ 122) ∨ (65 ≤ c ∧ c ≤ 90) ∨ c = 95 ∨ c = 36)
def digB (c : Int) : Bool := decide (48 ≤ c ∧ c ≤ 57)
def npB (c : Int) : Bool := decide ((97 ≤ c ∧ c ≤ 122) ∨ (65 ≤ c ∧ c ≤ 90) ∨ c = 95 ∨ c = 36 ∨ (48 ≤ c ∧ c ≤ 57))
def hexI (c : Int) : Int := if 48 ≤ c ∧ c ≤ 57 then c - 48 else if 97 ≤ c ∧ c ≤ 102 then c - 87 else if 65 ≤ c ∧ c ≤ 70 then c - 55 else 16
def valI (c : Int) : Int := if hexI c = 16 then -1 else hexI c
theorem hexI_range (c : Int) : 0 ≤ hexI c ∧ hexI c ≤ 16 := by unfold hexI; (repeat' split) <;> omega
def ci (c : UInt8) : Int := (c.toNat : Int)
theorem ci_lo (c : UInt8) : 0 ≤ ci c := Int.natCast_nonneg _
theorem ci_hi (c : UInt8) : ci c < 256 := by unfold ci; have := c.toNat_lt; omega
theorem ci_inj {c d : UInt8} (h : ci c = ci d) : c = d := by unfold ci at h; exact UInt8.toNat_inj.1 (by omega)

/-- A list's bytes as a text. -/
def bs (l : List UInt8) : ByteArray := ⟨l.toArray⟩
theorem bs_list (l : List UInt8) : (bs l).data.toList = l := rfl
theorem bs_eq {s : ByteArray} {l : List UInt8} (h : s.data.toList = l) : s = bs l := by
  subst h; unfold bs; rfl
theorem bs_size (l : List UInt8) : (bs l).size = l.length := by unfold bs; simp [ByteArray.size]
theorem bs_inj {l m : List UInt8} (h : bs l = bs m) : l = m := by rw [← bs_list l, h, bs_list]

/- Names and words. -/
def nmL : List UInt8 → Nat
  | [] => 0
  | c :: r => if npB (ci c) then nmL r + 1 else 0
theorem nmL_le : ∀ R : List UInt8, nmL R ≤ R.length
  | [] => Nat.le_refl _
  | c :: r => by unfold nmL; have := nmL_le r; split <;> simp <;> omega
def nameN (R : List UInt8) : Nat := match R with | [] => 0 | c :: _ => if letB (ci c) then nmL R else 0
def words : List (List UInt8) := [[98, 114, 101, 97, 107], [99, 97, 115, 101], [99, 97, 116, 99, 104], [99, 108, 97, 115, 115], [99, 111, 110, 115, 116], [99, 111, 110, 116, 105, 110, 117, 101], [100, 101, 98, 117, 103, 103, 101, 114], [100, 101, 102, 97, 117, 108, 116], [100, 101, 108, 101, 116, 101], [100, 111], [101, 108, 115, 101], [101, 110, 117, 109], [101, 120, 112, 111, 114, 116], [101, 120, 116, 101, 110, 100, 115], [102, 97, 108, 115, 101], [102, 105, 110, 97, 108, 108, 121], [102, 111, 114], [102, 117, 110, 99, 116, 105, 111, 110], [105, 102], [105, 109, 112, 108, 101, 109, 101, 110, 116, 115], [105, 109, 112, 111, 114, 116], [105, 110], [105, 110, 115, 116, 97, 110, 99, 101, 111, 102], [105, 110, 116, 101, 114, 102, 97, 99, 101], [108, 101, 116], [110, 101, 119], [110, 117, 108, 108], [112, 97, 99, 107, 97, 103, 101], [112, 114, 105, 118, 97, 116, 101], [112, 114, 111, 116, 101, 99, 116, 101, 100], [112, 117, 98, 108, 105, 99], [114, 101, 116, 117, 114, 110], [115, 116, 97, 116, 105, 99], [115, 117, 112, 101, 114], [115, 119, 105, 116, 99, 104], [116, 104, 105, 115], [116, 104, 114, 111, 119], [116, 114, 117, 101], [116, 114, 121], [116, 121, 112, 101, 111, 102], [118, 97, 114], [118, 111, 105, 100], [119, 104, 105, 108, 101], [119, 105, 116, 104], [121, 105, 101, 108, 100]]
def wordB (P : List UInt8) : Bool := words.contains P
def nameB (P : List UInt8) : Bool := !P.isEmpty && nameN P == P.length && !wordB P

/- Numbers. -/
def digs (base : Int) : List UInt8 → Int → Option Int
  | [], n => some n
  | c :: r, n => if base ≤ hexI (ci c) then none else if 9007199254740992 < n * base + hexI (ci c) then none else digs base r (n * base + hexI (ci c))
def numO (P : List UInt8) : Option Int :=
  if P = [48] then some 0
  else if P.take 2 = [48, 120] ∨ P.take 2 = [48, 88] then (if P.drop 2 = [] then none else digs 16 (P.drop 2) 0)
  else if P.head? = some 48 then none
  else digs 10 P 0

/- Texts. -/
def hexN : Nat → List UInt8 → Int → Option Int
  | 0, _, n => some n
  | _ + 1, [], _ => none
  | i + 1, c :: r, n => if hexI (ci c) = 16 then none else hexN i r (n * 16 + hexI (ci c))
/-- What stands for a sign behind the backslash, and how many bytes it has. -/
def escT (R : List UInt8) : Option (List UInt8 × Nat) := match R with
  | [] => none
  | d :: r => if ci d = 92 ∨ ci d = 39 ∨ ci d = 34 then some ([d], 1) else if ci d = 110 then some ([10], 1) else if ci d = 114 then some ([13], 1)
    else if ci d = 116 then some ([9], 1) else if ci d = 48 then some ([0], 1) else if ci d = 117 then (match hexN 4 r 0 with | none => none | some n => if sizeI n = 0 then none else some (putL n, 5)) else none
def oneT (R : List UInt8) : Option (List UInt8 × Nat) := match R with
  | [] => none
  | c :: r => if ci c = 92 then (match escT r with | none => none | some (o, n) => some (o, n + 1)) else if ci c < 32 then none else some ([c], 1)
def txt (q : UInt8) : List UInt8 → Option (List UInt8 × Nat)
  | [] => none
  | c :: r => if c = q then some ([], 1) else match oneT (c :: r) with
    | none => none
    | some (o, n) => match txt q (r.drop (n - 1)) with
      | none => none
      | some (p, m) => some (o ++ p, n + m)
termination_by R => R.length
decreasing_by simp; omega

/- Signs. -/
def signs : List (List UInt8) := [[123], [125], [40], [41], [91], [93], [46], [59], [44], [63], [58], [126], [60], [62], [60, 61], [62, 61], [61, 61, 61], [33, 61, 61], [43], [45], [42], [47], [37], [43, 43], [45, 45], [60, 60], [62, 62], [62, 62, 62], [38], [124], [94], [33], [38, 38], [124, 124], [61], [43, 61], [45, 61], [42, 61], [47, 61], [37, 61], [38, 61], [124, 61], [94, 61], [60, 60, 61], [62, 62, 61], [62, 62, 62, 61]]
def sgnB (P : List UInt8) : Bool := signs.contains P
/-- The longest of at most n bytes. -/
def sgnN (R : List UInt8) : Nat → Nat
  | 0 => 0
  | n + 1 => if n + 1 ≤ R.length ∧ sgnB (R.take (n + 1)) = true then n + 1 else sgnN R n
theorem sgnN_le (R : List UInt8) : ∀ n, sgnN R n ≤ n ∧ sgnN R n ≤ R.length
  | 0 => by simp [sgnN]
  | n + 1 => by
    have := sgnN_le R n
    unfold sgnN; split <;> omega

/- Between tokens. -/
def lineN : List UInt8 → Nat
  | [] => 0
  | c :: r => if c = 10 then 0 else lineN r + 1
/-- How many bytes stand ahead of the next end of a remark; none: it has no end. -/
def endN : List UInt8 → Option Nat
  | [] => none
  | [_] => none
  | c :: d :: r => if c = 42 ∧ d = 47 then some 0 else (endN (d :: r)).map (· + 1)
def blankB (c : UInt8) : Bool := c == 32 || c == 9 || c == 13 || c == 10
/-- How far a remark reaches that begins here; none: it has no end; 0: none begins. -/
def remN (R : List UInt8) : Option Nat := match R with
  | a :: b :: r => if a = 47 ∧ b = 47 then some (lineN (a :: b :: r)) else if a = 47 ∧ b = 42 then (endN r).map (· + 4) else some 0
  | _ => some 0
/-- How many bytes stand between tokens; false: there a remark begins that has no end. -/
def gap : List UInt8 → Nat × Bool
  | [] => (0, true)
  | c :: r => if blankB c then ((gap r).1 + 1, (gap r).2) else match remN (c :: r) with
    | none => (0, false)
    | some 0 => (0, true)
    | some (n + 1) => ((gap (r.drop n)).1 + (n + 1), (gap (r.drop n)).2)
termination_by R => R.length
decreasing_by all_goals (simp; try omega)

/- Tokens. -/
structure Tk where
  kind : Int
  pos : Int
  text : List UInt8
  bits : Int
def tokO (R : List UInt8) : Option (Tk × Nat) := match R with
  | [] => none
  | c :: r =>
    if digB (ci c) then (match numO ((c :: r).take (nmL (c :: r))) with | none => none | some n => some (⟨3, 0, [], ofI n⟩, nmL (c :: r)))
    else if npB (ci c) then some (⟨if wordB ((c :: r).take (nmL (c :: r))) then 2 else 1, 0, (c :: r).take (nmL (c :: r)), 0⟩, nmL (c :: r))
    else if ci c = 39 ∨ ci c = 34 then (match txt c r with | none => none | some (o, m) => some (⟨4, 0, o, 0⟩, m + 1))
    else if sgnN (c :: r) 4 = 0 then none else some (⟨5, 0, (c :: r).take (sgnN (c :: r) 4), 0⟩, sgnN (c :: r) 4)
def opens (P : List UInt8) : Bool := P == [123] || P == [40] || P == [91]
def shuts (P : List UInt8) : Bool := P == [125] || P == [41] || P == [93]
def tooDeep (t : Tk) (op : Int) : Bool := t.kind == 5 && opens t.text && op == 240
def opA (t : Tk) (op : Int) : Int := if t.kind == 5 && opens t.text then op + 1 else if t.kind == 5 && shuts t.text then max (op - 1) 0 else op
def consT (t : Tk) (a : Int) (x : Except (Int × Int) (List Tk)) : Except (Int × Int) (List Tk) := match x with | .error e => .error e | .ok l => .ok ({ t with pos := a } :: l)
/-- The tokens of what follows, from a token's place on. -/
def lexB : List UInt8 → Int → Int → Except (Int × Int) (List Tk)
  | [], _, _ => .ok []
  | c :: r, a, op => match tokO (c :: r) with
    | none => .error (a, 5)
    | some (t, n) => if tooDeep t op then .error (a, 6) else match gap (r.drop (n - 1)) with
      | (k, false) => .error (a + n + k, 5)
      | (k, true) => consT t a (lexB ((r.drop (n - 1)).drop k) (a + n + k) (opA t op))
termination_by R => R.length
decreasing_by simp; omega
def lexA (R : List UInt8) (a op : Int) : Except (Int × Int) (List Tk) := match gap R with
  | (k, false) => .error (a + k, 5)
  | (k, true) => lexB (R.drop k) (a + k) op
theorem lexB_cons (c : UInt8) (r : List UInt8) (a op : Int) : lexB (c :: r) a op = match tokO (c :: r) with
    | none => .error (a, 5)
    | some (t, n) => if tooDeep t op then .error (a, 6) else consT t a (lexA (r.drop (n - 1)) (a + n) (opA t op)) := by
  rw [lexB]
  split
  · rfl
  · split
    · rfl
    · unfold lexA
      generalize gap _ = g
      rcases g with ⟨k, _ | _⟩ <;> rfl
/-- All of a source. -/
def lexL (L : List UInt8) : Except (Int × Int) (List Tk) :=
  if 4096 < L.length then .error (0, 3) else match chk L 0 with
  | some k => .error (k, 4)
  | none => lexA L 0 0
end Go.Proofs.Ytcpjggcpimghjaa
