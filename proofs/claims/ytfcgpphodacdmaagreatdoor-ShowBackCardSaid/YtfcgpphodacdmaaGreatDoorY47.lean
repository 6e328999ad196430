/- Part of a proof: contracts of functions. -/
import Derived.Test.YtfcgpphodacdmaaGreatDoorY36
import Derived.Test.YtfcgpphodacdmaaGreatDoorY37
import Derived.Test.YtfcgpphodacdmaaGreatDoorY39
import Derived.Test.YtfcgpphodacdmaaGreatDoorY40
import Derived.Test.YtfcgpphodacdmaaGreatDoorY41
import Derived.Test.YtfcgpphodacdmaaGreatDoorY42
import Derived.Test.YtfcgpphodacdmaaGreatDoorY43
import Derived.Test.YtfcgpphodacdmaaGreatDoorY44
import Derived.Test.YtfcgpphodacdmaaGreatDoorY45
import Derived.Test.YtfcgpphodacdmaaGreatDoorY46
import Derived.Test.YtfcgpphodacdmaaGreatDoorY35
import Derived.Test.YtfcgpphodacdmaaGreatDoorY38
set_option maxRecDepth 100000
set_option maxHeartbeats 4000000
set_option linter.all false
namespace Go.Proofs.YtfcgpphodacdmaaGreatDoor
open Go.RowKit
section
def prs (F : Tr → List UInt8) : List Tr → Nat → List (Int × List UInt8)
 | [], _ => []
 | t :: l, p => ((p : Int), F t) :: prs F l (p + (zp t).length)
theorem qE (F : Tr → List UInt8) : ∀ (l : List Tr) (p : Nat), (prs F l p).map (·.1) = (zZ l p).map fun (p : Nat) => (p : Int)
 | [], _ => rfl
 | t :: l, p => by rw [prs, zZ, List.map_cons, List.map_cons, qE F l]
theorem yI (F : Tr → List UInt8) : ∀ (l : List Tr) (p : Nat), (prs F l p).map (·.2) = l.map F
 | [], _ => rfl
 | t :: l, p => by rw [prs, List.map_cons, List.map_cons, yI F l]
theorem qF (F : Tr → List UInt8) : ∀ (l : List Tr) (p : Nat), (prs F l p).length = l.length
 | [], _ => rfl
 | t :: l, p => by rw [prs, List.length_cons, List.length_cons, qF F l]
theorem jH (F : Tr → List UInt8) : ∀ (l : List Tr) (p : Nat), ∀ q ∈ prs F l p, ∃ (j : Nat) (h : j < l.length) (pj : Nat), (zZ l p)[j]? = some pj ∧ q = ((pj : Int), F (l[j]'h))
 | [], _, q, hq => by cases hq
 | t :: l, p, q, hq => by
  rw [prs] at hq;rcases List.mem_cons.1 hq with rfl | hq
  ·exact ⟨0, by simp, p, by rw [zZ]; rfl, rfl⟩
  ·obtain ⟨j, h, pj, h1, h2⟩ := jH F l _ q hq;exact ⟨j + 1, by simpa using h, pj, by rw [zZ, List.getElem?_cons_succ]; exact h1, by simpa using h2⟩
theorem zbk : ∀ (a b : List Tr) (p : Nat), zZ (a ++ b) p = zZ a p ++ zZ b (p + (zs a).length)
 | [], b, p => by simp [zZ, zs]
 | t :: a, b, p => by rw [List.cons_append, zZ, zZ, zbk a b, zs, List.length_append, List.cons_append, Nat.add_assoc]
structure Cw (M : Nat) (w : World) (v : Value) (L : List LN) : Prop where
 row : xf w v L
 few : L.length ≤ 4100
 nums : ∀ l ∈ L, l.n < 1000000 ∧ l.size < 1000000
 tab : Bt.tab w
 roles : qR w
 M0 : 30 ≤ M
 M1 : M ≤ 16500
theorem Cw.below {M : Nat} {w w1 : World} {v : Value} {L : List LN} (h : Cw M w v L) (hb : Below w.heap.size w w1) : Cw M w1 v L := ⟨h.row.below hb, h.few, h.nums, Bt.tab_below h.tab hb, h.roles.below hb, h.M0, h.M1⟩
theorem zhS {M n : Nat} (hM : M ≤ 16500) (hn : n ≤ 4100) : (6 * M + 100) * n ≤ 406310000 := Nat.le_trans (Nat.mul_le_mul (show 6 * M + 100 ≤ 99100 by omega) hn) (by decide)
theorem zkz {M : Nat} {w : World} {v : Value} {L : List LN} (h : Cw M w v L) {i : Nat} {t : Tr} (hs : Sub L i t) (hn : lnN M t) : (fB t).length ≤ 406310000 := by
 have h1 := zhB t hn;have h2 := zhS h.M1 (show (zp t).length ≤ 4100 by have := hs.lt; have := h.few; omega);omega
theorem uB {M : Nat} {w : World} {v : Value} {L : List LN} (h : Cw M w v L) {i : Nat} {k : Int} {x : List UInt8} {b : Int} {kids : List Tr} (hs : Sub L i (.node k x b kids)) (hn : lnN M (.node k x b kids)) : wS kids ≤ 406310000 := by
 rw [lnN] at hn;have h1 := zb9 kids hn.2;have h3 : (zp (.node k x b kids)).length = (zs kids).length + 1 := by rw [zp, List.length_cons]
 have h2 := zhS h.M1 (show (zs kids).length ≤ 4100 by have := hs.lt; have := h.few; omega);omega
structure Kd (M : Nat) (w : World) (v : Value) (L : List LN) (i : Nat) (k : Int) (x : List UInt8) (b : Int) (kids : List Tr) : Prop where
 cw : Cw M w v L
 sub : Sub L i (.node k x b kids)
 len : lnN M (.node k x b kids)
 form : ∀ (j : Nat) (h : j < kids.length) (p : Nat), (zZ kids (i + 1))[j]? = some p → CtF w 28 v (p : Int) (fB (kids[j]'h)) ∧ Sub L p (kids[j]'h) ∧ lnN M (kids[j]'h)
section
variable {M : Nat} {w : World} {v : Value} {L : List LN} {i : Nat} {k : Int} {x : List UInt8} {b : Int} {kids : List Tr}
theorem Kd.at (h : Kd M w v L i k x b kids) : AtN w v L i k x b ((zZ kids (i + 1)).map fun (p : Nat) => (p : Int)) :=
 ⟨h.cw.row, by have := h.cw.few; omega, h.cw.nums, _, h.sub, rfl, rfl, rfl, rfl⟩
theorem Kd.bx (h : Kd M w v L i k x b kids) : (bs x).size ≤ 1000000000 := by
 have := h.len; rw [lnN] at this;have h1 := this.1.1;have h2 := h.cw.M1;have e : (bs x).size = x.length := rfl;omega
theorem Kd.f (h : Kd M w v L i k x b kids) (j : Nat) (hj : j < kids.length) (p : Nat) (hp : (zZ kids (i + 1))[j]? = some p) : CtF w 28 v (p : Int) (fB (kids[j]'hj)) ∧ (bs (fB (kids[j]'hj))).size ≤ 406310000 :=
 ⟨(h.form j hj p hp).1, zkz h.cw (h.form j hj p hp).2.1 (h.form j hj p hp).2.2⟩
theorem Kd.p (h : Kd M w v L i k x b kids) (j : Nat) (hj : j < kids.length) (p : Nat) (hp : (zZ kids (i + 1))[j]? = some p) : CtF w 44 v (p : Int) (pB (kids[j]'hj)) ∧ (bs (pB (kids[j]'hj))).size ≤ 406310002 := by
 have h1 := h.f j hj p hp;have h2 := (h.form j hj p hp).2.1;refine ⟨zpZ w v L h.cw.row p _ h2 h1.1 (by omega), ?_⟩;have := vd (kids[j]'hj);have h3 := h1.2;show (pB _).length ≤ _
 have e : (bs (fB (kids[j]'hj))).size = (fB (kids[j]'hj)).length := rfl;omega
theorem Kd.e (h : Kd M w v L i k x b kids) (j : Nat) (hj : j < kids.length) (p : Nat) (hp : (zZ kids (i + 1))[j]? = some p) : CtF w 73 v (p : Int) (eB (kids[j]'hj)) ∧ (bs (eB (kids[j]'hj))).size ≤ 406310002 := by
 have h1 := h.f j hj p hp;have h2 := (h.form j hj p hp).2.1;refine ⟨zlS w v L h.cw.row p _ h2 h1.1 (by omega), ?_⟩;have := zdx (kids[j]'hj);have h3 := h1.2;show (eB _).length ≤ _
 have e : (bs (fB (kids[j]'hj))).size = (fB (kids[j]'hj)).length := rfl;omega
theorem Kd.lf (h : Kd M w v L i k x b kids) : ∀ q ∈ prs fB kids (i + 1), CtF w 28 v q.1 q.2 := fun q hq => by
 obtain ⟨j, hj, p, h1, rfl⟩ := jH _ _ _ q hq;exact (h.f j hj p h1).1
theorem Kd.lp (h : Kd M w v L i k x b kids) : ∀ q ∈ prs pB kids (i + 1), CtF w 44 v q.1 q.2 := fun q hq => by
 obtain ⟨j, hj, p, h1, rfl⟩ := jH _ _ _ q hq;exact (h.p j hj p h1).1
theorem Kd.few (h : Kd M w v L i k x b kids) : kids.length ≤ 4100 := by
 have h1 := h.sub.lt;have h3 : (zp (.node k x b kids)).length = (zs kids).length + 1 := by rw [zp, List.length_cons]
 have h2 := zbt kids;have := h.cw.few;omega
theorem Kd.each (h : Kd M w v L i k x b kids) (s : List UInt8) (hs : s.length ≤ 4) (kv : Value) (w1 : World) (hb : Below w.heap.size w w1) (hk : IRo w1 kv ((zZ kids (i + 1)).map fun (p : Nat) => (p : Int))) : Calls Tryz.prog 41 #[v, kv, .string (bs s)] w1 (zS w1 (yw s (kids.map fB))) := by
 have := zdS kv v s (prs fB kids (i + 1)) w1 (by rw [qE]; exact hk) (fun q hq => (h.lf q hq).below hb) (by rw [qF]; have := h.few; omega) (by rw [yI]; have := jG s hs kids; have := uB h.cw h.sub h.len; omega);rw [yI] at this; exact this
theorem Kd.rowf (h : Kd M w v L i k x b kids) (kv : Value) (w1 : World) (hb : Below w.heap.size w w1) (hk : IRo w1 kv ((zZ kids (i + 1)).map fun (p : Nat) => (p : Int))) : Calls Tryz.prog 42 #[kv, .func (.func 28) #[v] #[]] w1 (zS w1 (zE (kids.map fB))) := by
 have := zak kv v (prs fB kids (i + 1)) w1 (by rw [qE]; exact hk) (fun q hq => (h.lf q hq).below hb) (by rw [qF]; have := h.few; omega) (by rw [yI]; have := vO kids; have := uB h.cw h.sub h.len; omega);rw [yI] at this; exact this
end
section
variable {M : Nat} {w : World} {v : Value} {L : List LN} {i : Nat} {k : Int} {x : List UInt8} {b : Int} {kids : List Tr}
theorem Kd.be (h : Kd M w v L i k x b kids) (s : List UInt8) (hs : s.length ≤ 4) : (bs (yw s (kids.map fB))).size ≤ 1000000000 := by
 have h1 := jG s hs kids;have h2 := uB h.cw h.sub h.len;show (yw s (kids.map fB)).length ≤ _
 omega
theorem Kd.bj (h : Kd M w v L i k x b kids) : (bs (zE (kids.map fB))).size ≤ 1000000000 := by
 have h1 := vO kids;have h2 := uB h.cw h.sub h.len;show (zE (kids.map fB)).length ≤ _
 omega
theorem Kd.bjp (h : Kd M w v L i k x b kids) : (zE (kids.map pB)).length ≤ 1000000000 := by
 have h1 := jF kids;have h2 := uB h.cw h.sub h.len;omega
theorem Kd.xl (h : Kd M w v L i k x b kids) : x.length ≤ 100000 := by
 have := h.len; rw [lnN] at this;have h1 := this.1.1;have h2 := h.cw.M1;omega
theorem Kd.bq (h : Kd M w v L i k x b kids) : (bs (yf x)).size ≤ 1000000000 := by
 have := h.len; rw [lnN] at this;have h1 := zdy this.1.1;have h2 := h.cw.M1;show (yf x).length ≤ _
 omega
theorem Kd.bits (h : Kd M w v L i k x b kids) : 0 ≤ b ∧ b < 18446744073709551616 := by
 have := h.len; rw [lnN] at this; exact this.1.2
abbrev zF (w : World) (v : Value) (i : Nat) (k : Int) (x : List UInt8) (b : Int) (kids : List Tr) : Prop := Calls Tryz.prog 28 #[v, .int .i64 (i : Int)] w (zS w (fB (.node k x b kids)))
theorem zra  (h : Kd M w v L i 1 x b kids) : zF w v i 1 x b kids := by
 have e : fB (.node 1 x b kids) = yw [10] (kids.map fB) := by rw [zt]; rfl
 unfold zF;rw [e];exact zq4 w v L i x b _ _ h.at (fun kv w1 hb hk => h.each [10] (by decide) kv w1 hb hk) (h.be [10] (by decide))
theorem zrb  (h : Kd M w v L i 2 x b kids) : zF w v i 2 x b kids := by
 have e : fB (.node 2 x b kids) = [123, 32] ++ yw [32] (kids.map fB) ++ [125] := by rw [zt]; rfl
 unfold zF;rw [e];exact zq5 w v L i x b _ _ h.at (fun kv w1 hb hk => h.each [32] (by decide) kv w1 hb hk) (h.be [32] (by decide))
theorem zo8  (h : Kd M w v L i 20 x b kids) : zF w v i 20 x b kids := by
 have e : fB (.node 20 x b kids) = [123, 32] ++ yw [32] (kids.map fB) ++ [125] := by rw [zt]; rfl
 unfold zF;rw [e];exact zol w v L i x b _ _ h.at (fun kv w1 hb hk => h.each [32] (by decide) kv w1 hb hk) (h.be [32] (by decide))
theorem zrc  (h : Kd M w v L i 3 x b kids) : zF w v i 3 x b kids := by
 have e : fB (.node 3 x b kids) = [118, 97, 114, 32] ++ zE (kids.map fB) ++ [59] := by rw [zt]; rfl
 unfold zF;rw [e];exact zqs w v L i x b _ _ h.at (fun kv w1 hb hk => h.rowf kv w1 hb hk) h.bj
theorem zo9  (h : Kd M w v L i 4 x b []) : zF w v i 4 x b [] := by
 have e : fB (.node 4 x b []) = x ++ [] := by rw [zt, List.append_nil]; rfl
 unfold zF;rw [e];exact zmJ w v L i x b _ [] h.at (fun kv w1 hb hk => zbz [32, 61, 32] kv _ w1 hk) (by decide) h.bx
theorem zpa {a : Tr} (h : Kd M w v L i 4 x b [a]) : zF w v i 4 x b [a] := by
  have e : fB (.node 4 x b [a]) = x ++ ([32, 61, 32] ++ pB a) := by rw [zt]; rfl
  have q := h.p 0 (by simp) (i + 1) rfl;unfold zF;rw [e];exact zmJ w v L i x b _ ([32, 61, 32] ++ pB a) h.at (fun kv w1 hb hk => za5 [32, 61, 32] kv v ((i + 1 : Nat) : Int) [] (pB a) w1 hk (q.1.below hb) (by decide) (Nat.le_trans q.2 (by decide))) (by
    have e2 : (bs ([32, 61, 32] ++ pB a)).size = 3 + (bs (pB a)).size := by rw [z7, ByteArray.size_append]; rfl
    have := q.2;have e3 : (bs (pB ([a][0]))).size = (bs (pB a)).size := rfl;omega) h.bx
theorem zrd  (h : Kd M w v L i 5 x b []) : zF w v i 5 x b [] := by
 have e : fB (.node 5 x b []) = [59] := by rw [zt]; rfl
 unfold zF;rw [e];exact qG w v L i x b _ 5 _ h.at (by decide) h.cw.roles (by decide) (fun n z kv w1 hb hk => zrs n z x b kv v w1)
theorem zpb  (h : Kd M w v L i 11 x b []) : zF w v i 11 x b [] := by
 have e : fB (.node 11 x b []) = [98, 114, 101, 97, 107, 59] := by rw [zt]; rfl
 unfold zF;rw [e];exact qG w v L i x b _ 11 _ h.at (by decide) h.cw.roles (by decide) (fun n z kv w1 hb hk => zqf n z x b kv v w1)
theorem zpc  (h : Kd M w v L i 12 x b []) : zF w v i 12 x b [] := by
 have e : fB (.node 12 x b []) = [99, 111, 110, 116, 105, 110, 117, 101, 59] := by rw [zt]; rfl
 unfold zF;rw [e];exact qG w v L i x b _ 12 _ h.at (by decide) h.cw.roles (by decide) (fun n z kv w1 hb hk => zqg n z x b kv v w1)
theorem zre {a : Tr} (h : Kd M w v L i 6 x b [a]) : zF w v i 6 x b [a] := by
 have e : fB (.node 6 x b [a]) = [40] ++ fB a ++ [41, 59] := by rw [zt]; rfl
 unfold zF;rw [e];exact qG w v L i x b _ 6 _ h.at (by decide) h.cw.roles (by decide) (fun n z kv w1 hb hk => zrt n z x b kv v ((i + 1 : Nat) : Int) (fB a) w1 hk ((h.f 0 (by simp) (i + 1) rfl).1.below hb) (Nat.le_trans (h.f 0 (by simp) (i + 1) rfl).2 (by decide)) h.bx)
theorem zpd {a c : Tr} (h : Kd M w v L i 7 x b [a, c]) : zF w v i 7 x b [a, c] := by
 have e : fB (.node 7 x b [a, c]) = [105, 102, 32, 40] ++ fB a ++ [41, 32] ++ fB c ++ [] := by rw [zt]; exact (List.append_nil _).symm
 unfold zF;rw [e];exact qG w v L i x b _ 7 _ h.at (by decide) h.cw.roles (by decide) (fun n z kv w1 hb hk => zn3 n z x b kv v ((i + 1 : Nat) : Int) ((i + 1 + (zp a).length : Nat) : Int) (fB a) (fB c) w1 hk ((h.f 0 (by simp) (i + 1) rfl).1.below hb) (Nat.le_trans (h.f 0 (by simp) (i + 1) rfl).2 (by decide)) ((h.f 1 (by simp) (i + 1 + (zp a).length) rfl).1.below hb) (Nat.le_trans (h.f 1 (by simp) (i + 1 + (zp a).length) rfl).2 (by decide)))
theorem zpe {a c d : Tr} (h : Kd M w v L i 7 x b [a, c, d]) : zF w v i 7 x b [a, c, d] := by
 have e : fB (.node 7 x b [a, c, d]) = [105, 102, 32, 40] ++ fB a ++ [41, 32] ++ fB c ++ ([32, 101, 108, 115, 101, 32] ++ fB d) := by rw [zt]; rfl
 unfold zF;rw [e];exact qG w v L i x b _ 7 _ h.at (by decide) h.cw.roles (by decide) (fun n z kv w1 hb hk => zn4 n z x b kv v ((i + 1 : Nat) : Int) ((i + 1 + (zp a).length : Nat) : Int) ((i + 1 + (zp a).length + (zp c).length : Nat) : Int) (fB a) (fB c) (fB d) w1 hk ((h.f 0 (by simp) (i + 1) rfl).1.below hb) (Nat.le_trans (h.f 0 (by simp) (i + 1) rfl).2 (by decide)) ((h.f 1 (by simp) (i + 1 + (zp a).length) rfl).1.below hb) (Nat.le_trans (h.f 1 (by simp) (i + 1 + (zp a).length) rfl).2 (by decide)) ((h.f 2 (by simp) (i + 1 + (zp a).length + (zp c).length) rfl).1.below hb) (Nat.le_trans (h.f 2 (by simp) (i + 1 + (zp a).length + (zp c).length) rfl).2 (by decide)))
theorem zrf {a c : Tr} (h : Kd M w v L i 8 x b [a, c]) : zF w v i 8 x b [a, c] := by
 have e : fB (.node 8 x b [a, c]) = [119, 104, 105, 108, 101, 32, 40] ++ fB a ++ [41, 32] ++ fB c := by rw [zt]; rfl
 unfold zF;rw [e];exact qG w v L i x b _ 8 _ h.at (by decide) h.cw.roles (by decide) (fun n z kv w1 hb hk => zru n z x b kv v ((i + 1 : Nat) : Int) ((i + 1 + (zp a).length : Nat) : Int) (fB a) (fB c) w1 hk ((h.f 0 (by simp) (i + 1) rfl).1.below hb) (Nat.le_trans (h.f 0 (by simp) (i + 1) rfl).2 (by decide)) ((h.f 1 (by simp) (i + 1 + (zp a).length) rfl).1.below hb) (Nat.le_trans (h.f 1 (by simp) (i + 1 + (zp a).length) rfl).2 (by decide)) h.bx)
theorem zrg {a c : Tr} (h : Kd M w v L i 9 x b [a, c]) : zF w v i 9 x b [a, c] := by
 have e : fB (.node 9 x b [a, c]) = [100, 111, 32] ++ fB a ++ [32, 119, 104, 105, 108, 101, 32, 40] ++ fB c ++ [41, 59] := by rw [zt]; rfl
 unfold zF;rw [e];exact qG w v L i x b _ 9 _ h.at (by decide) h.cw.roles (by decide) (fun n z kv w1 hb hk => zrv n z x b kv v ((i + 1 : Nat) : Int) ((i + 1 + (zp a).length : Nat) : Int) (fB a) (fB c) w1 hk ((h.f 0 (by simp) (i + 1) rfl).1.below hb) (Nat.le_trans (h.f 0 (by simp) (i + 1) rfl).2 (by decide)) ((h.f 1 (by simp) (i + 1 + (zp a).length) rfl).1.below hb) (Nat.le_trans (h.f 1 (by simp) (i + 1 + (zp a).length) rfl).2 (by decide)) h.bx)
theorem zpf {a c d g : Tr} (h : Kd M w v L i 10 x b [a, c, d, g]) : zF w v i 10 x b [a, c, d, g] := by
 have e : fB (.node 10 x b [a, c, d, g]) = [102, 111, 114, 32, 40] ++ fB a ++ eB c ++ [59] ++ eB d ++ [41, 32] ++ fB g := by rw [zt]; rfl
 unfold zF;rw [e];exact qG w v L i x b _ 10 _ h.at (by decide) h.cw.roles (by decide) (fun n z kv w1 hb hk => zqh n z x b kv v ((i + 1 : Nat) : Int) ((i + 1 + (zp a).length : Nat) : Int) ((i + 1 + (zp a).length + (zp c).length : Nat) : Int) ((i + 1 + (zp a).length + (zp c).length + (zp d).length : Nat) : Int) (fB a) (eB c) (eB d) (fB g) w1 hk ((h.f 0 (by simp) (i + 1) rfl).1.below hb) (Nat.le_trans (h.f 0 (by simp) (i + 1) rfl).2 (by decide)) ((h.e 1 (by simp) (i + 1 + (zp a).length) rfl).1.below hb) (Nat.le_trans (h.e 1 (by simp) (i + 1 + (zp a).length) rfl).2 (by decide)) ((h.e 2 (by simp) (i + 1 + (zp a).length + (zp c).length) rfl).1.below hb) (Nat.le_trans (h.e 2 (by simp) (i + 1 + (zp a).length + (zp c).length) rfl).2 (by decide)) ((h.f 3 (by simp) (i + 1 + (zp a).length + (zp c).length + (zp d).length) rfl).1.below hb) (Nat.le_trans (h.f 3 (by simp) (i + 1 + (zp a).length + (zp c).length + (zp d).length) rfl).2 (by decide)) h.bx)
theorem zm1  (h : Kd M w v L i 13 x b []) : zF w v i 13 x b [] := by
 have e : fB (.node 13 x b []) = [114, 101, 116, 117, 114, 110] ++ [] ++ [59] := by rw [zt]; rfl
 unfold zF;rw [e];exact qG w v L i x b _ 13 _ h.at (by decide) h.cw.roles (by decide) (fun n z kv w1 hb hk => znM n z x b kv v w1 hk)
theorem zm2 {a : Tr} (h : Kd M w v L i 13 x b [a]) : zF w v i 13 x b [a] := by
 have e : fB (.node 13 x b [a]) = [114, 101, 116, 117, 114, 110] ++ ([32] ++ pB a) ++ [59] := by rw [zt]; rfl
 unfold zF;rw [e];exact qG w v L i x b _ 13 _ h.at (by decide) h.cw.roles (by decide) (fun n z kv w1 hb hk => znN n z x b kv v ((i + 1 : Nat) : Int) (pB a) w1 hk ((h.p 0 (by simp) (i + 1) rfl).1.below hb) (Nat.le_trans (h.p 0 (by simp) (i + 1) rfl).2 (by decide)))
theorem zpg {a : Tr} (h : Kd M w v L i 14 x b [a]) : zF w v i 14 x b [a] := by
 have e : fB (.node 14 x b [a]) = [116, 104, 114, 111, 119, 32] ++ pB a ++ [59] := by rw [zt]; rfl
 unfold zF;rw [e];exact qG w v L i x b _ 14 _ h.at (by decide) h.cw.roles (by decide) (fun n z kv w1 hb hk => zqi n z x b kv v ((i + 1 : Nat) : Int) (pB a) w1 hk ((h.p 0 (by simp) (i + 1) rfl).1.below hb) (Nat.le_trans (h.p 0 (by simp) (i + 1) rfl).2 (by decide)) h.bx)
theorem zph  (h : Kd M w v L i 15 x b kids) : zF w v i 15 x b kids := by
 have e : fB (.node 15 x b kids) = [116, 114, 121, 32] ++ yw [] (kids.map fB) := by rw [zt]; rfl
 unfold zF;rw [e];refine qG w v L i x b _ 15 _ h.at (by decide) h.cw.roles (by decide) (fun n z kv w1 hb hk => ?_);have := zqj n z x b kv v (prs fB kids (i + 1)) w1 (by rw [qE]; exact hk) (fun q hq => (h.lf q hq).below hb) (by rw [qF]; have := h.few; omega) (by rw [yI]; exact h.be [] (by decide));rw [yI] at this;exact this
theorem zpi {a : Tr} (h : Kd M w v L i 16 x b [a]) : zF w v i 16 x b [a] := by
 have e : fB (.node 16 x b [a]) = [32, 99, 97, 116, 99, 104, 32, 40] ++ x ++ [41, 32] ++ fB a := by rw [zt]; rfl
 have q := h.f 0 (by simp) (i + 1) rfl;unfold zF;rw [e];exact zoj w v L i x b [] ((i + 1 : Nat) : Int) (fB a) h.at q.1 (Nat.le_trans q.2 (by decide)) h.bx
theorem zpj {a : Tr} (h : Kd M w v L i 17 x b [a]) : zF w v i 17 x b [a] := by
 have e : fB (.node 17 x b [a]) = [32, 102, 105, 110, 97, 108, 108, 121, 32] ++ fB a := by rw [zt]; rfl
 have q := h.f 0 (by simp) (i + 1) rfl;unfold zF;rw [e];exact zoh w v L i x b [] ((i + 1 : Nat) : Int) (fB a) h.at q.1 (Nat.le_trans q.2 (by decide))
theorem zpk  (h : Kd M w v L i 19 x b []) : zF w v i 19 x b [] := by
 have e : fB (.node 19 x b []) = x := by rw [zt]; rfl
 unfold zF;rw [e];exact zoi w v L i x b [] h.at
theorem zpl {a : Tr} (h : Kd M w v L i 30 x b [a]) : zF w v i 30 x b [a] := by
 have e : fB (.node 30 x b [a]) = yf x ++ [58, 32] ++ pB a := by rw [zt]; rfl
 have q := h.p 0 (by simp) (i + 1) rfl;unfold zF;rw [e];exact zok w v L i x b [] ((i + 1 : Nat) : Int) (pB a) (yf x) h.at q.1 (Nat.le_trans q.2 (by decide)) (fun w1 hb => za2 x h.xl w1 (Bt.tab_below h.cw.tab hb)) h.bq h.bx
theorem zpm {m : List Tr} {t : Tr} (h : Kd M w v L i 18 x b (m ++ [t])) : zF w v i 18 x b (m ++ [t]) := by
 have e : fB (.node 18 x b (m ++ [t])) = [102, 117, 110, 99, 116, 105, 111, 110, 32] ++ x ++ [40] ++ zE (m.map fB) ++ [41, 32] ++ fB t := by
  have q1 : (m ++ [t]).map fB = m.map fB ++ [fB t] := by rw [List.map_append]; rfl
  have q2 : (m.map fB ++ [fB t]).dropLast = m.map fB := by simp
  have q3 : (m.map fB ++ [fB t]).getLastD [] = fB t := by simp
  rw [zt, q1];show [102, 117, 110, 99, 116, 105, 111, 110, 32] ++ x ++ [40] ++ zE (m.map fB ++ [fB t]).dropLast ++ [41, 32] ++ (m.map fB ++ [fB t]).getLastD [] = _
  rw [q2, q3]
 have hb0 : zZ (m ++ [t]) (i + 1) = zZ m (i + 1) ++ [i + 1 + (zs m).length] := by rw [zbk]; rfl
 have ha := h.at;rw [hb0, List.map_append] at ha;have ql := h.f m.length (by simp) (i + 1 + (zs m).length) (by rw [hb0, List.getElem?_append_right (by rw [qd]; omega), qd, Nat.sub_self]; rfl);have el : (m ++ [t])[m.length]'(by simp) = t := by simp
 rw [el] at ql;have hw : wS m ≤ 406310000 := by
  have h2 : wS (m ++ [t]) = wS m + ((fB t).length + 4) := by simp [wS]
  have := uB h.cw h.sub h.len;omega
 have hf : ∀ q ∈ prs fB m (i + 1), CtF w 28 v q.1 q.2 := fun q hq => by
  obtain ⟨j, hj, p, h1, rfl⟩ := jH _ _ _ q hq;have := (h.f j (by simp; omega) p (by rw [hb0, List.getElem?_append_left (by rw [qd]; exact hj)]; exact h1)).1;rw [List.getElem_append_left hj] at this;exact this
 unfold zF;rw [e];refine zp0 w v L i x b [] (zE (m.map fB)) (fB t) ((zZ m (i + 1)).map fun (p : Nat) => (p : Int)) ((i + 1 + (zs m).length : Nat) : Int) (by rw [List.length_map, qd]; have := h.few; simp at this; omega) ha ql.1 (Nat.le_trans ql.2 (by decide)) (fun kv w1 hb hk => ?_) (by have := vO m; show (zE (m.map fB)).length ≤ _; omega) h.bx;have := zak kv v (prs fB m (i + 1)) w1 (by rw [qE]; exact hk) (fun q hq => (hf q hq).below hb) (by rw [qF]; have := h.few; simp at this; omega) (by rw [yI]; have := vO m; omega);rw [yI] at this;exact this
theorem zpn {m : List Tr} {t : Tr} (h : Kd M w v L i 31 x b (m ++ [t])) : zF w v i 31 x b (m ++ [t]) := by
 have e : fB (.node 31 x b (m ++ [t])) = [102, 117, 110, 99, 116, 105, 111, 110, 32] ++ x ++ [40] ++ zE (m.map fB) ++ [41, 32] ++ fB t := by
  have q1 : (m ++ [t]).map fB = m.map fB ++ [fB t] := by rw [List.map_append]; rfl
  have q2 : (m.map fB ++ [fB t]).dropLast = m.map fB := by simp
  have q3 : (m.map fB ++ [fB t]).getLastD [] = fB t := by simp
  rw [zt, q1];show [102, 117, 110, 99, 116, 105, 111, 110, 32] ++ x ++ [40] ++ zE (m.map fB ++ [fB t]).dropLast ++ [41, 32] ++ (m.map fB ++ [fB t]).getLastD [] = _
  rw [q2, q3]
 have hb0 : zZ (m ++ [t]) (i + 1) = zZ m (i + 1) ++ [i + 1 + (zs m).length] := by rw [zbk]; rfl
 have ha := h.at;rw [hb0, List.map_append] at ha;have ql := h.f m.length (by simp) (i + 1 + (zs m).length) (by rw [hb0, List.getElem?_append_right (by rw [qd]; omega), qd, Nat.sub_self]; rfl);have el : (m ++ [t])[m.length]'(by simp) = t := by simp
 rw [el] at ql;have hw : wS m ≤ 406310000 := by
  have h2 : wS (m ++ [t]) = wS m + ((fB t).length + 4) := by simp [wS]
  have := uB h.cw h.sub h.len;omega
 have hf : ∀ q ∈ prs fB m (i + 1), CtF w 28 v q.1 q.2 := fun q hq => by
  obtain ⟨j, hj, p, h1, rfl⟩ := jH _ _ _ q hq;have := (h.f j (by simp; omega) p (by rw [hb0, List.getElem?_append_left (by rw [qd]; exact hj)]; exact h1)).1;rw [List.getElem_append_left hj] at this;exact this
 unfold zF;rw [e];refine zp3 w v L i x b [] (zE (m.map fB)) (fB t) ((zZ m (i + 1)).map fun (p : Nat) => (p : Int)) ((i + 1 + (zs m).length : Nat) : Int) (by rw [List.length_map, qd]; have := h.few; simp at this; omega) ha ql.1 (Nat.le_trans ql.2 (by decide)) (fun kv w1 hb hk => ?_) (by have := vO m; show (zE (m.map fB)).length ≤ _; omega) h.bx;have := zak kv v (prs fB m (i + 1)) w1 (by rw [qE]; exact hk) (fun q hq => (hf q hq).below hb) (by rw [qF]; have := h.few; simp at this; omega) (by rw [yI]; have := vO m; omega);rw [yI] at this;exact this
theorem zpo  (h : Kd M w v L i 21 x b []) : zF w v i 21 x b [] := by
 have e : fB (.node 21 x b []) = vZ b := by rw [zt]; rfl
 unfold zF;rw [e];exact xc w v L i x b _ 21 _ h.at (by decide) h.cw.roles (by decide) (fun n z kv w1 hb hk => zn7 n z x b kv v w1 (Bt.tab_below h.cw.tab hb) h.bits.1 h.bits.2 (by have := zhA b; show (vZ b).length ≤ _; omega))
theorem zpp  (h : Kd M w v L i 22 x b []) : zF w v i 22 x b [] := by
 have e : fB (.node 22 x b []) = yf x := by rw [zt]; rfl
 unfold zF;rw [e];exact xc w v L i x b _ 22 _ h.at (by decide) h.cw.roles (by decide) (fun n z kv w1 hb hk => zn8 n z x b kv v w1 (Bt.tab_below h.cw.tab hb) h.xl h.bq)
theorem zpq  (h : Kd M w v L i 23 x b []) : zF w v i 23 x b [] := by
 have e : fB (.node 23 x b []) = [116, 114, 117, 101] := by rw [zt]; rfl
 unfold zF;rw [e];exact xc w v L i x b _ 23 _ h.at (by decide) h.cw.roles (by decide) (fun n z kv w1 hb hk => znV n z x b kv v w1)
theorem zpr  (h : Kd M w v L i 24 x b []) : zF w v i 24 x b [] := by
 have e : fB (.node 24 x b []) = [102, 97, 108, 115, 101] := by rw [zt]; rfl
 unfold zF;rw [e];exact xc w v L i x b _ 24 _ h.at (by decide) h.cw.roles (by decide) (fun n z kv w1 hb hk => znW n z x b kv v w1)
theorem zps  (h : Kd M w v L i 25 x b []) : zF w v i 25 x b [] := by
 have e : fB (.node 25 x b []) = [110, 117, 108, 108] := by rw [zt]; rfl
 unfold zF;rw [e];exact xc w v L i x b _ 25 _ h.at (by decide) h.cw.roles (by decide) (fun n z kv w1 hb hk => znX n z x b kv v w1)
theorem zpt  (h : Kd M w v L i 26 x b []) : zF w v i 26 x b [] := by
 have e : fB (.node 26 x b []) = [116, 104, 105, 115] := by rw [zt]; rfl
 unfold zF;rw [e];exact xc w v L i x b _ 26 _ h.at (by decide) h.cw.roles (by decide) (fun n z kv w1 hb hk => znY n z x b kv v w1)
theorem zpu  (h : Kd M w v L i 27 x b []) : zF w v i 27 x b [] := by
 have e : fB (.node 27 x b []) = x := by rw [zt]; rfl
 unfold zF;rw [e];exact xc w v L i x b _ 27 _ h.at (by decide) h.cw.roles (by decide) (fun n z kv w1 hb hk => znZ n z x b kv v w1)
theorem zpv  (h : Kd M w v L i 28 x b kids) : zF w v i 28 x b kids := by
 have e : fB (.node 28 x b kids) = [91] ++ zE (kids.map pB) ++ [93] := by rw [zt]; rfl
 unfold zF;rw [e];refine xc w v L i x b _ 28 _ h.at (by decide) h.cw.roles (by decide) (fun n z kv w1 hb hk => ?_);have := zn0 n z x b kv v (prs pB kids (i + 1)) w1 (by rw [qE]; exact hk) (fun q hq => (h.lp q hq).below hb) (by rw [qF]; have := h.few; omega) (by rw [yI]; exact h.bjp);rw [yI] at this;exact this
theorem zpw  (h : Kd M w v L i 29 x b kids) : zF w v i 29 x b kids := by
 have e : fB (.node 29 x b kids) = [123] ++ zE (kids.map fB) ++ [125] := by rw [zt]; rfl
 unfold zF;rw [e];refine xc w v L i x b _ 29 _ h.at (by decide) h.cw.roles (by decide) (fun n z kv w1 hb hk => ?_);have := zn1 n z x b kv v (prs fB kids (i + 1)) w1 (by rw [qE]; exact hk) (fun q hq => (h.lf q hq).below hb) (by rw [qF]; have := h.few; omega) (by rw [yI]; exact h.bj);rw [yI] at this;exact this
theorem zpx  (h : Kd M w v L i 42 x b kids) : zF w v i 42 x b kids := by
 have e : fB (.node 42 x b kids) = zE (kids.map pB) := by rw [zt]; rfl
 unfold zF;rw [e];refine xc w v L i x b _ 42 _ h.at (by decide) h.cw.roles (by decide) (fun n z kv w1 hb hk => ?_);have := zn2 n z x b kv v (prs pB kids (i + 1)) w1 (by rw [qE]; exact hk) (fun q hq => (h.lp q hq).below hb) (by rw [qF]; have := h.few; omega) (by rw [yI]; exact h.bjp);rw [yI] at this;exact this
theorem zpy {a : Tr} (h : Kd M w v L i 32 x b [a]) : zF w v i 32 x b [a] := by
 have e : fB (.node 32 x b [a]) = pB a ++ [46] ++ x := by rw [zt]; rfl
 unfold zF;rw [e];exact xc w v L i x b _ 32 _ h.at (by decide) h.cw.roles (by decide) (fun n z kv w1 hb hk => zoX n z x b kv v ((i + 1 : Nat) : Int) (pB a) w1 hk ((h.p 0 (by simp) (i + 1) rfl).1.below hb) (Nat.le_trans (h.p 0 (by simp) (i + 1) rfl).2 (by decide)) h.bx)
theorem zpz {a c : Tr} (h : Kd M w v L i 33 x b [a, c]) : zF w v i 33 x b [a, c] := by
 have e : fB (.node 33 x b [a, c]) = pB a ++ [91] ++ fB c ++ [93] := by rw [zt]; rfl
 unfold zF;rw [e];exact xc w v L i x b _ 33 _ h.at (by decide) h.cw.roles (by decide) (fun n z kv w1 hb hk => zoY n z x b kv v ((i + 1 : Nat) : Int) ((i + 1 + (zp a).length : Nat) : Int) (pB a) (fB c) w1 hk ((h.p 0 (by simp) (i + 1) rfl).1.below hb) (Nat.le_trans (h.p 0 (by simp) (i + 1) rfl).2 (by decide)) ((h.f 1 (by simp) (i + 1 + (zp a).length) rfl).1.below hb) (Nat.le_trans (h.f 1 (by simp) (i + 1 + (zp a).length) rfl).2 (by decide)) h.bx)
theorem zpA {a : Tr} (h : Kd M w v L i 36 x b [a]) : zF w v i 36 x b [a] := by
 have e : fB (.node 36 x b [a]) = x ++ [32] ++ pB a := by rw [zt]; rfl
 unfold zF;rw [e];exact xc w v L i x b _ 36 _ h.at (by decide) h.cw.roles (by decide) (fun n z kv w1 hb hk => zoZ n z x b kv v ((i + 1 : Nat) : Int) (pB a) w1 hk ((h.p 0 (by simp) (i + 1) rfl).1.below hb) (Nat.le_trans (h.p 0 (by simp) (i + 1) rfl).2 (by decide)) h.bx)
theorem zm3 {a : Tr} (h : Kd M w v L i 37 x 0 [a]) : zF w v i 37 x 0 [a] := by
 have e : fB (.node 37 x 0 [a]) = x ++ pB a := by rw [zt]; rfl
 unfold zF;rw [e];exact xc w v L i x 0 _ 37 _ h.at (by decide) h.cw.roles (by decide) (fun n z kv w1 hb hk => zmY n z x  kv v ((i + 1 : Nat) : Int) (pB a) w1 hk ((h.p 0 (by simp) (i + 1) rfl).1.below hb) (Nat.le_trans (h.p 0 (by simp) (i + 1) rfl).2 (by decide)) h.bx)
theorem zm4 {a : Tr} (hb0 : b ≠ 0) (h : Kd M w v L i 37 x b [a]) : zF w v i 37 x b [a] := by
 have e : fB (.node 37 x b [a]) = pB a ++ x := by rw [zt]; exact if_neg hb0
 unfold zF;rw [e];exact xc w v L i x b _ 37 _ h.at (by decide) h.cw.roles (by decide) (fun n z kv w1 hb hk => zmU n z x b (beq_eq_false_iff_ne.2 hb0) kv v ((i + 1 : Nat) : Int) (pB a) w1 hk ((h.p 0 (by simp) (i + 1) rfl).1.below hb) (Nat.le_trans (h.p 0 (by simp) (i + 1) rfl).2 (by decide)) h.bx)
theorem zpB {a c : Tr} (h : Kd M w v L i 38 x b [a, c]) : zF w v i 38 x b [a, c] := by
 have e : fB (.node 38 x b [a, c]) = pB a ++ [32] ++ x ++ [32] ++ pB c := by rw [zt]; rfl
 unfold zF;rw [e];exact xc w v L i x b _ 38 _ h.at (by decide) h.cw.roles (by decide) (fun n z kv w1 hb hk => zon n z x b kv v ((i + 1 : Nat) : Int) ((i + 1 + (zp a).length : Nat) : Int) (pB a) (pB c) w1 hk ((h.p 0 (by simp) (i + 1) rfl).1.below hb) (Nat.le_trans (h.p 0 (by simp) (i + 1) rfl).2 (by decide)) ((h.p 1 (by simp) (i + 1 + (zp a).length) rfl).1.below hb) (Nat.le_trans (h.p 1 (by simp) (i + 1 + (zp a).length) rfl).2 (by decide)) h.bx)
theorem zpC {a c : Tr} (h : Kd M w v L i 39 x b [a, c]) : zF w v i 39 x b [a, c] := by
 have e : fB (.node 39 x b [a, c]) = pB a ++ [32] ++ x ++ [32] ++ pB c := by rw [zt]; rfl
 unfold zF;rw [e];exact xc w v L i x b _ 39 _ h.at (by decide) h.cw.roles (by decide) (fun n z kv w1 hb hk => zoo n z x b kv v ((i + 1 : Nat) : Int) ((i + 1 + (zp a).length : Nat) : Int) (pB a) (pB c) w1 hk ((h.p 0 (by simp) (i + 1) rfl).1.below hb) (Nat.le_trans (h.p 0 (by simp) (i + 1) rfl).2 (by decide)) ((h.p 1 (by simp) (i + 1 + (zp a).length) rfl).1.below hb) (Nat.le_trans (h.p 1 (by simp) (i + 1 + (zp a).length) rfl).2 (by decide)) h.bx)
theorem zpD {a c : Tr} (h : Kd M w v L i 41 x b [a, c]) : zF w v i 41 x b [a, c] := by
 have e : fB (.node 41 x b [a, c]) = pB a ++ [32] ++ x ++ [32] ++ pB c := by rw [zt]; rfl
 unfold zF;rw [e];exact xc w v L i x b _ 41 _ h.at (by decide) h.cw.roles (by decide) (fun n z kv w1 hb hk => zop n z x b kv v ((i + 1 : Nat) : Int) ((i + 1 + (zp a).length : Nat) : Int) (pB a) (pB c) w1 hk ((h.p 0 (by simp) (i + 1) rfl).1.below hb) (Nat.le_trans (h.p 0 (by simp) (i + 1) rfl).2 (by decide)) ((h.p 1 (by simp) (i + 1 + (zp a).length) rfl).1.below hb) (Nat.le_trans (h.p 1 (by simp) (i + 1 + (zp a).length) rfl).2 (by decide)) h.bx)
theorem zpE {a c d : Tr} (h : Kd M w v L i 40 x b [a, c, d]) : zF w v i 40 x b [a, c, d] := by
 have e : fB (.node 40 x b [a, c, d]) = pB a ++ [32, 63, 32] ++ pB c ++ [32, 58, 32] ++ pB d := by rw [zt]; rfl
 unfold zF;rw [e];exact xc w v L i x b _ 40 _ h.at (by decide) h.cw.roles (by decide) (fun n z kv w1 hb hk => zoq n z x b kv v ((i + 1 : Nat) : Int) ((i + 1 + (zp a).length : Nat) : Int) ((i + 1 + (zp a).length + (zp c).length : Nat) : Int) (pB a) (pB c) (pB d) w1 hk ((h.p 0 (by simp) (i + 1) rfl).1.below hb) (Nat.le_trans (h.p 0 (by simp) (i + 1) rfl).2 (by decide)) ((h.p 1 (by simp) (i + 1 + (zp a).length) rfl).1.below hb) (Nat.le_trans (h.p 1 (by simp) (i + 1 + (zp a).length) rfl).2 (by decide)) ((h.p 2 (by simp) (i + 1 + (zp a).length + (zp c).length) rfl).1.below hb) (Nat.le_trans (h.p 2 (by simp) (i + 1 + (zp a).length + (zp c).length) rfl).2 (by decide)) h.bx)
theorem zpF {a : Tr} {l : List Tr} (h : Kd M w v L i 34 x b (a :: l)) : zF w v i 34 x b (a :: l) := by
 have e : fB (.node 34 x b (a :: l)) = (pB a ++ [40] ++ zE (l.map pB) ++ [41]) := by rw [zt]; rfl
 have q := h.p 0 (by simp) (i + 1) rfl;have hp : ∀ r ∈ prs pB l (i + 1 + (zp a).length), CtF w 44 v r.1 r.2 := fun r hr => h.lp r (List.mem_cons_of_mem _ hr)
 have hw : wS l ≤ 406310000 := by have := uB h.cw h.sub h.len; rw [qC] at this; omega
 have hj := jF l;unfold zF;rw [e];refine xc w v L i x b _ 34 _ h.at (by decide) h.cw.roles (by decide) (fun n z kv w1 hb hk => ?_);have ha := q.2;have hb2 : (bs (pB a ++ [40] ++ zE (l.map pB) ++ [41])).size ≤ 1000000000 := by
  have e1 : (bs (pB a ++ [40] ++ zE (l.map pB) ++ [41])).size = (pB a).length + 1 + (zE (l.map pB)).length + 1 := by
   show (pB a ++ [40] ++ zE (l.map pB) ++ [41]).length = _
   simp only [List.length_append, List.length_cons, List.length_nil]
  have e2 : (bs (pB ((a :: l)[0]))).size = (pB a).length := rfl;omega
 have := zn5 n z x b kv v w1 ((i + 1 : Nat) : Int) (pB a) (prs pB l (i + 1 + (zp a).length)) (by rw [qE]; exact hk) (q.1.below hb) (fun r hr => (hp r hr).below hb) (by rw [qF]; have := h.few; simp at this; omega) (Nat.le_trans q.2 (by decide)) (by rw [yI]; omega) (by rw [yI]; exact hb2);rw [yI] at this;exact this
theorem zpG {a : Tr} {l : List Tr} (h : Kd M w v L i 35 x b (a :: l)) : zF w v i 35 x b (a :: l) := by
 have e : fB (.node 35 x b (a :: l)) = [110, 101, 119, 32] ++ (pB a ++ [40] ++ zE (l.map pB) ++ [41]) := by rw [zt]; rfl
 have q := h.p 0 (by simp) (i + 1) rfl;have hp : ∀ r ∈ prs pB l (i + 1 + (zp a).length), CtF w 44 v r.1 r.2 := fun r hr => h.lp r (List.mem_cons_of_mem _ hr)
 have hw : wS l ≤ 406310000 := by have := uB h.cw h.sub h.len; rw [qC] at this; omega
 have hj := jF l;unfold zF;rw [e];refine xc w v L i x b _ 35 _ h.at (by decide) h.cw.roles (by decide) (fun n z kv w1 hb hk => ?_);have ha := q.2;have hb2 : (bs (pB a ++ [40] ++ zE (l.map pB) ++ [41])).size ≤ 1000000000 := by
  have e1 : (bs (pB a ++ [40] ++ zE (l.map pB) ++ [41])).size = (pB a).length + 1 + (zE (l.map pB)).length + 1 := by
   show (pB a ++ [40] ++ zE (l.map pB) ++ [41]).length = _
   simp only [List.length_append, List.length_cons, List.length_nil]
  have e2 : (bs (pB ((a :: l)[0]))).size = (pB a).length := rfl;omega
 have := zn6 n z x b kv v w1 ((i + 1 : Nat) : Int) (pB a) (prs pB l (i + 1 + (zp a).length)) (by rw [qE]; exact hk) (q.1.below hb) (fun r hr => (hp r hr).below hb) (by rw [qF]; have := h.few; simp at this; omega) (Nat.le_trans q.2 (by decide)) (by rw [yI]; omega) (by rw [yI]; exact hb2);rw [yI] at this;exact this
end
end
theorem zip {M : Nat} {w : World} {v : Value} {L : List LN} {i : Nat} (k : Int) (x : List UInt8) (b : Int) (kids : List Tr) (h : zP k (kids.map fun t => zl t.kind) = true) (H : Kd M w v L i k x b kids) : zF w v i k x b kids := by
 obtain ⟨k0, k1⟩ := zdt h;obtain ⟨n, rfl⟩ : ∃ n : Nat, k = n := ⟨k.toNat, by omega⟩
 match n, k0, k1, h, H with
 | 0, k0, _, h, H =>
  exact absurd k0 (by decide)
 | 1, k0, _, h, H =>
  exact zra H
 | 2, k0, _, h, H =>
  exact zrb H
 | 3, k0, _, h, H =>
  exact zrc H
 | 4, k0, _, h, H =>
  have h2 : (if (kids.map fun t : Tr => zl t.kind).isEmpty = true then true else zw (kids.map fun t : Tr => zl t.kind) [4]) = true := h;by_cases he : (kids.map fun t : Tr => zl t.kind).isEmpty = true
  ·have e := xG he;subst e; exact zo9 H
  ·rw [if_neg he] at h2;obtain ⟨a, rfl, ra⟩ := xP h2;exact zpa H
 | 13, k0, _, h, H =>
  have h2 : (if (kids.map fun t : Tr => zl t.kind).isEmpty = true then true else zw (kids.map fun t : Tr => zl t.kind) [4]) = true := h;by_cases he : (kids.map fun t : Tr => zl t.kind).isEmpty = true
  ·have e := xG he;subst e; exact zm1 H
  ·rw [if_neg he] at h2;obtain ⟨a, rfl, ra⟩ := xP h2;exact zm2 H
 | 5, k0, _, h, H =>
  have e : kids = [] := xG h;subst e; exact zrd H
 | 6, k0, _, h, H =>
  obtain ⟨a, rfl, ra⟩ := xP (show zw (kids.map fun t : Tr => zl t.kind) [4] = true from h);exact zre H
 | 7, k0, _, h, H =>
  have h2 : (if (kids.map fun t : Tr => zl t.kind).length = 3 then zw (kids.map fun t : Tr => zl t.kind) [4, 2, 2] else zw (kids.map fun t : Tr => zl t.kind) [4, 2]) = true := h;split at h2
  ·obtain ⟨a, c, d, rfl, ra, rc, rd⟩ := zdu h2;exact zpe H
  ·obtain ⟨a, c, rfl, ra, rc⟩ := vm h2;exact zpd H
 | 8, k0, _, h, H =>
  obtain ⟨a, c, rfl, ra, rc⟩ := vm (show zw (kids.map fun t : Tr => zl t.kind) [4, 2] = true from h);exact zrf H
 | 9, k0, _, h, H =>
  obtain ⟨a, c, rfl, ra, rc⟩ := vm (show zw (kids.map fun t : Tr => zl t.kind) [2, 4] = true from h);exact zrg H
 | 10, k0, _, h, H =>
  obtain ⟨a, c, d, e, rfl, ra, rc, rd, re⟩ := zmL (show zw (kids.map fun t : Tr => zl t.kind) [16, 32, 32, 2] = true from h);exact zpf H
 | 11, k0, _, h, H =>
  have e : kids = [] := xG h;subst e; exact zpb H
 | 12, k0, _, h, H =>
  have e : kids = [] := xG h;subst e; exact zpc H
 | 14, k0, _, h, H =>
  obtain ⟨a, rfl, ra⟩ := xP (show zw (kids.map fun t : Tr => zl t.kind) [4] = true from h);exact zpg H
 | 15, k0, _, h, H =>
  exact zph H
 | 16, k0, _, h, H =>
  obtain ⟨a, rfl, ra⟩ := xP (show zw (kids.map fun t : Tr => zl t.kind) [64] = true from h);exact zpi H
 | 17, k0, _, h, H =>
  obtain ⟨a, rfl, ra⟩ := xP (show zw (kids.map fun t : Tr => zl t.kind) [64] = true from h);exact zpj H
 | 18, k0, _, h, H =>
  have h2 : (!(kids.map fun t : Tr => zl t.kind).isEmpty && (yt ((kids.map fun t : Tr => zl t.kind).take ((kids.map fun t : Tr => zl t.kind).length - 1)) 1024 && zw ((kids.map fun t : Tr => zl t.kind).drop ((kids.map fun t : Tr => zl t.kind).length - 1)) [2048])) = true := h;rw [List.length_map, ← List.map_take, ← List.map_drop, Bool.and_eq_true, Bool.and_eq_true] at h2;obtain ⟨a, ea, ra⟩ := xP h2.2.2;have e : kids = kids.take (kids.length - 1) ++ [a] := by rw [← ea, List.take_append_drop]
  rw [e] at H ⊢;exact zpm H
 | 31, k0, _, h, H =>
  have h2 : (!(kids.map fun t : Tr => zl t.kind).isEmpty && (yt ((kids.map fun t : Tr => zl t.kind).take ((kids.map fun t : Tr => zl t.kind).length - 1)) 1024 && zw ((kids.map fun t : Tr => zl t.kind).drop ((kids.map fun t : Tr => zl t.kind).length - 1)) [2048])) = true := h;rw [List.length_map, ← List.map_take, ← List.map_drop, Bool.and_eq_true, Bool.and_eq_true] at h2;obtain ⟨a, ea, ra⟩ := xP h2.2.2;have e : kids = kids.take (kids.length - 1) ++ [a] := by rw [← ea, List.take_append_drop]
  rw [e] at H ⊢;exact zpn H
 | 19, k0, _, h, H =>
  have e : kids = [] := xG h;subst e; exact zpk H
 | 21, k0, _, h, H =>
  have e : kids = [] := xG h;subst e; exact zpo H
 | 22, k0, _, h, H =>
  have e : kids = [] := xG h;subst e; exact zpp H
 | 23, k0, _, h, H =>
  have e : kids = [] := xG h;subst e; exact zpq H
 | 24, k0, _, h, H =>
  have e : kids = [] := xG h;subst e; exact zpr H
 | 25, k0, _, h, H =>
  have e : kids = [] := xG h;subst e; exact zps H
 | 26, k0, _, h, H =>
  have e : kids = [] := xG h;subst e; exact zpt H
 | 27, k0, _, h, H =>
  have e : kids = [] := xG h;subst e; exact zpu H
 | 20, k0, _, h, H =>
  exact zo8 H
 | 28, k0, _, h, H =>
  exact zpv H
 | 29, k0, _, h, H =>
  exact zpw H
 | 30, k0, _, h, H =>
  obtain ⟨a, rfl, ra⟩ := xP (show zw (kids.map fun t : Tr => zl t.kind) [4] = true from h);exact zpl H
 | 32, k0, _, h, H =>
  obtain ⟨a, rfl, ra⟩ := xP (show zw (kids.map fun t : Tr => zl t.kind) [4] = true from h);exact zpy H
 | 36, k0, _, h, H =>
  obtain ⟨a, rfl, ra⟩ := xP (show zw (kids.map fun t : Tr => zl t.kind) [4] = true from h);exact zpA H
 | 33, k0, _, h, H =>
  obtain ⟨a, c, rfl, ra, rc⟩ := vm (show zw (kids.map fun t : Tr => zl t.kind) [4, 4] = true from h);exact zpz H
 | 38, k0, _, h, H =>
  obtain ⟨a, c, rfl, ra, rc⟩ := vm (show zw (kids.map fun t : Tr => zl t.kind) [4, 4] = true from h);exact zpB H
 | 39, k0, _, h, H =>
  obtain ⟨a, c, rfl, ra, rc⟩ := vm (show zw (kids.map fun t : Tr => zl t.kind) [4, 4] = true from h);exact zpC H
 | 42, k0, _, h, H =>
  exact zpx H
 | 34, k0, _, h, H =>
  have h2 : (kids.map fun t : Tr => zl t.kind).isEmpty = false := by
   have this : (!(kids.map fun t : Tr => zl t.kind).isEmpty && yt (kids.map fun t : Tr => zl t.kind) 4) = true := h;rw [Bool.and_eq_true] at this
   simpa using this.1
  match kids, h2, H with
  | [], e, _ => cases e
  | a :: l, _, H => exact zpF H
 | 35, k0, _, h, H =>
  have h2 : (kids.map fun t : Tr => zl t.kind).isEmpty = false := by
   have this : (!(kids.map fun t : Tr => zl t.kind).isEmpty && yt (kids.map fun t : Tr => zl t.kind) 4) = true := h;rw [Bool.and_eq_true] at this
   simpa using this.1
  match kids, h2, H with
  | [], e, _ => cases e
  | a :: l, _, H => exact zpG H
 | 37, k0, _, h, H =>
  obtain ⟨a, rfl, ra⟩ := xP (show zw (kids.map fun t : Tr => zl t.kind) [8] = true from h);by_cases hb : b = 0
  ·subst hb; exact zm3 H
  ·exact zm4 hb H
 | 40, k0, _, h, H =>
  obtain ⟨a, c, d, rfl, ra, rc, rd⟩ := zdu (show zw (kids.map fun t : Tr => zl t.kind) [4, 4, 4] = true from h);exact zpE H
 | 41, k0, _, h, H =>
  obtain ⟨a, c, rfl, ra, rc⟩ := vm (show zw (kids.map fun t : Tr => zl t.kind) [8, 4] = true from h);exact zpD H
 | n + 43, _, k1, _, _ => omega
theorem zfO {M : Nat} {w : World} {v : Value} {L : List LN} (C : Cw M w v L) : ∀ (n : Nat) (t : Tr) (i : Nat), (zp t).length < n → okT t → lnN M t → Sub L i t → CtF w 28 v (i : Int) (fB t)
 | 0, t, i, h, _, _, _ => absurd h (Nat.not_lt_zero _)
 | n + 1, .node k x b kids, i, h, o, ln, hs => by
  intro w1 hb1;have ok := zdM o;have hln := zal _ ln;refine zip k x b kids ok.2.2.1 ⟨C.below hb1, hs, ln, fun j hj p hp => ?_⟩;obtain ⟨p', hp', hs'⟩ := hs.kids.2 j hj;have e : p = p' := by
   have : (zZ kids (i + 1))[j]? = some p' := hp';rw [hp] at this;injection this
  subst e;have hlt := zk (k := k) (x := x) (b := b) (List.getElem_mem hj);have l2 := zbA hln _ (List.getElem_mem hj);exact ⟨(zfO C n (kids[j]'hj) p (by omega) (zju o _ (List.getElem_mem hj)) l2 hs').below hb1, hs', l2⟩
theorem zcO (M : Nat) (w : World) (v : Value) (t : Tr) (C : Cw M w v (zp t)) (ok : okT t) (ln : lnN M t) (hk : t.kind = 1) (hh : htT t ≤ 60) :
  Calls Tryz.prog 12 #[v] w fun e w' => e = .returned (.tuple #[.string (bs (fB t)), .int .i64 0]) ∧ Below w.heap.size w w' := by
 have hfew := C.few;have hM := C.M1;have CK := za (zau w v t C.row (by omega) ok hk hh (zbm ln (by omega) (by omega)) C.roles);have FM := za (zfO C _ t 0 (Nat.lt_succ_self _) ok ln (Sub.self t));clear C ok ln hk hh;generalize fB t = T at *
 go_enter Tryz.func12, Tryz.ntmps12
 go_wp2_with fail;refine CK.out.mono ?_;rintro e w1 ⟨rfl, hB⟩;have HB := za hB;clear hB;go_wp2_with fail;refine (FM.out w1 HB.out).mono ?_;rintro e w2 ⟨rfl, hB2⟩;have HB2 := za (yc HB.out hB2);clear hB2;go_wp2_with fail;go_ret2;exact ⟨rfl, HB2.out⟩
def zkL : List Tk := [⟨1, 0, [97], 0⟩, ⟨5, 1, [43], 0⟩, ⟨1, 2, [98], 0⟩, ⟨5, 3, [42], 0⟩, ⟨3, 4, [], 4611686018427387904⟩, ⟨5, 5, [59], 0⟩]
def zkK : List Tr := [nd 6 [] [nd 38 [43] [.node 27 [97] 0 [], nd 38 [42] [.node 27 [98] 0 [], .node 21 [] 4611686018427387904 []]]]]
theorem znA : yQ [97, 43, 98, 42, 50, 59] = .ok zkL := by kernel_rfl
theorem zro : Q 6 60 .program zkL = some (.ok (bag zkK, [])) := by kernel_rfl
theorem zp2 : Out [97, 43, 98, 42, 50, 59] (.ok (nd 1 [] zkK)) := by
 unfold Out;rw [znA];exact ⟨_, D.of zro, rfl, rfl⟩
theorem znB {r : Except (Int × Int) Tr} (h : Out [97, 43, 98, 42, 50, 59] r) : r = .ok (nd 1 [] zkK) := h.det zp2
theorem znC : vZ 4611686018427387904 = [50] := by
 have e : (4611686018427387904 : Int) = ofI ((2 : Nat) : Int) := by kernel_rfl
 unfold vZ;rw [e, jo (u := 2) (by decide)];first
  | kernel_rfl
  | (rw [Lib.decDigits]; rfl)
  | simp [Lib.decDigits]
  | decide
theorem zlV : fB (nd 1 [] zkK) = [40, 97, 32, 43, 32, 40, 98, 32, 42, 32, 50, 41, 41, 59, 10] := by
 have h := znC;generalize e4 : (4611686018427387904 : Int) = n at h;have a1 : fB (.node 27 [97] 0 []) = [97] := by rw [zt]; rfl
 have a2 : fB (.node 27 [98] 0 []) = [98] := by rw [zt]; rfl
 have a3 : fB (.node 21 [] n []) = [50] := by rw [zt]; exact h
 have p1 : pB (.node 27 [97] 0 []) = [97] := by unfold pB; rw [a1]; rfl
 have p2 : pB (.node 27 [98] 0 []) = [98] := by unfold pB; rw [a2]; rfl
 have p3 : pB (.node 21 [] n []) = [50] := by unfold pB; rw [a3]; rfl
 have b1 : fB (nd 38 [42] [.node 27 [98] 0 [], .node 21 [] n []]) = [98, 32, 42, 32, 50] := by
  unfold nd; rw [zt];simp only [List.map_cons, List.map_nil, a2, a3, p2, p3]; rfl
 have p4 : pB (nd 38 [42] [.node 27 [98] 0 [], .node 21 [] n []]) = [40, 98, 32, 42, 32, 50, 41] := by unfold pB; rw [b1]; rfl
 have b2 : fB (nd 38 [43] [.node 27 [97] 0 [], nd 38 [42] [.node 27 [98] 0 [], .node 21 [] n []]]) = [97, 32, 43, 32, 40, 98, 32, 42, 32, 50, 41] := by
  conv => lhs; unfold nd
  rw [zt];simp only [List.map_cons, List.map_nil, a1, p1];show zbG _ _ _ _ [_, pB (nd 38 [42] [.node 27 [98] 0 [], .node 21 [] n []])] _ = _
  rw [p4]; rfl
 have b3 : fB (nd 6 [] [nd 38 [43] [.node 27 [97] 0 [], nd 38 [42] [.node 27 [98] 0 [], .node 21 [] n []]]]) = [40, 97, 32, 43, 32, 40, 98, 32, 42, 32, 50, 41, 41, 59] := by
  show fB (.node 6 [] 0 _) = _
  rw [zt];show [40] ++ fB (nd 38 [43] [.node 27 [97] 0 [], nd 38 [42] [.node 27 [98] 0 [], .node 21 [] n []]]) ++ [41, 59] = _
  rw [b2]; rfl
 show fB (.node 1 [] 0 zkK) = _
 rw [zt];unfold zkK;rw [e4];show yw [10] [fB (nd 6 [] [nd 38 [43] [.node 27 [97] 0 [], nd 38 [42] [.node 27 [98] 0 [], .node 21 [] n []]]])] = _
 rw [b3]; rfl
theorem zkM {w : World} {v : Value} {t : Tr} (h : xf w v (zp t)) (hl : (zp t).length ≤ 4097) (ht : Bt.tab w) (hr : qR w) : Cw 16500 w v (zp t) :=
 ⟨h, by omega, fun l hm => by have := zbV t l hm; exact ⟨by omega, by omega⟩, ht, hr, by decide, by decide⟩
theorem ziu (w : World) (hm : MLw w) (ht : Bt.tab w) (hr : qR w) : Calls Tryz.prog 15 #[] w fun e w' => e = .returned (.bool true) ∧ Below w.heap.size w w' := by
 have T := za (zat ⟨#[97, 43, 98, 42, 50, 59]⟩ (by decide) w hm ht);have HT := za ht;have HR := za hr;clear hm ht hr
 go_enter Tryz.func15, Tryz.ntmps15
 go_wp2_with fail;refine T.out.mono ?_; rintro e w1 ⟨r, h1, h2⟩;have hr := znB h1;subst hr;obtain ⟨ok, ln, hk, hh⟩ := zb4 h1;obtain ⟨v, rfl, hW, hl, hB⟩ := h2;have hN := xf.own hW;have hC := zkM hN hl (Bt.tab_below HT.out hB) (HR.out.below hB);have P := za (zcO 16500 w1 v _ hC ok ln hk hh);rw [zlV] at P;have K := za (fun (w2 : World) (hb : Below w1.heap.size w1 w2) => zau w2 v _ (hN.below hb) (by omega) ok hk hh (zbm ln (by decide) (by omega)) (hC.roles.below hb));have HB := za hB;clear hB h1 hW hN hC ok ln hk hh hl;go_wp2_with fail;refine P.out.mono ?_; rintro e w2 ⟨rfl, hB2⟩;have HB2 := za hB2;clear hB2;go_wp2_with fail;refine (K.out w2 HB2.out).mono ?_; rintro e w3 ⟨rfl, hB3⟩;have HB3 := za (zY HB2.out hB3 HB2.out.size);clear hB3;have hq : ((bs [40, 97, 32, 43, 32, 40, 98, 32, 42, 32, 50, 41, 41, 59, 10]).toList == [40, 97, 32, 43, 32, 40, 98, 32, 42, 32, 50, 41, 41, 59, 10]) = true := zQ rfl;go_wp2_with fail;go_ret;exact ⟨rfl, zY HB.out HB3.out HB.out.size⟩
theorem zmD (l : List UInt8) : (bs l).data.toList = l := rfl
theorem zku (l : List UInt8) : (bs l).size = l.length := rfl
theorem zkZ {t : Tr} (ln : lnN 16500 t) (hl : (zp t).length ≤ 4097) : zaQ (LI (zp t)) := zbm ln (by decide) (by omega)
theorem law_ShowBack (s : ByteArray) (hs : s.size ≤ 9223372036854775807) (w : World) (hm : MLw w) (ht : Bt.tab w) (hr : qR w) :
  Calls Tryz.prog 4 #[.string s] w fun e w' => e = .returned (.bool true) ∧ Below w.heap.size w w' := by
 have hz := zjD s 1500
 go_enter Tryz.func4, Tryz.ntmps4
 go_wp2_with fail;generalize s.extract 0 (min (s.size : Int) 1500).toNat = x at *;have hz' : x.size ≤ 1500 := hz;have T := za (zat x (by omega) w hm ht);have WK := za (fun w' (hb : Below w.heap.size w w') => ziu w' (hm.below hb) (Bt.tab_below ht hb) (hr.below hb));have HM := za hm;have HT := za ht;have HR := za hr;clear hz hm ht hr;refine T.out.mono ?_; rintro e w1 ⟨r, h1, h2⟩;rcases r with ⟨a, c⟩ | t
 ·obtain ⟨rfl, hB⟩ := h2;obtain ⟨q1, q2, q3, q4⟩ := zk9 h1;rw [zL] at q4;have hc1 : (c != 0) = true := bne_iff_ne.2 (by omega);have HB := za hB;clear hB h1;go_wp2_with fail;refine (WK.out _ HB.out).mono ?_; rintro e w2 ⟨rfl, hB2⟩;have HB2 := za hB2;clear hB2;go_wp2_with fail;go_ret;exact ⟨rfl, zY HB.out HB2.out HB.out.size⟩
 ·obtain ⟨ok, ln, hk, hh⟩ := zb4 h1;have BACK := za (fun hl => zi6 h1 hl);obtain ⟨v, rfl, hW, hl, hB⟩ := h2;have hN := xf.own hW;have hC := zkM hN hl (Bt.tab_below HT.out hB) (HR.out.below hB);have P := za (fun (w2 : World) (hb : Below w1.heap.size w1 w2) => zcO 16500 w2 v t (hC.below hb) ok ln hk hh);have K := za (zau w1 v t hN (by omega) ok hk hh (zkZ ln hl) hC.roles);have HB := za hB;have SM := za (fun (w3 : World) (va : Value) (h : Below w1.heap.size w1 w3) (ha : NRo w3 va (zp t)) => zjh w3 va v (zp t) ha (hN.below h).ro (by omega));have PS := za (fun (w2 : World) (hb : Below w.heap.size w w2) (hlen : (fB t).length ≤ 4096) => zat (bs (fB t)) (by rw [zku]; omega) w2 (HM.out.below hb) (Bt.tab_below HT.out hb));rw [zmD] at PS;have FL := za (zkz hC (Sub.self t) ln);clear hB h1 hW hC ok ln hk hh;clear hN;go_wp2_with fail;refine K.out.mono ?_; rintro e w2 ⟨rfl, hB2⟩;have HB2 := za hB2;have HB02 := za (zY HB.out hB2 HB.out.size);clear hB2;go_wp2_with fail;refine (P.out w2 HB2.out).mono ?_; rintro e w3 ⟨rfl, hB3⟩;have HB3 := za (zY HB2.out hB3 HB2.out.size);have HB03 := za (zY HB02.out hB3 HB02.out.size);clear hB3;have hfs : (fB t).length ≤ 406310000 := FL.out;have hbz := zku (fB t);by_cases hlen : (fB t).length ≤ 4096
  ·have PS1 := za (PS.out w3 HB03.out hlen);have BK := za (BACK.out hlen);generalize fB t = F at *;go_wp2_with fail;refine PS1.out.mono ?_; rintro e w4 ⟨r, h1, h2⟩;have hr := h1.det BK.out;subst hr;obtain ⟨v2, rfl, hW2, hl2, hB4⟩ := h2;have HN2 := za (xf.own hW2);have HB4 := za (zY HB3.out hB4 HB3.out.size);have HB04 := za (zY HB03.out hB4 HB03.out.size);clear hB4 hW2 h1;go_wp2_with fail;refine (SM.out w4 v2 HB4.out HN2.out.ro).mono ?_; rintro e w5 ⟨rfl, hB5⟩;have HB05 := za (zY HB04.out hB5 HB04.out.size);clear hB5;go_wp2_with fail;refine (WK.out _ HB05.out).mono ?_; rintro e w6 ⟨rfl, hB6⟩;have HB06 := za (zY HB05.out hB6 HB05.out.size);clear hB6;go_wp2_with fail;go_ret;exact ⟨rfl, HB06.out⟩
  ·generalize fB t = F at *;go_wp2_with fail;refine (WK.out _ HB03.out).mono ?_; rintro e w6 ⟨rfl, hB6⟩;have HB06 := za (zY HB03.out hB6 HB03.out.size);clear hB6;go_wp2_with fail;go_ret;exact ⟨rfl, HB06.out⟩
end Go.Proofs.YtfcgpphodacdmaaGreatDoor
