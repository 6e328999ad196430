/- Part of a proof: contracts of functions. -/
import Derived.Test.YtfcgpphodacdmaaGreatDoorY16
import Derived.Test.YtfcgpphodacdmaaGreatDoorY1
import Derived.Test.YtfcgpphodacdmaaGreatDoorY13
import Derived.Test.YtfcgpphodacdmaaGreatDoorY3
set_option maxRecDepth 100000
set_option maxHeartbeats 4000000
set_option linter.all false
namespace Go.Proofs.YtfcgpphodacdmaaGreatDoor
open Go.RowKit
def SRo (w : World) (v : Value) (L : List (List UInt8)) : Prop :=
 (L = [] ∧ ∃ ao cap, v = .slice ao 0 cap) ∨ ∃ g o cap, g < w.heap.size ∧ L.length ≤ cap ∧ v = .slice (some ⟨g, o, none⟩) L.length cap ∧ ∀ (i : Nat) (h : i < L.length), w.cell? ⟨g, o + i, none⟩ = some (.string (bs L[i]))
theorem SRo.below {w w' : World} {v : Value} {L : List (List UInt8)} (h : SRo w v L) (hb : Below w.heap.size w w') : SRo w' v L := by
 rcases h with h | ⟨g, o, cap, hg, hcap, hv, hc⟩
 ·exact .inl h
 ·exact .inr ⟨g, o, cap, Nat.lt_of_lt_of_le hg hb.size, hcap, hv, fun i hi => (hb.cell (p := ⟨g, _, none⟩) hg).trans (hc i hi)⟩
theorem SRo.slice {w : World} {v : Value} {L : List (List UInt8)} (h : SRo w v L) : ∃ ao cap, v = .slice ao L.length cap := by
 rcases h with ⟨rfl, ao, cap, h⟩ | ⟨g, o, cap, _, _, h, _⟩
 ·exact ⟨ao, cap, h⟩
 ·exact ⟨_, cap, h⟩
theorem SRo.get {w : World} {ao : Option Addr} {cap : Nat} {L : List (List UInt8)} (h : SRo w (.slice ao L.length cap) L) (hl : 0 < L.length) : ∃ g o, ao = some ⟨g, o, none⟩ ∧ g < w.heap.size ∧ L.length ≤ cap ∧ ∀ (i : Nat) (h : i < L.length), w.cell? ⟨g, o + i, none⟩ = some (.string (bs L[i])) := by
 rcases h with ⟨h, _⟩ | ⟨g, o, cap', hg, hcap, hv, hc⟩
 ·rw [h] at hl; exact absurd hl (Nat.lt_irrefl 0)
 ·injection hv with h1 _ h2;subst h2;exact ⟨g, o, h1, hg, hcap, hc⟩
theorem SRo.lit (w : World) (L : List (List UInt8)) (t : TypeId) (n : Nat) (hn : n = L.length) : SRo (w.alloc (.cells (L.map fun x => Value.string (bs x)).toArray t)) (.slice (some ⟨w.heap.size, 0, none⟩) n n) L := by
 subst hn;refine .inr ⟨w.heap.size, 0, L.length, by simp, zd _, rfl, fun i hi => ?_⟩;rw [zR]; simp [hi]
theorem yc {w a b : World} (h : Below w.heap.size w a) (g : Below a.heap.size a b) : Below w.heap.size w b := h.trans (g.mono h.size)
theorem zmW (x y : List UInt8) : ((bs x).toList == (bs y).toList) = decide (x = y) := by
 rw [yZ, zj, Lib.toList_data, zj]
theorem zhH (w : World) (v : Value) (L : List (List UInt8)) (x : List UInt8) (h : SRo w v L) (hl : L.length ≤ 1000000) :
  Calls Tryz.prog 150 #[v, .string (bs x)] w fun e w' => (∃ z : Int, e = .returned (.int .i64 z) ∧ decide (0 ≤ z) = L.contains x) ∧ Below w.heap.size w w' := by
 obtain ⟨ao, cp, rfl⟩ := h.slice;have HN := za h;clear h;obtain ⟨G, hG⟩ : ∃ G, G = L.contains x := ⟨_, rfl⟩;rw [← hG];have HG := za hG;clear hG
 go_enter Tryz.func150, Tryz.ntmps150
 go_wp2_with fail
 go_loopg [5, 8] L.length (fun gg kk ii wr => ∃ i : Nat, ii = .int .i64 (i : Int) ∧ gg = L.length - i ∧ i ≤ L.length ∧ Hid (Below w.heap.size w wr) ∧ Hid (G = (L.drop i).contains x))
 case atStart => exact ⟨0, rfl, rfl, Nat.zero_le _, ze _ _, HG.out⟩
 case round =>
  obtain ⟨i, rfl, rfl, hi, HB, HGG⟩ := hrel;by_cases hlt : i < L.length
  ·obtain ⟨g, o, rfl, hg, hcap, hc⟩ := (HN.out.below HB.out).get (by omega);have c0 := hc i hlt;have ht := zmW x L[i];have hgg := HGG.out;have hdr : L.drop i = L[i] :: L.drop (i + 1) := List.drop_eq_getElem_cons hlt;rw [hdr, List.contains_cons] at hgg;generalize L[i] = q at *;by_cases hq : x = q
   ·have hb : (x == q) = true := beq_iff_eq.2 hq;have ht' : ((bs x).toList == (bs q).toList) = true := by rw [ht]; exact decide_eq_true hq
    rw [hb, Bool.true_or] at hgg;subst hgg;clear ht hc hdr hb hq;go_wp2_with fail;go_ret;exact ⟨⟨_, rfl, by simp⟩, HB.out⟩
   ·have hb : (x == q) = false := beq_eq_false_iff_ne.2 hq;have ht' : ((bs x).toList == (bs q).toList) = false := by rw [ht]; exact decide_eq_false hq
    rw [hb, Bool.false_or] at hgg;have HG3 := za hgg;clear ht hc hdr hb hq hgg;go_wp2_with fail
    go_roundg (L.length - (i + 1))
    case measure => omega
    case rel => exact ⟨i + 1, by simp, rfl, hlt, HB.out, HG3.out⟩
  ·have he : i = L.length := by omega
   subst he;have hgg := HGG.out;rw [List.drop_length] at hgg;have hgf : G = false := hgg;clear hgg;subst hgf;go_wp2_with fail;go_ret;exact ⟨⟨_, rfl, by decide⟩, HB.out⟩
theorem ve (w : World) (v : Value) (L : List (List UInt8)) (x : List UInt8) (h : SRo w v L) (hl : L.length ≤ 1000000) :
  Calls Tryz.prog 98 #[v, .string (bs x)] w fun e w' => e = .returned (.bool (L.contains x)) ∧ Below w.heap.size w w' := by
 have T := za (zhH w v L x h hl);obtain ⟨ao, cp, rfl⟩ := h.slice;clear h;generalize L.contains x = G at *
 go_enter Tryz.func98, Tryz.ntmps98
 go_wp2_with fail;refine T.out.mono ?_;rintro e w1 ⟨⟨z, rfl, hz⟩, hB⟩;have HZ := za hz;have HB := za hB;clear hz hB;go_wp2_with fail;go_ret;exact ⟨by rw [← HZ.out]; first | done | rfl, HB.out⟩
theorem zjl (w : World) : Calls Tryz.prog 99 #[.int .i64 36] w fun e w' => ∃ v, e = .returned v ∧ SRo w' v yg ∧ Below w.heap.size w w' := by
 go_enter Tryz.func99, Tryz.ntmps99
 go_wp2_with fail;go_ret;exact ⟨_, rfl, SRo.lit w yg _ 7 rfl, (ze _ _).alloc (zd _) _⟩
theorem zjm (w : World) : Calls Tryz.prog 99 #[.int .i64 37] w fun e w' => ∃ v, e = .returned v ∧ SRo w' v yG ∧ Below w.heap.size w w' := by
 go_enter Tryz.func99, Tryz.ntmps99
 go_wp2_with fail;go_ret;exact ⟨_, rfl, SRo.lit w yG _ 2 rfl, (ze _ _).alloc (zd _) _⟩
theorem zjn (w : World) : Calls Tryz.prog 99 #[.int .i64 38] w fun e w' => ∃ v, e = .returned v ∧ SRo w' v jf ∧ Below w.heap.size w w' := by
 go_enter Tryz.func99, Tryz.ntmps99
 go_wp2_with fail;go_ret;exact ⟨_, rfl, SRo.lit w jf _ 19 rfl, (ze _ _).alloc (zd _) _⟩
theorem zjo (w : World) : Calls Tryz.prog 99 #[.int .i64 39] w fun e w' => ∃ v, e = .returned v ∧ SRo w' v jg ∧ Below w.heap.size w w' := by
 go_enter Tryz.func99, Tryz.ntmps99
 go_wp2_with fail;go_ret;exact ⟨_, rfl, SRo.lit w jg _ 2 rfl, (ze _ _).alloc (zd _) _⟩
theorem zjp (w : World) : Calls Tryz.prog 99 #[.int .i64 41] w fun e w' => ∃ v, e = .returned v ∧ SRo w' v xy ∧ Below w.heap.size w w' := by
 go_enter Tryz.func99, Tryz.ntmps99
 go_wp2_with fail;go_ret;exact ⟨_, rfl, SRo.lit w xy _ 12 rfl, (ze _ _).alloc (zd _) _⟩
theorem zgr (k n z : Int) (x : List UInt8) (b : Int) (h0 : 0 ≤ b) (h1 : b < 18446744073709551616) (w : World) :
  Calls Tryz.prog 63 #[.agg #[.int .i64 k, .int .i64 n, .int .i64 z, .string (bs x), .int .u64 b]] w fun e w' => e = .returned (.bool (ue k b)) ∧ Below w.heap.size w w' := by
 have hal : Below w.heap.size w (w.alloc (.cells #[.int .i64 k, .int .i64 n, .int .i64 z, .string (bs x), .int .u64 b] 40)) := (ze _ _).alloc (zd _) _;have HAL := za hal;clear hal;by_cases k1 : k = 21
 ·subst k1;have WH := za (Bt.whole_any b h0 h1);have OF := za (fun n w => zhj n w);obtain ⟨G, hG⟩ : ∃ G, G = ue 21 b := ⟨_, rfl⟩;rw [← hG];have hG2 : G = (Bt.wholeB b && (decide (0 ≤ Bt.wholeV b) && b == ofI (Bt.wholeV b))) := hG;clear hG;generalize Bt.wholeB b = q at *;generalize Bt.wholeV b = m at *;have HG := za hG2;clear hG2;cases q
  ·go_enter Tryz.func63, Tryz.ntmps63
   go_wp2_with fail;refine (WH.out _).mono ?_;rintro e w1 ⟨rfl, rfl⟩;go_wp2_with fail
   go_quiet (fail)
   all_goals
    go_wp2_with fail;go_ret;exact ⟨by rw [HG.out]; first | done | rfl, by first | exact HAL.out | exact HAL.out.drew | exact below_drewN HAL.out _⟩
  ·by_cases hm : 0 ≤ m
   ·have hd : decide (0 ≤ m) = true := decide_eq_true hm
    go_enter Tryz.func63, Tryz.ntmps63
    go_wp2_with fail;refine (WH.out _).mono ?_;rintro e w1 ⟨rfl, rfl⟩;go_wp2_with fail
    go_region_with (go_at_call 101; refine (OF.out _ _).mono ?_; rintro e w1 ⟨rfl, rfl⟩)
    all_goals
     go_wp2_with fail;go_ret;exact ⟨by rw [HG.out, hd]; first | done | rfl, by first | exact HAL.out | exact HAL.out.drew | exact below_drewN HAL.out _⟩
   ·have hd : decide (0 ≤ m) = false := decide_eq_false hm;have hm2 : m < 0 := by omega
    go_enter Tryz.func63, Tryz.ntmps63
    go_wp2_with fail;refine (WH.out _).mono ?_;rintro e w1 ⟨rfl, rfl⟩;go_wp2_with fail
    go_quiet (fail)
    all_goals
     go_wp2_with fail;go_ret;exact ⟨by rw [HG.out, hd]; first | done | rfl, by first | exact HAL.out | exact HAL.out.drew | exact below_drewN HAL.out _⟩
 ·have e1 : (k == 21) = false := beq_eq_false_iff_ne.2 k1;by_cases k2 : k = 37
  ·subst k2
   go_enter Tryz.func63, Tryz.ntmps63
   go_wp2_with fail;go_ret;exact ⟨rfl, HAL.out⟩
  ·have e2 : (k == 37) = false := beq_eq_false_iff_ne.2 k2;have e : ue k b = (b == 0) := by unfold ue; rw [if_neg k1, if_neg k2]
   rw [e];clear e k1 k2
   go_enter Tryz.func63, Tryz.ntmps63
   go_wp2_with fail;go_ret;exact ⟨rfl, HAL.out⟩
theorem zqv (n z : Int) (x : List UInt8) (b : Int) (hx : x.length ≤ 1000000) (w : World) :
  Calls Tryz.prog 62 #[.agg #[.int .i64 4, .int .i64 n, .int .i64 z, .string (bs x), .int .u64 b]] w fun e w' => e = .returned (.bool (yB 4 x)) ∧ Below w.heap.size w w' := by
 have hal : Below w.heap.size w (w.alloc (.cells #[.int .i64 4, .int .i64 n, .int .i64 z, .string (bs x), .int .u64 b] 40)) := (ze _ _).alloc (zd _) _;have HAL := za hal;have hx2 : (bs x).size ≤ 1000000 := hx;have NA := za (fun w => vf (bs x) hx2 w);clear hal;show Calls _ _ _ _ fun e w' => e = .returned (.bool (yC x)) ∧ Below w.heap.size w w'
 go_enter Tryz.func62, Tryz.ntmps62
 go_wp2_with fail;refine (NA.out _).mono ?_;rintro e w1 ⟨rfl, rfl⟩;go_wp2_with fail;go_ret;exact ⟨rfl, HAL.out⟩
theorem zoO (n z : Int) (x : List UInt8) (b : Int) (hx : x.length ≤ 1000000) (w : World) :
  Calls Tryz.prog 62 #[.agg #[.int .i64 16, .int .i64 n, .int .i64 z, .string (bs x), .int .u64 b]] w fun e w' => e = .returned (.bool (yB 16 x)) ∧ Below w.heap.size w w' := by
 have hal : Below w.heap.size w (w.alloc (.cells #[.int .i64 16, .int .i64 n, .int .i64 z, .string (bs x), .int .u64 b] 40)) := (ze _ _).alloc (zd _) _;have HAL := za hal;have hx2 : (bs x).size ≤ 1000000 := hx;have NA := za (fun w => vf (bs x) hx2 w);clear hal;show Calls _ _ _ _ fun e w' => e = .returned (.bool (yC x)) ∧ Below w.heap.size w w'
 go_enter Tryz.func62, Tryz.ntmps62
 go_wp2_with fail;refine (NA.out _).mono ?_;rintro e w1 ⟨rfl, rfl⟩;go_wp2_with fail;go_ret;exact ⟨rfl, HAL.out⟩
theorem zoP (n z : Int) (x : List UInt8) (b : Int) (hx : x.length ≤ 1000000) (w : World) :
  Calls Tryz.prog 62 #[.agg #[.int .i64 18, .int .i64 n, .int .i64 z, .string (bs x), .int .u64 b]] w fun e w' => e = .returned (.bool (yB 18 x)) ∧ Below w.heap.size w w' := by
 have hal : Below w.heap.size w (w.alloc (.cells #[.int .i64 18, .int .i64 n, .int .i64 z, .string (bs x), .int .u64 b] 40)) := (ze _ _).alloc (zd _) _;have HAL := za hal;have hx2 : (bs x).size ≤ 1000000 := hx;have NA := za (fun w => vf (bs x) hx2 w);clear hal;show Calls _ _ _ _ fun e w' => e = .returned (.bool (yC x)) ∧ Below w.heap.size w w'
 go_enter Tryz.func62, Tryz.ntmps62
 go_wp2_with fail;refine (NA.out _).mono ?_;rintro e w1 ⟨rfl, rfl⟩;go_wp2_with fail;go_ret;exact ⟨rfl, HAL.out⟩
theorem zoQ (n z : Int) (x : List UInt8) (b : Int) (hx : x.length ≤ 1000000) (w : World) :
  Calls Tryz.prog 62 #[.agg #[.int .i64 19, .int .i64 n, .int .i64 z, .string (bs x), .int .u64 b]] w fun e w' => e = .returned (.bool (yB 19 x)) ∧ Below w.heap.size w w' := by
 have hal : Below w.heap.size w (w.alloc (.cells #[.int .i64 19, .int .i64 n, .int .i64 z, .string (bs x), .int .u64 b] 40)) := (ze _ _).alloc (zd _) _;have HAL := za hal;have hx2 : (bs x).size ≤ 1000000 := hx;have NA := za (fun w => vf (bs x) hx2 w);clear hal;show Calls _ _ _ _ fun e w' => e = .returned (.bool (yC x)) ∧ Below w.heap.size w w'
 go_enter Tryz.func62, Tryz.ntmps62
 go_wp2_with fail;refine (NA.out _).mono ?_;rintro e w1 ⟨rfl, rfl⟩;go_wp2_with fail;go_ret;exact ⟨rfl, HAL.out⟩
theorem zoR (n z : Int) (x : List UInt8) (b : Int) (hx : x.length ≤ 1000000) (w : World) :
  Calls Tryz.prog 62 #[.agg #[.int .i64 27, .int .i64 n, .int .i64 z, .string (bs x), .int .u64 b]] w fun e w' => e = .returned (.bool (yB 27 x)) ∧ Below w.heap.size w w' := by
 have hal : Below w.heap.size w (w.alloc (.cells #[.int .i64 27, .int .i64 n, .int .i64 z, .string (bs x), .int .u64 b] 40)) := (ze _ _).alloc (zd _) _;have HAL := za hal;have hx2 : (bs x).size ≤ 1000000 := hx;have NA := za (fun w => vf (bs x) hx2 w);clear hal;show Calls _ _ _ _ fun e w' => e = .returned (.bool (yC x)) ∧ Below w.heap.size w w'
 go_enter Tryz.func62, Tryz.ntmps62
 go_wp2_with fail;refine (NA.out _).mono ?_;rintro e w1 ⟨rfl, rfl⟩;go_wp2_with fail;go_ret;exact ⟨rfl, HAL.out⟩
theorem zoS (n z : Int) (x : List UInt8) (b : Int) (hx : x.length ≤ 1000000) (w : World) :
  Calls Tryz.prog 62 #[.agg #[.int .i64 31, .int .i64 n, .int .i64 z, .string (bs x), .int .u64 b]] w fun e w' => e = .returned (.bool (yB 31 x)) ∧ Below w.heap.size w w' := by
 have hal : Below w.heap.size w (w.alloc (.cells #[.int .i64 31, .int .i64 n, .int .i64 z, .string (bs x), .int .u64 b] 40)) := (ze _ _).alloc (zd _) _;have HAL := za hal;have hx2 : (bs x).size ≤ 1000000 := hx;have NA := za (fun w => vf (bs x) hx2 w);clear hal;by_cases h0 : x = []
 ·subst h0;have hs : ((bs []).toList == ([] : List UInt8)) = true := zQ rfl
  go_enter Tryz.func62, Tryz.ntmps62
  go_wp2_with fail;go_ret;exact ⟨rfl, HAL.out⟩
 ·have e : yB 31 x = yC x := by unfold yB; rw [if_neg (fun h => h0 h.2), if_pos (.inl rfl)]
  have hs : ((bs x).toList == ([] : List UInt8)) = false := zh h0;rw [e];clear e h0
  go_enter Tryz.func62, Tryz.ntmps62
  go_wp2_with fail;refine (NA.out _).mono ?_;rintro e w1 ⟨rfl, rfl⟩;go_wp2_with fail;go_ret;exact ⟨rfl, HAL.out⟩
theorem zoT (n z : Int) (x : List UInt8) (b : Int) (hx : x.length ≤ 1000000) (w : World) :
  Calls Tryz.prog 62 #[.agg #[.int .i64 32, .int .i64 n, .int .i64 z, .string (bs x), .int .u64 b]] w fun e w' => e = .returned (.bool (yB 32 x)) ∧ Below w.heap.size w w' := by
 have hal : Below w.heap.size w (w.alloc (.cells #[.int .i64 32, .int .i64 n, .int .i64 z, .string (bs x), .int .u64 b] 40)) := (ze _ _).alloc (zd _) _;have HAL := za hal;have hx2 : (bs x).size ≤ 1000000 := hx;have NA := za (fun w => vf (bs x) hx2 w);have WO := za (fun w => zbc (bs x) w);clear hal;show Calls _ _ _ _ fun e w' => e = .returned (.bool (yC x || zV x)) ∧ Below w.heap.size w w'
 obtain ⟨G, hG⟩ : ∃ G, G = (yC x || zV x) := ⟨_, rfl⟩;rw [← hG];have hn : yC (bs x).data.toList = yC x := rfl;have hw : zV (bs x).data.toList = zV x := rfl;rw [← hn, ← hw] at hG;clear hn hw;generalize yC (bs x).data.toList = p at *;generalize zV (bs x).data.toList = q at *;have HG := za hG;clear hG;cases p
 ·go_enter Tryz.func62, Tryz.ntmps62
  go_wp2_with fail;refine (NA.out _).mono ?_;rintro e w1 ⟨rfl, rfl⟩;go_wp2_with fail;refine (WO.out _).mono ?_;rintro e w1 ⟨rfl, rfl⟩;go_wp2_with fail;go_ret;exact ⟨by rw [HG.out]; first | done | rfl, HAL.out⟩
 ·go_enter Tryz.func62, Tryz.ntmps62
  go_wp2_with fail;refine (NA.out _).mono ?_;rintro e w1 ⟨rfl, rfl⟩;go_wp2_with fail;go_ret;exact ⟨by rw [HG.out]; first | done | rfl, HAL.out⟩
theorem zoU (n z : Int) (x : List UInt8) (b : Int) (hx : x.length ≤ 1000000) (w : World) :
  Calls Tryz.prog 62 #[.agg #[.int .i64 22, .int .i64 n, .int .i64 z, .string (bs x), .int .u64 b]] w fun e w' => e = .returned (.bool (yB 22 x)) ∧ Below w.heap.size w w' := by
 have hal : Below w.heap.size w (w.alloc (.cells #[.int .i64 22, .int .i64 n, .int .i64 z, .string (bs x), .int .u64 b] 40)) := (ze _ _).alloc (zd _) _;have HAL := za hal;have hx2 : (bs x).size ≤ 1000000 := hx;have CH := za (fun w => jc (bs x) hx2 w);clear hal;show Calls _ _ _ _ fun e w' => e = .returned (.bool (chk x 0).isNone) ∧ Below w.heap.size w w'
 have hc : (jM (bs x).data.toList == 0) = (chk x 0).isNone := by
  show ((match chk x 0 with | some _ => (4 : Int) | none => 0) == 0) = _
  cases chk x 0 <;> rfl
 rw [← hc];clear hc
 go_enter Tryz.func62, Tryz.ntmps62
 go_wp2_with fail;refine (CH.out _).mono ?_;rintro e w1 ⟨rfl, rfl⟩;go_wp2_with fail;go_ret;exact ⟨rfl, HAL.out⟩
theorem zoV (n z : Int) (x : List UInt8) (b : Int) (hx : x.length ≤ 1000000) (w : World) :
  Calls Tryz.prog 62 #[.agg #[.int .i64 30, .int .i64 n, .int .i64 z, .string (bs x), .int .u64 b]] w fun e w' => e = .returned (.bool (yB 30 x)) ∧ Below w.heap.size w w' := by
 have hal : Below w.heap.size w (w.alloc (.cells #[.int .i64 30, .int .i64 n, .int .i64 z, .string (bs x), .int .u64 b] 40)) := (ze _ _).alloc (zd _) _;have HAL := za hal;have hx2 : (bs x).size ≤ 1000000 := hx;have CH := za (fun w => jc (bs x) hx2 w);clear hal;show Calls _ _ _ _ fun e w' => e = .returned (.bool (chk x 0).isNone) ∧ Below w.heap.size w w'
 have hc : (jM (bs x).data.toList == 0) = (chk x 0).isNone := by
  show ((match chk x 0 with | some _ => (4 : Int) | none => 0) == 0) = _
  cases chk x 0 <;> rfl
 rw [← hc];clear hc
 go_enter Tryz.func62, Tryz.ntmps62
 go_wp2_with fail;refine (CH.out _).mono ?_;rintro e w1 ⟨rfl, rfl⟩;go_wp2_with fail;go_ret;exact ⟨rfl, HAL.out⟩
end Go.Proofs.YtfcgpphodacdmaaGreatDoor
