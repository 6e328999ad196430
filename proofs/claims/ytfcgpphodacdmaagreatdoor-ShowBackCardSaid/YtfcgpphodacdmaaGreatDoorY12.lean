/- Part of a proof: contracts of functions. -/
import Derived.Test.YtfcgpphodacdmaaGreatDoorY6
import Derived.Test.YtfcgpphodacdmaaGreatDoorY3
import Derived.Lib.IndexMore
import Derived.Scope
import Derived.WalkMore
set_option maxRecDepth 100000
set_option maxHeartbeats 4000000
set_option linter.all false
namespace Go.Proofs.YtfcgpphodacdmaaGreatDoor
open Go.RowKit
theorem zrp {x y : Int} (hx₀ : 0 ≤ x) (hx : x % 16 = 0) (hx₁ : x < 4611686018427387904) (h₀ : 0 ≤ y) (h₁ : y < 16) : bits .or .i64 x y = x + y :=
 bits_join .i64 62 (by decide) ul 4 x y hx₀ hx hx₁ h₀ h₁ (by omega)
theorem zj5 {s : ByteArray} {k i : Nat} {n : Int} (h : s.size ≤ k) : xj (i + 1) (s.data.toList.drop k) n = none := by rw [qo s k h, xj]
theorem zj6 {s : ByteArray} {k i : Nat} {n : Int} (h : k < s.size) (hc : xp (s[k].toNat : Int) = 16) : xj (i + 1) (s.data.toList.drop k) n = none := by
 rw [zO s k h, xj]; unfold ci; rw [if_pos hc]
theorem ziv {s : ByteArray} {k i : Nat} {n : Int} (h : k < s.size) (hc : ¬ xp (s[k].toNat : Int) = 16) : xj (i + 1) (s.data.toList.drop k) n = xj i (s.data.toList.drop (k + 1)) (n * 16 + xp (s[k].toNat : Int)) := by
 rw [zO s k h, xj]; unfold ci; rw [if_neg hc]
def vU (s : ByteArray) (k : Nat) : Option (Value × Nat) := match xj 4 (s.data.toList.drop k) 0 with | none => none | some n => if zT n = 0 then none else some (.string (vt n), k + 4)
theorem zgW {s : ByteArray} {k : Nat} (h : xj 4 (s.data.toList.drop k) 0 = none) : vU s k = none := by unfold vU; rw [h]
theorem ziw {s : ByteArray} {k : Nat} {n : Int} (h : xj 4 (s.data.toList.drop k) 0 = some n) (hz : zT n = 0) : vU s k = none := by unfold vU; rw [h]; simp only [if_pos hz]
theorem zgX {s : ByteArray} {k : Nat} {n : Int} (h : xj 4 (s.data.toList.drop k) 0 = some n) (hz : ¬ zT n = 0) : vU s k = some (.string (vt n), k + 4) := by unfold vU; rw [h]; simp only [if_neg hz]
theorem zj7 (b : Nat) (s : ByteArray) (hs : s.size ≤ 1000000) (beg op : Int) (k : Nat) (hk : k ≤ s.size) (w : World) (h : Rd w b s beg k op) :
  Calls Tryz.prog 190 #[.pointer (some ⟨b, 0, none⟩)] w (jS b s beg op w (vU s k)) := by
 have H := za h;have RN := za (@zgW s k);have RB := za (fun n (h : xj 4 (s.data.toList.drop k) 0 = some n) => @ziw s k n h);have RS := za (fun n (h : xj 4 (s.data.toList.drop k) 0 = some n) => @zgX s k n h);generalize vU s k = R at *;clear h
 go_enter Tryz.func190, Tryz.ntmps190
 go_wp2_with fail
 go_loopw [3, 7] (fun vv ii wr => ∃ (i : Nat) (v : Int), ii = .int .i64 (i : Int) ∧ vv = .int .i64 v ∧ i ≤ 4 ∧ k + i ≤ s.size ∧ 0 ≤ v ∧ v ≤ 16777215 ∧ (i ≤ 3 → v ≤ 1048575) ∧ (i ≤ 2 → v ≤ 65535) ∧ (i ≤ 1 → v ≤ 4095) ∧ (i = 0 → v = 0) ∧ Hid (xj 4 (s.data.toList.drop k) 0 = xj (4 - i) (s.data.toList.drop (k + i)) v) ∧ Hid (Rd wr b s beg (k + i : Nat) op) ∧ Hid (Off b w wr)) (fun _ ii _ => 4 - (intOf ii).toNat)
 case atStart => exact ⟨0, 0, rfl, rfl, by omega, by omega, by omega, by omega, by omega, by omega, by omega, by omega, rfl, H.out, Off.refl _ _⟩
 case round =>
  rename_i wr hrel
  obtain ⟨i, v, rfl, rfl, hi, hki, hv0, hv1, hv3, hv2, hvv1, hvv0, HC, HR, HO⟩ := hrel;by_cases hlt : i < 4
  ·obtain ⟨m, hm⟩ : ∃ m, 4 - i = m + 1 := ⟨3 - i, by omega⟩;rw [hm] at HC;have hm2 : 4 - (i + 1) = m := by omega
   by_cases hin : k + i < s.size
   ·have T := za (fun w h => uH b s hs beg op (k + i) w h hin);have D := za (fun w => ji (s[k + i].toNat : Int) (Int.natCast_nonneg _) (by have := s[k + i].toNat_lt; omega) w);have B1 := za (@zj6 s (k + i) m v hin);have B2 := za (@ziv s (k + i) m v hin);have hr := vM (s[k + i].toNat : Int);generalize xp (s[k + i].toNat : Int) = d at *;obtain ⟨hr0, hr1⟩ := hr;have HM2 := za hm2;clear hm hm2;by_cases hb : d = 16
    ·have E := za (RN.out (HC.out.trans (B1.out hb)));have hq : (d == 16) = true := by rw [hb]; rfl
     clear hb;have G := za (fun w h => xo b s beg (k + i + 1 : Nat) op 5 w h);go_wp2_with fail;refine (T.out _ HR.out).mono ?_; rintro e w1 ⟨rfl, hR1, hO1⟩;have HR1 := za hR1;have HO1 := za hO1;clear hR1 hO1;go_wp2_with fail;refine (D.out _).mono ?_; rintro e w' ⟨rfl, rfl⟩;go_wp2_with fail;refine (G.out _ HR1.out).mono ?_; rintro e w' ⟨rfl, rfl⟩;unfold flt;go_wp2_with fail;exact zf rfl (xd E.out rfl (HO.out.trans HO1.out))
    ·have E := za (HC.out.trans (B2.out hb));have hq : (d == 16) = false := by rw [zb]; exact hb
     have HB := za hb;clear hb;go_wp2_with fail;refine (T.out _ HR.out).mono ?_; rintro e w1 ⟨rfl, hR1, hO1⟩;have HR1 := za hR1;have HO1 := za hO1;clear hR1 hO1;go_wp2_with fail;refine (D.out _).mono ?_; rintro e w' ⟨rfl, rfl⟩;go_wp2_with fail
     go_roundw
     case rel =>
      have hb := HB.out;refine ⟨i + 1, v * 16 + d, by go_num, ?_, by omega, by omega, by omega, by omega, by omega, by omega, by omega, by omega, by rw [HM2.out]; exact E.out, HR1.out, HO.out.trans HO1.out⟩;congr 1
      rw [zrp (by omega) (by omega) (by omega) (by omega) (by omega)]
     case measure => simp [intOf]; omega
   ·have T := za (fun w h => uO b s hs beg op (k + i) w h (by omega));have E := za (RN.out (HC.out.trans (zj5 (by omega))));clear hm hm2;go_wp2_with fail;refine (T.out _ HR.out).mono ?_; rintro e w1 ⟨rfl, hO1⟩;unfold flt;have HO1 := za hO1;clear hO1;go_wp2_with fail;exact zf rfl (xd E.out rfl (HO.out.trans HO1.out))
  ·have e4 : 4 - i = 0 := by omega
   rw [e4] at HC;obtain rfl : i = 4 := by omega
   have P := za (fun w => zkW v w);have PE : Hid (zdc v = if zT v = 0 then 2 else 0) := rfl;have E1 := za (fun hz => RB.out _ (HC.out.trans rfl) hz);have E2 := za (fun hz => RS.out _ (HC.out.trans rfl) hz);clear e4;generalize vt v = ps at *;generalize zdc v = pe at *;by_cases hz : zT v = 0
   ·have hp : pe = 2 := by rw [PE.out, if_pos hz]
    subst hp;have E := za (E1.out hz);have G := za (fun w h => xo b s beg (k + 4 : Nat) op 5 w h);clear hz;go_wp2_with fail;refine (P.out _).mono ?_; rintro e w1 ⟨rfl, hB⟩;go_wp2_with fail;refine (G.out _ (HR.out.below hB HR.out.lt)).mono ?_; rintro e w' ⟨rfl, rfl⟩;unfold flt;go_wp2_with fail;exact zf rfl (xd E.out rfl (HO.out.below hB))
   ·have hp : pe = 0 := by rw [PE.out, if_neg hz]
    subst hp;have E := za (E2.out hz);clear hz;go_wp2_with fail;refine (P.out _).mono ?_; rintro e w1 ⟨rfl, hB⟩;go_wp2_with fail;go_ret;exact y8 E.out rfl (HR.out.below hB HR.out.lt) (HO.out.below hB)
def xM (s : ByteArray) (k : Nat) : Option (Value × Nat) := match q7 (s.data.toList.drop k) with | none => none | some (o, n) => some (.string (bs o), k + n)
theorem zj8 {s : ByteArray} {k : Nat} (h : s.size ≤ k) : xM s k = none := by unfold xM; rw [qo s k h]; rfl
theorem zlX {s : ByteArray} {k : Nat} (h : k < s.size) (hc : (s[k].toNat : Int) = 92) : xM s k = some (.string ⟨#[92]⟩, k + 1) := by
 have e : s[k] = 92 := xY (by unfold ci; rw [hc]; rfl);unfold xM; rw [zO s k h, e]; rfl
theorem zlY {s : ByteArray} {k : Nat} (h : k < s.size) (hc : (s[k].toNat : Int) = 39) : xM s k = some (.string ⟨#[39]⟩, k + 1) := by
 have e : s[k] = 39 := xY (by unfold ci; rw [hc]; rfl);unfold xM; rw [zO s k h, e]; rfl
theorem zlZ {s : ByteArray} {k : Nat} (h : k < s.size) (hc : (s[k].toNat : Int) = 34) : xM s k = some (.string ⟨#[34]⟩, k + 1) := by
 have e : s[k] = 34 := xY (by unfold ci; rw [hc]; rfl);unfold xM; rw [zO s k h, e]; rfl
theorem zj9 {s : ByteArray} {k : Nat} (h : k < s.size) (hc : (s[k].toNat : Int) = 110) : xM s k = some (.string ⟨#[10]⟩, k + 1) := by
 have e : s[k] = 110 := xY (by unfold ci; rw [hc]; rfl);unfold xM; rw [zO s k h, e]; rfl
theorem zka {s : ByteArray} {k : Nat} (h : k < s.size) (hc : (s[k].toNat : Int) = 114) : xM s k = some (.string ⟨#[13]⟩, k + 1) := by
 have e : s[k] = 114 := xY (by unfold ci; rw [hc]; rfl);unfold xM; rw [zO s k h, e]; rfl
theorem zkb {s : ByteArray} {k : Nat} (h : k < s.size) (hc : (s[k].toNat : Int) = 116) : xM s k = some (.string ⟨#[9]⟩, k + 1) := by
 have e : s[k] = 116 := xY (by unfold ci; rw [hc]; rfl);unfold xM; rw [zO s k h, e]; rfl
theorem zl0 {s : ByteArray} {k : Nat} (h : k < s.size) (hc : (s[k].toNat : Int) = 48) : xM s k = some (.string ⟨#[0]⟩, k + 1) := by
 have e : s[k] = 48 := xY (by unfold ci; rw [hc]; rfl);unfold xM; rw [zO s k h, e]; rfl
theorem znD {s : ByteArray} {k : Nat} (h : k < s.size) (hc : (s[k].toNat : Int) = 117) : xM s k = vU s (k + 1) := by
 have e : s[k] = 117 := xY (by unfold ci; rw [hc]; rfl);unfold xM vU; rw [zO s k h, e];show (match (match xj 4 (s.data.toList.drop (k + 1)) 0 with | none => none | some n => if zT n = 0 then none else some (xa n, 5)) with | none => none | some (o, n) => some (Value.string (bs o), k + n)) = _
 cases xj 4 (s.data.toList.drop (k + 1)) 0 with
 | none => rfl
 | some n =>
  by_cases hz : zT n = 0
  ·simp only [if_pos hz]
  ·simp only [if_neg hz]; rfl
theorem zix {s : ByteArray} {k : Nat} (h : k < s.size) (h92 : ¬ (s[k].toNat : Int) = 92) (h39 : ¬ (s[k].toNat : Int) = 39) (h34 : ¬ (s[k].toNat : Int) = 34) (h110 : ¬ (s[k].toNat : Int) = 110) (h114 : ¬ (s[k].toNat : Int) = 114) (h116 : ¬ (s[k].toNat : Int) = 116) (h48 : ¬ (s[k].toNat : Int) = 48) (h117 : ¬ (s[k].toNat : Int) = 117) : xM s k = none := by
 unfold xM; rw [zO s k h, q7]; unfold ci;rw [if_neg (by omega), if_neg h110, if_neg h114, if_neg h116, if_neg h48, if_neg h117]
theorem zgY (b : Nat) (s : ByteArray) (hs : s.size ≤ 1000000) (beg op : Int) (k : Nat) (hk : k ≤ s.size) (w : World) (h : Rd w b s beg k op) :
  Calls Tryz.prog 169 #[.pointer (some ⟨b, 0, none⟩)] w (jS b s beg op w (xM s k)) := by
 have H := za h;clear h;by_cases hin : k < s.size
 ·have T := za (fun w h => uH b s hs beg op k w h hin);have E92 := za (@zlX s k hin);have E39 := za (@zlY s k hin);have E34 := za (@zlZ s k hin);have E110 := za (@zj9 s k hin);have E114 := za (@zka s k hin);have E116 := za (@zkb s k hin);have E48 := za (@zl0 s k hin);have EU := za (@znD s k hin);have EN := za (@zix s k hin);have CD := za (fun w h => zj7 b s hs beg op (k + 1) (by omega) w h);generalize xM s k = R at *;generalize vU s (k + 1) = RC at *;generalize (s[k].toNat : Int) = c at *;by_cases h92 : c = 92
  ·have E := za (E92.out h92);subst h92;have hcv : ∀ w, (convert 21 9 (.int .i32 92)).run Tryz.prog w = .ok (.string ⟨#[92]⟩) w := fun _ => by kernel_rfl
   go_enter Tryz.func169, Tryz.ntmps169
   go_wp2_with fail;refine (T.out _ H.out).mono ?_; rintro e w1 ⟨rfl, hR1, hO1⟩;have HR1 := za hR1;have HO1 := za hO1;clear hR1 hO1;go_wp2_with fail;go_ret;exact y8 E.out rfl HR1.out HO1.out
  by_cases h39 : c = 39
  ·have E := za (E39.out h39);subst h39;have hcv : ∀ w, (convert 21 9 (.int .i32 39)).run Tryz.prog w = .ok (.string ⟨#[39]⟩) w := fun _ => by kernel_rfl
   go_enter Tryz.func169, Tryz.ntmps169
   go_wp2_with fail;refine (T.out _ H.out).mono ?_; rintro e w1 ⟨rfl, hR1, hO1⟩;have HR1 := za hR1;have HO1 := za hO1;clear hR1 hO1;go_wp2_with fail;go_ret;exact y8 E.out rfl HR1.out HO1.out
  by_cases h34 : c = 34
  ·have E := za (E34.out h34);subst h34;have hcv : ∀ w, (convert 21 9 (.int .i32 34)).run Tryz.prog w = .ok (.string ⟨#[34]⟩) w := fun _ => by kernel_rfl
   go_enter Tryz.func169, Tryz.ntmps169
   go_wp2_with fail;refine (T.out _ H.out).mono ?_; rintro e w1 ⟨rfl, hR1, hO1⟩;have HR1 := za hR1;have HO1 := za hO1;clear hR1 hO1;go_wp2_with fail;go_ret;exact y8 E.out rfl HR1.out HO1.out
  by_cases h110 : c = 110
  ·have E := za (E110.out h110);subst h110
   go_enter Tryz.func169, Tryz.ntmps169
   go_wp2_with fail;refine (T.out _ H.out).mono ?_; rintro e w1 ⟨rfl, hR1, hO1⟩;have HR1 := za hR1;have HO1 := za hO1;clear hR1 hO1;go_wp2_with fail;go_ret;exact y8 E.out rfl HR1.out HO1.out
  by_cases h114 : c = 114
  ·have E := za (E114.out h114);subst h114
   go_enter Tryz.func169, Tryz.ntmps169
   go_wp2_with fail;refine (T.out _ H.out).mono ?_; rintro e w1 ⟨rfl, hR1, hO1⟩;have HR1 := za hR1;have HO1 := za hO1;clear hR1 hO1;go_wp2_with fail;go_ret;exact y8 E.out rfl HR1.out HO1.out
  by_cases h116 : c = 116
  ·have E := za (E116.out h116);subst h116
   go_enter Tryz.func169, Tryz.ntmps169
   go_wp2_with fail;refine (T.out _ H.out).mono ?_; rintro e w1 ⟨rfl, hR1, hO1⟩;have HR1 := za hR1;have HO1 := za hO1;clear hR1 hO1;go_wp2_with fail;go_ret;exact y8 E.out rfl HR1.out HO1.out
  by_cases h48 : c = 48
  ·have E := za (E48.out h48);subst h48
   go_enter Tryz.func169, Tryz.ntmps169
   go_wp2_with fail;refine (T.out _ H.out).mono ?_; rintro e w1 ⟨rfl, hR1, hO1⟩;have HR1 := za hR1;have HO1 := za hO1;clear hR1 hO1;go_wp2_with fail;go_ret;exact y8 E.out rfl HR1.out HO1.out
  by_cases h117 : c = 117
  ·have E := za (EU.out h117);subst h117
   go_enter Tryz.func169, Tryz.ntmps169
   go_wp2_with fail;refine (T.out _ H.out).mono ?_; rintro e w1 ⟨rfl, hR1, hO1⟩;have HR1 := za hR1;have HO1 := za hO1;clear hR1 hO1;go_wp2_with fail;refine (CD.out _ HR1.out).mono ?_; rintro e w2 hG;rcases RC with _ | ⟨v, k2⟩
   ·obtain ⟨rfl, hO2⟩ := hG;have HO2 := za hO2;clear hO2;unfold flt;go_wp2_with fail;exact zf rfl (xd E.out rfl (HO1.out.trans HO2.out))
   ·obtain ⟨rfl, hR2, hO2⟩ := hG;have HR2 := za hR2;have HO2 := za hO2;clear hR2 hO2;go_wp2_with fail;go_ret;exact y8 E.out rfl HR2.out (HO1.out.trans HO2.out)
  have E := za (EN.out h92 h39 h34 h110 h114 h116 h48 h117);have q92 : (c == 92) = false := by rw [zb]; exact h92
  have q39 : (c == 39) = false := by rw [zb]; exact h39
  have q34 : (c == 34) = false := by rw [zb]; exact h34
  have q110 : (c == 110) = false := by rw [zb]; exact h110
  have q114 : (c == 114) = false := by rw [zb]; exact h114
  have q116 : (c == 116) = false := by rw [zb]; exact h116
  have q48 : (c == 48) = false := by rw [zb]; exact h48
  have q117 : (c == 117) = false := by rw [zb]; exact h117
  clear h92 h39 h34 h110 h114 h116 h48 h117;have G := za (fun w h => xo b s beg (k + 1 : Nat) op 5 w h)
  go_enter Tryz.func169, Tryz.ntmps169
  go_wp2_with fail;refine (T.out _ H.out).mono ?_; rintro e w1 ⟨rfl, hR1, hO1⟩;have HR1 := za hR1;have HO1 := za hO1;clear hR1 hO1;go_wp2_with fail;refine (G.out _ HR1.out).mono ?_; rintro e w' ⟨rfl, rfl⟩;unfold flt;go_wp2_with fail;exact zf rfl (xd E.out rfl HO1.out)
 ·have T := za (fun w h => uO b s hs beg op k w h (by omega));have E := za (zj8 (s := s) (k := k) (by omega));generalize xM s k = R at *
  go_enter Tryz.func169, Tryz.ntmps169
  go_wp2_with fail;refine (T.out _ H.out).mono ?_; rintro e w1 ⟨rfl, hO1⟩;unfold flt;have HO1 := za hO1;clear hO1;go_wp2_with fail;exact zf rfl (xd E.out rfl HO1.out)
theorem zev : ∀ (i : Nat) (R : List UInt8) (n v : Int), xj i R n = some v → i ≤ R.length
 | 0, _, _, _, _ => Nat.zero_le _
 | i + 1, [], _, _, h => by rw [xj] at h; cases h
 | i + 1, c :: r, n, v, h => by
  rw [xj] at h;split at h
  ·cases h
  ·have := zev i r _ v h; simp; omega
theorem zkc (n : Int) : (xa n).length ≤ 4 := by have := js n; have := vo n; omega
theorem zaH {R : List UInt8} {o : List UInt8} {n : Nat} (h : q7 R = some (o, n)) : 1 ≤ n ∧ n ≤ R.length ∧ o.length ≤ 4 := by
  unfold q7 at h
  match R with
  | [] => cases h
  | d :: r =>
    simp only at h
    repeat' split at h
    all_goals first
      | (cases h; done)
      | (rename_i heq hz; injection h with h; injection h with h1 h2; subst h1; subst h2
         have := zev 4 r 0 _ heq; have := zkc; simp; refine ⟨by omega, this _⟩)
      | (injection h with h; injection h with h1 h2; subst h1; subst h2; simp)
def app (acc : List UInt8) (d : Nat) (r : Option (List UInt8 × Nat)) : Option (List UInt8 × Nat) := match r with | none => none | some (o, m) => some (acc ++ o, d + m)
theorem zfR (acc o : List UInt8) (d n : Nat) (r : Option (List UInt8 × Nat)) : app acc d (app o n r) = app (acc ++ o) (d + n) r := by
 cases r with
 | none => rfl
 | some x => simp [app, List.append_assoc, Nat.add_assoc]
theorem zl1 (r : Option (List UInt8 × Nat)) : app [] 0 r = r := by cases r <;> simp [app]
theorem zcm {s : ByteArray} {q : UInt8} {p : Nat} (h : s.size ≤ p) : txt q (s.data.toList.drop p) = none := by rw [qo s p h, txt]
theorem zl2 {s : ByteArray} {q : UInt8} {p : Nat} (h : p < s.size) (hc : s[p] = q) : txt q (s.data.toList.drop p) = some ([], 1) := by rw [zO s p h, txt, if_pos hc]
theorem zl3 {s : ByteArray} {q : UInt8} {p : Nat} (h : p < s.size) (hc : ¬ s[p] = q) (ho : xZ (s.data.toList.drop p) = none) : txt q (s.data.toList.drop p) = none := by
 rw [zO s p h] at ho ⊢; rw [txt, if_neg hc, ho]
theorem zkd {s : ByteArray} {q : UInt8} {p n : Nat} {o : List UInt8} (h : p < s.size) (hc : ¬ s[p] = q) (ho : xZ (s.data.toList.drop p) = some (o, n + 1)) : txt q (s.data.toList.drop p) = app o (n + 1) (txt q (s.data.toList.drop (p + 1 + n))) := by
 rw [zO s p h] at ho ⊢;rw [txt, if_neg hc, ho];simp only [Nat.add_sub_cancel, List.drop_drop];cases txt q (s.data.toList.drop (p + 1 + n)) <;> rfl
theorem zl4 {s : ByteArray} {p : Nat} (h : p < s.size) (hc : (s[p].toNat : Int) = 92) : xZ (s.data.toList.drop p) = match q7 (s.data.toList.drop (p + 1)) with | none => none | some (o, n) => some (o, n + 1) := by
 rw [zO s p h, xZ]; unfold ci; rw [if_pos hc]; rfl
theorem zl5 {s : ByteArray} {p : Nat} (h : p < s.size) (hc : ¬ (s[p].toNat : Int) = 92) (hl : (s[p].toNat : Int) < 32) : xZ (s.data.toList.drop p) = none := by
 rw [zO s p h, xZ]; unfold ci; rw [if_neg hc, if_pos hl]
theorem zke {s : ByteArray} {p : Nat} (h : p < s.size) (hc : ¬ (s[p].toNat : Int) = 92) (hl : ¬ (s[p].toNat : Int) < 32) : xZ (s.data.toList.drop p) = some ([s[p]], 1) := by
 rw [zO s p h, xZ]; unfold ci; rw [if_neg hc, if_neg hl]
theorem Off.belowAt {b : Nat} {w w1 w2 : World} (h : Off b w w1) (g : Below w.heap.size w1 w2) : Off b w w2 :=
 ⟨g.os.trans h.os, g.tape.trans h.tape, g.output.trans h.output, Nat.le_trans h.size g.size, fun k hk hb => (g.block k hk).trans (h.block k hk hb)⟩
def uj (s : ByteArray) (q : UInt8) (k : Nat) : Option (Value × Nat) := match txt q (s.data.toList.drop (k + 1)) with | none => none | some (o, m) => some (.string (bs o), k + 1 + m)
theorem zgZ {s : ByteArray} {q : UInt8} {k : Nat} (h : txt q (s.data.toList.drop (k + 1)) = none) : uj s q k = none := by unfold uj; rw [h]
theorem zg0 {s : ByteArray} {q : UInt8} {k m : Nat} {o : List UInt8} (h : txt q (s.data.toList.drop (k + 1)) = some (o, m)) : uj s q k = some (.string (bs o), k + 1 + m) := by unfold uj; rw [h]
theorem zew (b : Nat) (s : ByteArray) (hs : s.size ≤ 100000) (beg op : Int) (k : Nat) (hk : k < s.size) (w : World) (h : Rd w b s beg k op) :
  Calls Tryz.prog 128 #[.pointer (some ⟨b, 0, none⟩)] w (jS b s beg op w (uj s s[k] k)) := by
 have H := za h;have hbl := h.lt;clear h;have T0 := za (fun w h => uH b s (by omega) beg op k w h hk);have RN := za (@zgZ s s[k] k);have RS := za (fun o m => @zg0 s s[k] k m o);generalize uj s s[k] k = R at *;generalize s[k] = q at *;have hW : (w.alloc (.cells #[.pointer none, .slice none 0 0] 112)).heap.size = w.heap.size + 1 := by simp
 have HB0 := za (Bld.new w);have H1 := za (H.out.alloc (.cells #[.pointer none, .slice none 0 0] 112));have HO0 := za ((Off.refl b w).alloc (.cells #[.pointer none, .slice none 0 0] 112))
 go_enter Tryz.func128, Tryz.ntmps128
 go_wp2_with fail;refine (T0.out _ H1.out).mono ?_; rintro e w1 ⟨rfl, hR1, hO1⟩;have HR1 := za hR1;have HB1 := za (HB0.out.off hO1 hbl);have HO1 := za (HO0.out.trans hO1);clear hR1 hO1;by_cases hin : k + 1 < s.size
 ·have T1 := za (fun w h => uH b s (by omega) beg op (k + 1) w h hin);go_wp2_with fail;refine (T1.out _ HR1.out).mono ?_; rintro e w2 ⟨rfl, hR2, hO2⟩;have HR2 := za hR2;have HB2 := za (HB1.out.off hO2 hbl);have HO2 := za (HO1.out.trans hO2);clear hR2 hO2;go_wp2_with fail
  go_loopg [5] (s.size - (k + 1)) (fun g cv wr => ∃ (p : Nat) (hp : p < s.size) (acc : List UInt8), g = s.size - p ∧ k + 1 ≤ p ∧ cv = .int .u8 (s[p].toNat : Int) ∧ acc.length ≤ 4 * p ∧ Hid (Rd wr b s beg (p + 1 : Nat) op) ∧ Hid (Bld wr w.heap.size w.heap.size acc) ∧ Hid (Off b w wr) ∧ Hid (txt q (s.data.toList.drop (k + 1)) = app acc (p - (k + 1)) (txt q (s.data.toList.drop p))))
  case atStart => exact ⟨k + 1, hin, [], rfl, by omega, rfl, Nat.zero_le _, HR2.out, HB2.out, HO2.out, by show _ = _; rw [Nat.sub_self, zl1]⟩
  case round =>
   obtain ⟨p, hp, acc, rfl, hkp, rfl, hacc, HR, HB, HO, HT⟩ := hrel;by_cases hcq : s[p] = q
   ·have E := za (RS.out _ _ (HT.out.trans (by rw [zl2 hp hcq]; rfl)));have hq : ((s[p].toNat : Int) != (q.toNat : Int)) = false := by rw [hcq]; simp
    have hq2 : (s[p].toNat : Int) = (q.toNat : Int) := by rw [hcq]
    have ST := za (fun w2 h hs => ju w.heap.size w.heap.size acc w2 h hs);have hlen : w.heap.size ≤ wr.heap.size := HO.out.size;clear hcq;go_wp2_with fail;refine (ST.out _ HB.out hlen).mono ?_; rintro e w3 ⟨rfl, hB3⟩;have HR3 := za (HR.out.below hB3 hbl);have HO3 := za (HO.out.belowAt hB3);clear hB3;go_wp2_with fail;go_ret;exact y8 E.out (by rw [List.append_nil]; rfl) (by rw [show k + 1 + (p - (k + 1) + 1) = p + 1 by omega]; exact HR3.out) HO3.out
   ·have hq : ((s[p].toNat : Int) != (q.toNat : Int)) = true := by
     rw [bne_iff_ne]; intro h; exact hcq (xY h)
    have M := za (fun o n => @zkd s q p n o hp hcq);have TB := za (@zl3 s q p hp hcq);have hlen : w.heap.size ≤ wr.heap.size := HO.out.size;clear hcq;by_cases h92 : (s[p].toNat : Int) = 92
    ·have HE := za (zl4 hp h92);have hc92 : ((s[p].toNat : Int) == 92) = true := by rw [h92]; rfl
     have EC := za (fun w h => zgY b s (by omega) beg op (p + 1) (by omega) w h);have HER : Hid (xM s (p + 1) = match q7 (s.data.toList.drop (p + 1)) with | none => none | some (o, n) => some (.string (bs o), p + 1 + n)) := rfl;generalize xM s (p + 1) = ER at *;have HES := za (fun o n => @zaH (s.data.toList.drop (p + 1)) o n);generalize q7 (s.data.toList.drop (p + 1)) = ET at *;clear h92;rcases ET with _ | ⟨o, n⟩
     ·have hER : ER = none := HER.out;subst hER;have E := za (RN.out (HT.out.trans (by rw [TB.out HE.out]; rfl)));go_wp2_with fail;refine (EC.out _ HR.out).mono ?_; rintro e w3 ⟨rfl, hO3⟩;unfold flt;have HO3 := za (HO.out.trans hO3);clear hO3;go_wp2_with fail;exact zf rfl (xd E.out rfl HO3.out)
     ·have hER : ER = some (.string (bs o), p + 1 + n) := HER.out;subst hER;obtain ⟨n1, n2, n3⟩ := HES.out o n rfl;rw [List.length_drop, zL] at n2;have HT3 : Hid (txt q (s.data.toList.drop (k + 1)) = app (acc ++ o) (p + 1 + n - (k + 1)) (txt q (s.data.toList.drop (p + 1 + n)))) := by
       show _ = _
       rw [HT.out, M.out o n HE.out, zfR, show p - (k + 1) + (n + 1) = p + 1 + n - (k + 1) by omega]
      have hbo : (bs o).size ≤ 1000000 := by rw [zfi]; omega
      have WS := za (fun w2 h hs => zaX w.heap.size w.heap.size acc (bs o) w2 h (by omega) hbo hs);have HBL : Hid ((bs o).data.toList = o) := rfl;generalize bs o = bo at *;go_wp2_with fail;refine (EC.out _ HR.out).mono ?_; rintro e w2 ⟨rfl, hR2, hO2⟩;have HR2 := za hR2;have HB2 := za (HB.out.off hO2 hbl);have HO2 := za (HO.out.trans hO2);clear hR2 hO2;go_wp2_with fail;refine (WS.out _ HB2.out HO2.out.size).mono ?_; rintro e w3 ⟨rfl, hB3, hL3⟩;rw [HBL.out] at hB3;have HR3 := za (HR2.out.below hL3 hbl);have HB3 := za hB3;have HO3 := za (HO2.out.belowAt hL3);clear hB3 hL3;by_cases hin2 : p + 1 + n < s.size
      ·have T2 := za (fun w h => uH b s (by omega) beg op (p + 1 + n) w h hin2);go_wp2_with fail;refine (T2.out _ HR3.out).mono ?_; rintro e w4 ⟨rfl, hR4, hO4⟩;have HR4 := za hR4;have HB4 := za (HB3.out.off hO4 hbl);have HO4 := za (HO3.out.trans hO4);clear hR4 hO4;go_wp2_with fail
       go_roundg (s.size - (p + 1 + n))
       case measure => omega
       case rel => exact ⟨p + 1 + n, hin2, acc ++ o, rfl, by omega, rfl, by rw [List.length_append]; omega, HR4.out, HB4.out, HO4.out, HT3.out⟩
      ·have T2 := za (fun w h => uO b s (by omega) beg op (p + 1 + n) w h (by omega));have E := za (RN.out (HT3.out.trans (by rw [zcm (by omega)]; rfl)));go_wp2_with fail;refine (T2.out _ HR3.out).mono ?_; rintro e w4 ⟨rfl, hO4⟩;unfold flt;have HO4 := za (HO3.out.trans hO4);clear hO4;go_wp2_with fail;exact zf rfl (xd E.out rfl HO4.out)
    ·have hc92 : ((s[p].toNat : Int) == 92) = false := by rw [zb]; exact h92
     by_cases hlow : (s[p].toNat : Int) < 32
     ·have E := za (RN.out (HT.out.trans (by rw [TB.out (zl5 hp h92 hlow)]; rfl)));have G := za (fun w h => xo b s beg (p + 1 : Nat) op 5 w h);clear h92;go_wp2_with fail;refine (G.out _ HR.out).mono ?_; rintro e w3 ⟨rfl, rfl⟩;unfold flt;go_wp2_with fail;exact zf rfl (xd E.out rfl HO.out)
     ·have HT3 : Hid (txt q (s.data.toList.drop (k + 1)) = app (acc ++ [s[p]]) (p + 1 - (k + 1)) (txt q (s.data.toList.drop (p + 1)))) := by
       show _ = _
       rw [HT.out, M.out [s[p]] 0 (zke hp h92 hlow), zfR, show p - (k + 1) + (0 + 1) = p + 1 - (k + 1) by omega, Nat.add_zero]
      have WB := za (fun w2 h hs => vG w.heap.size w.heap.size acc s[p] w2 h (by omega) hs);clear h92;go_wp2_with fail;refine (WB.out _ HB.out hlen).mono ?_; rintro e w3 ⟨rfl, hB3, hL3⟩;have HR3 := za (HR.out.below hL3 hbl);have HB3 := za hB3;have HO3 := za (HO.out.belowAt hL3);clear hB3 hL3;by_cases hin2 : p + 1 < s.size
      ·have T2 := za (fun w h => uH b s (by omega) beg op (p + 1) w h hin2);go_wp2_with fail;refine (T2.out _ HR3.out).mono ?_; rintro e w4 ⟨rfl, hR4, hO4⟩;have HR4 := za hR4;have HB4 := za (HB3.out.off hO4 hbl);have HO4 := za (HO3.out.trans hO4);clear hR4 hO4;go_wp2_with fail
       go_roundg (s.size - (p + 1))
       case measure => omega
       case rel => exact ⟨p + 1, hin2, acc ++ [s[p]], rfl, by omega, rfl, by rw [List.length_append]; simp; omega, HR4.out, HB4.out, HO4.out, HT3.out⟩
      ·have T2 := za (fun w h => uO b s (by omega) beg op (p + 1) w h (by omega));have E := za (RN.out (HT3.out.trans (by rw [zcm (by omega)]; rfl)));go_wp2_with fail;refine (T2.out _ HR3.out).mono ?_; rintro e w4 ⟨rfl, hO4⟩;unfold flt;have HO4 := za (HO3.out.trans hO4);clear hO4;go_wp2_with fail;exact zf rfl (xd E.out rfl HO4.out)
 ·have T1 := za (fun w h => uO b s (by omega) beg op (k + 1) w h (by omega));have E := za (RN.out (zcm (by omega)));go_wp2_with fail;refine (T1.out _ HR1.out).mono ?_; rintro e w2 ⟨rfl, hO2⟩;unfold flt;have HO2 := za hO2;clear hO2;go_wp2_with fail;exact zf rfl (xd E.out rfl (HO1.out.trans HO2.out))
def zex (b : Nat) (s : ByteArray) (beg : Int) (w : World) (r : Except Int (Value × Nat × Int)) (e : Ending) (w' : World) : Prop :=
 match r with
 | .ok (v, k, op) => e = .returned v ∧ Rd w' b s beg (k : Nat) op ∧ Off b w w'
 | .error c => e = flt beg c ∧ Off b w w'
theorem xK {b : Nat} {s : ByteArray} {beg : Int} {w : World} {r : Except Int (Value × Nat × Int)} {v : Value} {k : Nat} {op : Int} {e : Ending} {w' : World} (h : r = .ok (v, k, op)) (he : e = .returned v) (hr : Rd w' b s beg (k : Nat) op) (ho : Off b w w') : zex b s beg w r e w' := by
 subst h; exact ⟨he, hr, ho⟩
theorem qv {b : Nat} {s : ByteArray} {beg : Int} {w : World} {r : Except Int (Value × Nat × Int)} {c : Int} {e : Ending} {w' : World} (h : r = .error c) (he : e = flt beg c) (ho : Off b w w') : zex b s beg w r e w' := by
 subst h; exact ⟨he, ho⟩
def opB (P : List UInt8) (op : Int) : Int := if yR P = true then op + 1 else if qh P = true then max (op - 1) 0 else op
def zaI (P : List UInt8) (k : Nat) (op : Int) : Except Int (Value × Nat × Int) := if yR P = true ∧ op = 240 then .error 6 else .ok (.tuple #[], k, opB P op)
theorem zQ {g : ByteArray} {l : List UInt8} (h : g.data.toList = l) : (g.toList == l) = true := by rw [yZ]; simpa using h
theorem zh {g : ByteArray} {l : List UInt8} (h : ¬ g.data.toList = l) : (g.toList == l) = false := by rw [yZ]; simpa using h
theorem ze8 (b : Nat) (s g : ByteArray) (beg op : Int) (h0 : 0 ≤ op) (h1 : op ≤ 240) (k : Nat) (w : World) (h : Rd w b s beg k op) :
  Calls Tryz.prog 171 #[.pointer (some ⟨b, 0, none⟩), .string g] w (zex b s beg w (zaI g.data.toList k op)) := by
 have H := za h;have c3 := h.c3;have f3 := h.fz 3;clear h;have HR : Hid (zaI g.data.toList k op = if yR g.data.toList = true ∧ op = 240 then .error 6 else .ok (.tuple #[], k, opB g.data.toList op)) := rfl;generalize zaI g.data.toList k op = R at *;by_cases e123 : g.data.toList = [123]
 ·have q123 := zQ e123;rw [e123] at HR;clear e123;by_cases hop : op = 240
  ·have E := za (HR.out.trans (by rw [if_pos ⟨rfl, hop⟩]));have hq : (op == 240) = true := by rw [hop]; rfl
   have G := za (fun w h => xo b s beg k op 6 w h);clear hop
   go_enter Tryz.func171, Tryz.ntmps171
   go_wp2_with fail;refine (G.out _ H.out).mono ?_; rintro e w' ⟨rfl, rfl⟩;unfold flt;go_wp2_with fail;exact zf rfl (qv E.out rfl (Off.refl _ _))
  ·have E := za (HR.out.trans (by rw [if_neg (fun h => hop h.2)]));have hq : (op == 240) = false := by rw [zb]; exact hop
   clear hop
   go_enter Tryz.func171, Tryz.ntmps171
   go_wp2_with fail
   go_end0
   exact xK E.out rfl (H.out.s3 _) ((Off.refl _ _).set _ _)
 by_cases e40 : g.data.toList = [40]
 ·have q40 := zQ e40;have q123 := zh e123;rw [e40] at HR;clear e123 e40;by_cases hop : op = 240
  ·have E := za (HR.out.trans (by rw [if_pos ⟨rfl, hop⟩]));have hq : (op == 240) = true := by rw [hop]; rfl
   have G := za (fun w h => xo b s beg k op 6 w h);clear hop
   go_enter Tryz.func171, Tryz.ntmps171
   go_wp2_with fail;refine (G.out _ H.out).mono ?_; rintro e w' ⟨rfl, rfl⟩;unfold flt;go_wp2_with fail;exact zf rfl (qv E.out rfl (Off.refl _ _))
  ·have E := za (HR.out.trans (by rw [if_neg (fun h => hop h.2)]));have hq : (op == 240) = false := by rw [zb]; exact hop
   clear hop
   go_enter Tryz.func171, Tryz.ntmps171
   go_wp2_with fail
   go_end0
   exact xK E.out rfl (H.out.s3 _) ((Off.refl _ _).set _ _)
 by_cases e91 : g.data.toList = [91]
 ·have q91 := zQ e91;have q123 := zh e123;have q40 := zh e40;rw [e91] at HR;clear e123 e40 e91;by_cases hop : op = 240
  ·have E := za (HR.out.trans (by rw [if_pos ⟨rfl, hop⟩]));have hq : (op == 240) = true := by rw [hop]; rfl
   have G := za (fun w h => xo b s beg k op 6 w h);clear hop
   go_enter Tryz.func171, Tryz.ntmps171
   go_wp2_with fail;refine (G.out _ H.out).mono ?_; rintro e w' ⟨rfl, rfl⟩;unfold flt;go_wp2_with fail;exact zf rfl (qv E.out rfl (Off.refl _ _))
  ·have E := za (HR.out.trans (by rw [if_neg (fun h => hop h.2)]));have hq : (op == 240) = false := by rw [zb]; exact hop
   clear hop
   go_enter Tryz.func171, Tryz.ntmps171
   go_wp2_with fail
   go_end0
   exact xK E.out rfl (H.out.s3 _) ((Off.refl _ _).set _ _)
 by_cases e125 : g.data.toList = [125]
 ·have q125 := zQ e125;have q123 := zh e123;have q40 := zh e40;have q91 := zh e91;rw [e125] at HR;clear e123 e40 e91 e125;have E := za (HR.out.trans (by rw [if_neg (fun h => by cases h.1)]))
  go_enter Tryz.func171, Tryz.ntmps171
  go_wp2_with fail
  go_end0
  exact xK E.out rfl (H.out.s3 _) ((Off.refl _ _).set _ _)
 by_cases e41 : g.data.toList = [41]
 ·have q41 := zQ e41;have q123 := zh e123;have q40 := zh e40;have q91 := zh e91;have q125 := zh e125;rw [e41] at HR;clear e123 e40 e91 e125 e41;have E := za (HR.out.trans (by rw [if_neg (fun h => by cases h.1)]))
  go_enter Tryz.func171, Tryz.ntmps171
  go_wp2_with fail
  go_end0
  exact xK E.out rfl (H.out.s3 _) ((Off.refl _ _).set _ _)
 by_cases e93 : g.data.toList = [93]
 ·have q93 := zQ e93;have q123 := zh e123;have q40 := zh e40;have q91 := zh e91;have q125 := zh e125;have q41 := zh e41;rw [e93] at HR;clear e123 e40 e91 e125 e41 e93;have E := za (HR.out.trans (by rw [if_neg (fun h => by cases h.1)]))
  go_enter Tryz.func171, Tryz.ntmps171
  go_wp2_with fail
  go_end0
  exact xK E.out rfl (H.out.s3 _) ((Off.refl _ _).set _ _)
 have ho : yR g.data.toList = false := by unfold yR; simp [e123, e40, e91]
 have hs : qh g.data.toList = false := by unfold qh; simp [e125, e41, e93]
 have E := za (HR.out.trans (by unfold opB; rw [ho, hs, if_neg (fun h => by cases h.1), if_neg (by decide), if_neg (by decide)]));have q123 := zh e123;have q40 := zh e40;have q91 := zh e91;have q125 := zh e125;have q41 := zh e41;have q93 := zh e93;clear ho hs e123 e40 e91 e125 e41 e93
 go_enter Tryz.func171, Tryz.ntmps171
 go_wp2_with fail
 go_end0
 exact xK E.out rfl H.out (Off.refl _ _)
def jr (s : ByteArray) (k : Nat) (op : Int) : Except Int (Value × Nat × Int) :=
 if yl (s.data.toList.drop k) 4 = 0 then .error 5
 else if yR ((s.data.toList.drop k).take (yl (s.data.toList.drop k) 4)) = true ∧ op = 240 then .error 6
 else .ok (.string (bs ((s.data.toList.drop k).take (yl (s.data.toList.drop k) 4))), k + yl (s.data.toList.drop k) 4, opB ((s.data.toList.drop k).take (yl (s.data.toList.drop k) 4)) op)
theorem zkf {R : List UInt8} {n : Nat} (h : n + 1 ≤ R.length) (hs : xm (R.take (n + 1)) = true) : yl R (n + 1) = n + 1 := by rw [yl, if_pos ⟨h, hs⟩]
theorem zl6 {R : List UInt8} {n : Nat} (hs : xm (R.take (n + 1)) = false) : yl R (n + 1) = yl R n := by rw [yl, if_neg (fun h => by rw [hs] at h; cases h.2)]
theorem ziy {R : List UInt8} {n : Nat} (h : R.length < n + 1) : yl R (n + 1) = yl R n := by rw [yl, if_neg (fun h2 => by omega)]
theorem zey (R : List UInt8) : ∀ n, yl R n = yl R (min n R.length)
 | 0 => by rw [Nat.zero_min]
 | n + 1 => by
  by_cases h : R.length < n + 1
  ·rw [ziy h, zey R n, Nat.min_eq_right (show R.length ≤ n + 1 by omega), Nat.min_eq_right (show R.length ≤ n by omega)]
  ·rw [Nat.min_eq_left (by omega)]
theorem zg1 {s : ByteArray} {k : Nat} {op : Int} (h : yl (s.data.toList.drop k) 4 = 0) : jr s k op = .error 5 := by unfold jr; rw [if_pos h]
theorem zg2 {s : ByteArray} {k n : Nat} {op : Int} {g : ByteArray} (h : yl (s.data.toList.drop k) 4 = n + 1) (hg : g = s.extract k (k + (n + 1))) : jr s k op = if yR g.data.toList = true ∧ op = 240 then .error 6 else .ok (.string g, k + (n + 1), opB g.data.toList op) := by
 have e : g.data.toList = (s.data.toList.drop k).take (n + 1) := by rw [hg, uA]
 unfold jr; rw [if_neg (by omega), h, e, ← zbE e]
theorem zkg (b : Nat) (s : ByteArray) (hs : s.size ≤ 100000) (beg op : Int) (h0 : 0 ≤ op) (h1 : op ≤ 240) (k : Nat) (hk : k ≤ s.size) (w : World) (h : Rd w b s beg k op) :
  Calls Tryz.prog 129 #[.pointer (some ⟨b, 0, none⟩)] w (zex b s beg w (jr s k op)) := by
 have H := za h;have c0 := h.c0;have c2 := h.c2;clear h;have RN := za (@zg1 s k op);have RS := za (fun n g => @zg2 s k n op g);have HCUT := za (zey (s.data.toList.drop k) 4);rw [List.length_drop, zL] at HCUT;generalize jr s k op = R at *
 go_enter Tryz.func129, Tryz.ntmps129
 go_wp2_with fail;refine zaN 10 (by kernel_rfl) (by kernel_rfl) ?_;simp only [List.take_succ_cons, List.take_zero, List.drop_succ_cons, List.drop_zero];generalize hwq : w.drew = wq;have HQ := za (hwq ▸ H.out.drew);have HOQ := za (hwq ▸ (Off.refl b w).drew);clear hwq c0 c2;have c0 := HQ.out.c0;have c2 := HQ.out.c2
 repeat still_step
 refine wpStill_nil ?_;go_wp2_with fail;clear c0 c2
 go_loopw [3] (fun zz wr => ∃ n : Nat, zz = .int .i64 (n : Int) ∧ n ≤ 4 ∧ k + n ≤ s.size ∧ Hid (yl (s.data.toList.drop k) 4 = yl (s.data.toList.drop k) n) ∧ Hid (Rd wr b s beg k op) ∧ Hid (Off b w wr)) (fun zz _ => (intOf zz).toNat)
 case atStart => exact ⟨min 4 (s.size - k), by congr 1; omega, by omega, by omega, HCUT.out, HQ.out, HOQ.out⟩
 case round =>
  rename_i wr hrel
  obtain ⟨n, rfl, hn4, hkn, HC, HR, HO⟩ := hrel;by_cases hz : n = 0
  ·subst hz;have E := za (RN.out (HC.out.trans rfl));have G := za (fun w h => xo b s beg k op 5 w h);go_wp2_with fail;refine (G.out _ HR.out).mono ?_; rintro e w' ⟨rfl, rfl⟩;unfold flt;go_wp2_with fail;exact zf rfl (qv E.out rfl HO.out)
  ·have hn1 : 1 ≤ n := by omega
   obtain ⟨m, hm⟩ : ∃ m, n = m + 1 := ⟨n - 1, by omega⟩;have HPL := za (uA s k n);have HY : Hid (xm ((s.data.toList.drop k).take n) = true → yl (s.data.toList.drop k) n = m + 1) := fun h => by
    subst hm; exact zkf (by rw [List.length_drop, zL]; omega) h
   have HN : Hid (xm ((s.data.toList.drop k).take n) = false → yl (s.data.toList.drop k) n = yl (s.data.toList.drop k) m) := fun h => by
    subst hm; exact zl6 h
   rw [← HPL.out] at HY HN;have RS2 := za (fun h => RS.out m (s.extract k (k + n)) h (by rw [hm]));have hgs : (s.extract k (k + n)).size ≤ 1000000 := by rw [ByteArray.size_extract]; omega
   have HM := za hm;clear hm hz;have I := za (fun w => zge (s.extract k (k + n)) w);have BR := za (fun w h => ze8 b s (s.extract k (k + n)) beg op h0 h1 k w h);have CL := za (fun w => jh (s.extract k (k + n)) hgs w);have c0 := HR.out.c0;have c2 := HR.out.c2;have hw1 : IntKind.i64.wrap ((k : Int) + (n : Int)) = (k : Int) + (n : Int) := IntWalk.i64_in _ (by omega);have hw2 : ((k : Int) + (n : Int)).toNat = k + n := by omega
   go_wp2_with fail
   go_quiet (fail)
   clear hw1 hw2;generalize hgg : s.extract k (k + n) = g at *;clear hgg;have HR1 := za (HR.out.drewN nq);have HO1 := za (HO.out.drewN nq);generalize wr.drewN nq = w1 at *;clear c0 c2;cases hsg : xm g.data.toList
   ·rw [hsg] at I;have E := za (HC.out.trans (HN.out hsg));clear hsg;go_wp2_with fail;refine (I.out _).mono ?_; rintro e w' ⟨rfl, rfl⟩;go_wp2_with fail
    go_roundw
    case rel =>
     have hm := HM.out;exact ⟨m, by subst hm; go_num, by omega, by omega, E.out, HR1.out, HO1.out⟩
    case measure => simp [intOf]; omega
   ·rw [hsg] at I;have E0 := za (RS2.out (HC.out.trans (HY.out hsg)));have hpn : k + (m + 1) = k + n := by rw [HM.out]
    rw [hpn] at E0;have BRR : Hid (zaI g.data.toList k op = if yR g.data.toList = true ∧ op = 240 then .error 6 else .ok (.tuple #[], k, opB g.data.toList op)) := rfl;generalize zaI g.data.toList k op = Z at *;generalize opB g.data.toList op = op2 at *;clear hsg hpn;by_cases hd : yR g.data.toList = true ∧ op = 240
    ·have E := za (E0.out.trans (if_pos hd));have hZ := BRR.out.trans (if_pos hd);subst hZ;clear hd;go_wp2_with fail;refine (I.out _).mono ?_; rintro e w' ⟨rfl, rfl⟩;go_wp2_with fail;refine (BR.out _ HR1.out).mono ?_; rintro e w2 ⟨rfl, hO2⟩;unfold flt;have HO2 := za (HO1.out.trans hO2);clear hO2;go_wp2_with fail;exact zf rfl (qv E.out rfl HO2.out)
    ·have E := za (E0.out.trans (if_neg hd));have hZ := BRR.out.trans (if_neg hd);subst hZ;clear hd;go_wp2_with fail;refine (I.out _).mono ?_; rintro e w' ⟨rfl, rfl⟩;go_wp2_with fail;refine (BR.out _ HR1.out).mono ?_; rintro e w2 ⟨rfl, hR2, hO2⟩;have HR2 := za hR2;have HO2 := za (HO1.out.trans hO2);have c2 := HR2.out.c2;have f2 := HR2.out.fz 2;clear hR2 hO2;go_wp2_with fail;refine (CL.out _).mono ?_; rintro e w3 ⟨rfl, hB3⟩;have HR3 := za ((HR2.out.s2 _).below hB3 (HR2.out.s2 _).lt);have HO3 := za ((HO2.out.set 2 _).below hB3);clear hB3;go_wp2_with fail;go_ret;exact xK E.out rfl HR3.out HO3.out
theorem zbv : ∀ L : List UInt8, qY L ≤ L.length
 | [] => zd _
 | c :: r => by unfold qY; have := zbv r; split <;> simp <;> omega
theorem zbU : ∀ L : List UInt8, Lib.index L [10] = if qY L < L.length then (qY L : Int) else -1
 | [] => rfl
 | c :: r => by
  unfold Lib.index qY;by_cases h : c = 10
  ·subst h; simp [List.isPrefixOf]
  ·have h2 : ([10] : List UInt8).isPrefixOf (c :: r) = false := by simp [List.isPrefixOf]; exact fun e => h e.symm
   rw [h2, zbU r, if_neg h];by_cases hl : qY r < r.length
   ·rw [if_pos hl];have : (((qY r : Nat) : Int) == -1) = false := by rw [zb]; omega
    simp [this, hl]
   ·rw [if_neg hl]; simp [hl]
theorem zkh (L : List UInt8) : (Lib.cut L [10]).1.length = qY L := by
 unfold Lib.cut;rw [zbU];have := zbv L;by_cases h : qY L < L.length
 ·rw [if_pos h, if_pos (by omega)]; simp; omega
 ·rw [if_neg h, if_neg (by decide)]; simp; omega
theorem zaS : ∀ {L : List UInt8} {i : Nat}, vy L = some i → i + 2 ≤ L.length
 | [], _, h => by cases h
 | [_], _, h => by cases h
 | c :: d :: r, i, h => by
  unfold vy at h;split at h
  ·injection h with h; subst h; simp
  ·cases he : vy (d :: r) with
   | none => rw [he] at h; cases h
   | some j =>
    rw [he] at h;have := zaS he;simp at h this ⊢; omega
theorem zaJ : ∀ L : List UInt8, Lib.index L [42, 47] = match vy L with | some i => (i : Int) | none => -1
 | [] => rfl
 | [c] => by simp [Lib.index, vy, List.isPrefixOf]
 | c :: d :: r => by
  unfold Lib.index vy;by_cases h : c = 42 ∧ d = 47
  ·obtain ⟨rfl, rfl⟩ := h; simp [List.isPrefixOf]
  ·have h2 : ([42, 47] : List UInt8).isPrefixOf (c :: d :: r) = false := by
    simp [List.isPrefixOf]; exact fun e1 e2 => h ⟨e1.symm, e2.symm⟩
   rw [h2, zaJ (d :: r), if_neg h];cases vy (d :: r) with
   | none => simp
   | some i =>
    have : (((i : Nat) : Int) == -1) = false := by rw [zb]; omega
    simp [this]
theorem zez {L : List UInt8} {i : Nat} (h : vy L = some i) : (Lib.cut L [42, 47]).1.length = i ∧ (Lib.cut L [42, 47]).2.2 = true := by
 unfold Lib.cut;rw [zaJ, h];have := zaS h;rw [if_pos (by simp)];simp; omega
theorem zeA {L : List UInt8} (h : vy L = none) : (Lib.cut L [42, 47]).2.2 = false := by
 unfold Lib.cut;rw [zaJ, h, if_neg (by decide)]
theorem u0 {P : List UInt8} {x y : UInt8} : Lib.hasPrefix P [x, y] = true ↔ ∃ r, P = x :: y :: r := by
 unfold Lib.hasPrefix
 match P with
 | [] => simp [List.isPrefixOf]
 | [a] => simp [List.isPrefixOf]
 | a :: b :: r =>
  simp [List.isPrefixOf];exact ⟨fun ⟨h1, h2⟩ => ⟨h1.symm, h2.symm⟩, fun ⟨h1, h2⟩ => ⟨h1.symm, h2.symm⟩⟩
theorem zki {R : List UInt8} (h : Lib.hasPrefix R [47, 47] = true) : vz R = some (qY R) := by
 obtain ⟨r, rfl⟩ := u0.1 h; rfl
theorem zl7 {R : List UInt8} (h : Lib.hasPrefix R [47, 42] = true) : vz R = (vy (R.drop 2)).map (· + 4) := by
 obtain ⟨r, rfl⟩ := u0.1 h; rfl
theorem zkj {R : List UInt8} (h : Lib.hasPrefix R [47, 47] = false) (h2 : Lib.hasPrefix R [47, 42] = false) : vz R = some 0 := by
 match R with
 | [] => rfl
 | [a] => rfl
 | a :: b :: r =>
  have e1 : ¬ (a = 47 ∧ b = 47) := by rintro ⟨rfl, rfl⟩; rw [u0.2 ⟨r, rfl⟩] at h; cases h
  have e2 : ¬ (a = 47 ∧ b = 42) := by rintro ⟨rfl, rfl⟩; rw [u0.2 ⟨r, rfl⟩] at h2; cases h2
  show (if a = 47 ∧ b = 47 then _ else if a = 47 ∧ b = 42 then _ else some 0) = some 0
  rw [if_neg e1, if_neg e2]
def ML (b : Nat) (w : World) : Prop := 2 < b ∧ ∃ m, w.cell? ⟨2, 0, none⟩ = some (.int .i64 m)
theorem ML.off {b : Nat} {w w' : World} (h : ML b w) (hb : b < w.heap.size) (o : Off b w w') : ML b w' := by
 obtain ⟨h1, m, h2⟩ := h;exact ⟨h1, m, (o.cell (p := ⟨2, 0, none⟩) (by show 2 < _; omega) (by show 2 ≠ _; omega)).trans h2⟩
def zcn (b : Nat) (beg : Int) (w : World) (r : Option Nat) (e : Ending) (w' : World) : Prop := match r with
 | some n => e = .returned (.int .i64 (n : Int)) ∧ ∃ nd, w' = w.drewN nd
 | none => e = flt beg 5 ∧ Off b w w'
theorem zco {b : Nat} {beg : Int} {w : World} {r : Option Nat} {e : Ending} {n nd : Nat} (h : r = some n) (he : e = .returned (.int .i64 (n : Int))) : zcn b beg w r e (w.drewN nd) := by subst h; exact ⟨he, nd, rfl⟩
theorem zl8 {b : Nat} {beg : Int} {w w' : World} {r : Option Nat} {e : Ending} (h : r = none) (he : e = flt beg 5) (ho : Off b w w') : zcn b beg w r e w' := by subst h; exact ⟨he, ho⟩
theorem zg3 (b : Nat) (s : ByteArray) (hs : s.size ≤ 100000) (beg op : Int) (k : Nat) (hk : k ≤ s.size) (w : World) (h : Rd w b s beg k op) (hm : ML b w) :
  Calls Tryz.prog 123 #[.pointer (some ⟨b, 0, none⟩)] w (zcn b k w (vz (s.data.toList.drop k))) := by
 have H := za h;have c0 := h.c0;have c2 := h.c2;have f1 := h.fz 1;have c1 := h.c1;obtain ⟨hmb, m, hmc⟩ := hm;have HMC := za hmc;clear h hmc;have htl : (s.extract k s.size).data.toList = s.data.toList.drop k := by rw [Lib.extract_data, List.take_of_length_le (by rw [List.length_drop, zL]; exact zd _)]
 have hts : (s.extract k s.size).size ≤ 100000 := by rw [ByteArray.size_extract]; omega
 have P1 := za (fun w => Tryz.strings_HasPrefix (s.extract k s.size) ⟨#[47, 47]⟩ w);have P2 := za (fun w => Tryz.strings_HasPrefix (s.extract k s.size) ⟨#[47, 42]⟩ w);have CL := za (fun w hm => Tryz.strings_Cut (s.extract k s.size) ⟨#[10]⟩ m w (by omega) hm);have CE := za (fun w hm => Tryz.strings_Cut ((s.extract k s.size).extract 2 (s.extract k s.size).size) ⟨#[42, 47]⟩ m w (by rw [ByteArray.size_extract]; omega) hm);have hel : ((s.extract k s.size).extract 2 (s.extract k s.size).size).data.toList = (s.data.toList.drop k).drop 2 := by
  rw [Lib.extract_data, htl, List.take_of_length_le (by rw [List.length_drop, ← htl, zL]; exact zd _)]
 rw [htl] at P1 P2 CL;rw [hel] at CE;rw [show (⟨#[47, 47]⟩ : ByteArray).data.toList = [47, 47] from rfl] at P1;rw [show (⟨#[47, 42]⟩ : ByteArray).data.toList = [47, 42] from rfl] at P2;rw [show (⟨#[10]⟩ : ByteArray).data.toList = [10] from rfl] at CL;rw [show (⟨#[42, 47]⟩ : ByteArray).data.toList = [42, 47] from rfl] at CE;have RL := za (@zki (s.data.toList.drop k));have RE := za (@zl7 (s.data.toList.drop k));have RN := za (@zkj (s.data.toList.drop k));have NL := za (zkh (s.data.toList.drop k));have NE := za (fun i => @zez ((s.data.toList.drop k).drop 2) i);have NN := za (@zeA ((s.data.toList.drop k).drop 2));have HG : Hid (∀ r : List UInt8, Lib.hasPrefix r [47, 42] = true → 2 ≤ r.length) := fun r hr => by
  obtain ⟨r2, rfl⟩ := u0.1 hr; simp
 have HTL := za htl;clear htl hel;have hts2 : (s.extract k s.size).size = (s.data.toList.drop k).length := by rw [← HTL.out, zL]
 have HTS2 := za hts2;clear hts2;generalize vz (s.data.toList.drop k) = R at *;cases p1 : Lib.hasPrefix (s.data.toList.drop k) [47, 47]
 ·cases p2 : Lib.hasPrefix (s.data.toList.drop k) [47, 42]
  ·rw [p1] at P1;rw [p2] at P2;have E := za (RN.out p1 p2);clear p1 p2
   go_enter Tryz.func123, Tryz.ntmps123
   go_wp2_with fail
   go_quiet (fail)
   go_wp2_with fail;refine (P1.out _).mono ?_; rintro e w' ⟨rfl, rfl⟩;go_wp2_with fail;refine (P2.out _).mono ?_; rintro e w' ⟨rfl, rfl⟩;go_wp2_with fail;go_ret;exact zco E.out rfl
  ·rw [p1] at P1;rw [p2] at P2;have hlen := HG.out _ p2;rw [← HTS2.out] at hlen;have hl2 : (2 : Int) ≤ ((s.extract k s.size).size : Int) := by omega
   have E0 := za (RE.out p2);clear p1 p2;generalize hT : s.extract k s.size = t at *;have HT := za hT;clear hT;cases he : vy ((s.data.toList.drop k).drop 2) with
   | none =>
    have E := za (E0.out.trans (by rw [he, Option.map_none]));rw [NN.out he] at CE;clear he;generalize (Lib.cut ((s.data.toList.drop k).drop 2) [42, 47]).1 = x1 at *;generalize (Lib.cut ((s.data.toList.drop k).drop 2) [42, 47]).2.1 = x2 at *;have G := za (fun w h => xo b s k k op 5 w h)
    go_enter Tryz.func123, Tryz.ntmps123
    go_wp2_with fail
    go_quiet (fail)
    rw [HT.out];go_wp2_with fail;refine (P1.out _).mono ?_; rintro e w' ⟨rfl, rfl⟩;go_wp2_with fail;refine (P2.out _).mono ?_; rintro e w' ⟨rfl, rfl⟩;go_wp2_with fail;refine (CE.out (w.drewN nq) HMC.out).mono ?_; rintro e w' ⟨rfl, nd, rfl⟩;go_wp2_with fail;refine (G.out _ (((H.out.drewN _).s1 _))).mono ?_; rintro e w' ⟨rfl, rfl⟩;unfold flt;go_wp2_with fail;exact zf rfl (zl8 E.out rfl ((Off.refl _ _).drewN _ |>.set _ _))
   | some i =>
    have E := za (E0.out.trans (by rw [he, Option.map_some]));have N := NE.out i he;rw [N.2] at CE;have N1 := za N.1;have hi := zaS he;rw [List.length_drop, ← HTS2.out] at hi;clear he N;generalize (Lib.cut ((s.data.toList.drop k).drop 2) [42, 47]).1 = x1 at *;generalize (Lib.cut ((s.data.toList.drop k).drop 2) [42, 47]).2.1 = x2 at *;obtain ⟨t1, ht1⟩ : ∃ t1 : ByteArray, t1 = ⟨x1.toArray⟩ := ⟨_, rfl⟩;have h1z : t1.size = i := by rw [ht1, ← N1.out]; simp [ByteArray.size]
    rw [← ht1] at CE;have HZ := za h1z;have h1b : t1.size ≤ 100000 := by omega
    clear ht1 h1z hi
    go_enter Tryz.func123, Tryz.ntmps123
    go_wp2_with fail
    go_quiet (fail)
    rw [HT.out];go_wp2_with fail;refine (P1.out _).mono ?_; rintro e w' ⟨rfl, rfl⟩;go_wp2_with fail;refine (P2.out _).mono ?_; rintro e w' ⟨rfl, rfl⟩;go_wp2_with fail;refine (CE.out (w.drewN nq) HMC.out).mono ?_; rintro e w' ⟨rfl, nd, rfl⟩;go_wp2_with fail;go_ret;exact zco E.out (by rw [← HZ.out]; rfl)
 ·rw [p1] at P1;have E := za (RL.out p1);clear p1;generalize (Lib.cut (s.data.toList.drop k) [10]).1 = x1 at *;generalize (Lib.cut (s.data.toList.drop k) [10]).2.1 = x2 at *;generalize (Lib.cut (s.data.toList.drop k) [10]).2.2 = x3 at *;obtain ⟨t1, ht1⟩ : ∃ t1 : ByteArray, t1 = ⟨x1.toArray⟩ := ⟨_, rfl⟩;have h1z : t1.size = qY (s.data.toList.drop k) := by rw [ht1, ← NL.out]; simp [ByteArray.size]
  rw [← ht1] at CL;have HZ := za h1z;clear ht1 h1z
  go_enter Tryz.func123, Tryz.ntmps123
  go_wp2_with fail
  go_quiet (fail)
  go_wp2_with fail;refine (P1.out _).mono ?_; rintro e w' ⟨rfl, rfl⟩;go_wp2_with fail;refine (CL.out (w.drewN nq) HMC.out).mono ?_; rintro e w' ⟨rfl, nd, rfl⟩;go_wp2_with fail;go_ret;exact zco E.out (by rw [← HZ.out]; rfl)
def zc6 (l0 l1 : Nat) (K0 K1 : Act → World → Prop) (Q : Exit → Act → World → Prop) : Exit → Act → World → Prop
 | .goto l, a, w => (l = l0 ∧ K0 a w) ∨ (l = l1 ∧ K1 a w)
 | e, a, w => Q e a w
theorem zeB {P : Program} {a : Act} {w : World} {Q : Exit → Act → World → Prop} {X r0 : Code} (l0 l1 : Nat) (hl : l0 ≠ l1) (J0 J1 : Act → World → Prop) (m0 m1 : Act → World → Nat)
    (h0 : findLabel ((Code.label l1).seq X) l0 = some r0) (hJ : J1 a w)
    (pass0 : ∀ a w, J0 a w → r0.wp P (zc6 l0 l1 (fun a' w' => J0 a' w' ∧ m0 a' w' < m0 a w) (fun a' w' => J1 a' w' ∧ m1 a' w' < m0 a w) Q) a w)
    (pass1 : ∀ a w, J1 a w → X.wp P (zc6 l0 l1 (fun a' w' => J0 a' w' ∧ m0 a' w' < m1 a w) (fun a' w' => J1 a' w' ∧ m1 a' w' < m1 a w) Q) a w) :
    (Code.scope ((Code.label l1).seq X)).wp P Q a w := by
  intro b k cs;have h1 : findLabel ((Code.label l1).seq X) l1 = some (Code.skip.seq X) := by simp [findLabel]
  have g0 : gotoIn l0 (.inScope ((Code.label l1).seq X) :: k) = some (.code r0 :: .inScope ((Code.label l1).seq X) :: k) := by simp [gotoIn, h0]
  have g1 : gotoIn l1 (.inScope ((Code.label l1).seq X) :: k) = some (.code (Code.skip.seq X) :: .inScope ((Code.label l1).seq X) :: k) := by simp [gotoIn, h1]
  have key : ∀ n, (∀ a w, m0 a w = n → J0 a w → ∃ e a' w', Q e a' w' ∧ Arrives P (lone (b.at a (.code r0 :: .inScope ((Code.label l1).seq X) :: k)) cs w) b k cs e a' w') ∧
      (∀ a w, m1 a w = n → J1 a w → ∃ e a' w', Q e a' w' ∧ Arrives P (lone (b.at a (.code (Code.skip.seq X) :: .inScope ((Code.label l1).seq X) :: k)) cs w) b k cs e a' w') := by
    intro n
    induction n using Nat.strongRecOn with
    | _ n ih =>
      have run : ∀ (r : Code) (a : Act) (w : World), (r.wp P (zc6 l0 l1 (fun a' w' => J0 a' w' ∧ m0 a' w' < n) (fun a' w' => J1 a' w' ∧ m1 a' w' < n) Q) a w) →
          ∃ e a' w', Q e a' w' ∧ Arrives P (lone (b.at a (.code r :: .inScope ((Code.label l1).seq X) :: k)) cs w) b k cs e a' w' := by
        intro r a w hw;obtain ⟨e, a₁, w₁, hq, harr⟩ := hw b (.inScope ((Code.label l1).seq X) :: k) cs;cases e with
        | normal => exact ⟨.normal, a₁, w₁, hq, Steps.trans harr (.one step_inScope)⟩
        | exit id => exact ⟨.exit id, a₁, w₁, hq, fun k' hk => harr k' (by simp [exitTo, hk])⟩
        | goto l' =>
          rcases hq with ⟨rfl, hJ', hlt⟩ | ⟨rfl, hJ', hlt⟩
          · obtain ⟨e₂, a₂, w₂, hq₂, harr₂⟩ := (ih _ hlt).1 a₁ w₁ rfl hJ';exact ⟨e₂, a₂, w₂, hq₂, .of_steps (harr _ g0) harr₂⟩
          · obtain ⟨e₂, a₂, w₂, hq₂, harr₂⟩ := (ih _ hlt).2 a₁ w₁ rfl hJ';exact ⟨e₂, a₂, w₂, hq₂, .of_steps (harr _ g1) harr₂⟩
        | ret => exact ⟨_, a₁, w₁, hq, harr⟩
        | panic ch => exact ⟨_, a₁, w₁, hq, harr⟩
        | outgrown => exact ⟨_, a₁, w₁, hq, harr⟩
      exact ⟨fun a w hm hJ0 => run r0 a w (hm ▸ pass0 a w hJ0), fun a w hm hJ1 => run (Code.skip.seq X) a w (wp_seq (wp_skip (hm ▸ pass1 a w hJ1)))⟩
  obtain ⟨e₂, a₂, w₂, hq₂, harr₂⟩ := (key _).2 a w rfl hJ
  -- from the beginning: the label is passed over as skip is
  have run : ∀ (a : Act) (w : World), (X.wp P (zc6 l0 l1 (fun a' w' => J0 a' w') (fun a' w' => J1 a' w') Q) a w) →
      ∃ e a' w', Q e a' w' ∧ Arrives P (lone (b.at a (.code ((Code.label l1).seq X) :: .inScope ((Code.label l1).seq X) :: k)) cs w) b k cs e a' w' := by
    intro a w hw;obtain ⟨e, a₁, w₁, hq, harr⟩ := (wp_seq (wp_label hw)) b (.inScope ((Code.label l1).seq X) :: k) cs;cases e with
    | normal => exact ⟨.normal, a₁, w₁, hq, Steps.trans harr (.one step_inScope)⟩
    | exit id => exact ⟨.exit id, a₁, w₁, hq, fun k' hk => harr k' (by simp [exitTo, hk])⟩
    | goto l' =>
      rcases hq with ⟨rfl, hJ'⟩ | ⟨rfl, hJ'⟩
      · obtain ⟨e₂, a₂, w₂, hq₂, harr₂⟩ := (key _).1 a₁ w₁ rfl hJ';exact ⟨e₂, a₂, w₂, hq₂, .of_steps (harr _ g0) harr₂⟩
      · obtain ⟨e₂, a₂, w₂, hq₂, harr₂⟩ := (key _).2 a₁ w₁ rfl hJ';exact ⟨e₂, a₂, w₂, hq₂, .of_steps (harr _ g1) harr₂⟩
    | ret => exact ⟨_, a₁, w₁, hq, harr⟩
    | panic ch => exact ⟨_, a₁, w₁, hq, harr⟩
    | outgrown => exact ⟨_, a₁, w₁, hq, harr⟩
  obtain ⟨e, a₁, w₁, hq, harr⟩ := run a w (wp_mono (pass1 a w hJ) (fun e a' w' hq => by
    cases e with
    | goto l' => rcases hq with ⟨h, h'⟩ | ⟨h, h'⟩; exact .inl ⟨h, h'.1⟩; exact .inr ⟨h, h'.1⟩
    | normal => exact hq
    | exit id => exact hq
    | ret => exact hq
    | panic ch => exact hq
    | outgrown => exact hq))
  exact ⟨e, a₁, w₁, hq, .of_steps (.one step_scope) harr⟩
def vD (n : Nat) (g : Nat × Bool) : Nat × Bool := (n + g.1, g.2)
theorem zeC (n m : Nat) (g : Nat × Bool) : vD n (vD m g) = vD (n + m) g := by simp [vD, Nat.add_assoc]
theorem zl9 {s : ByteArray} {p : Nat} (h : s.size ≤ p) : gap (s.data.toList.drop p) = (0, true) := by rw [qo s p h, gap]
theorem ziz {s : ByteArray} {p : Nat} (h : p < s.size) (hb : qa s[p] = true) : gap (s.data.toList.drop p) = vD 1 (gap (s.data.toList.drop (p + 1))) := by
 rw [zO s p h, gap, if_pos hb]; simp [vD, Nat.add_comm]
theorem zma {s : ByteArray} {p : Nat} (h : p < s.size) (hb : qa s[p] = false) (hr : vz (s.data.toList.drop p) = none) : gap (s.data.toList.drop p) = (0, false) := by
 rw [zO s p h] at hr ⊢;rw [gap, if_neg (by rw [hb]; decide)]; split
 ·rfl
 ·rename_i h2; rw [hr] at h2; cases h2
 ·rename_i h2; rw [hr] at h2; cases h2
theorem zeD {s : ByteArray} {p : Nat} (h : p < s.size) (hb : qa s[p] = false) (hr : vz (s.data.toList.drop p) = some 0) : gap (s.data.toList.drop p) = (0, true) := by
 rw [zO s p h] at hr ⊢;rw [gap, if_neg (by rw [hb]; decide)]; split
 ·rename_i h2; rw [hr] at h2; cases h2
 ·rfl
 ·rename_i h2; rw [hr] at h2; cases h2
theorem zmb {s : ByteArray} {p n : Nat} (h : p < s.size) (hb : qa s[p] = false) (hr : vz (s.data.toList.drop p) = some (n + 1)) : gap (s.data.toList.drop p) = vD (n + 1) (gap (s.data.toList.drop (p + (n + 1)))) := by
 rw [show p + (n + 1) = p + 1 + n by omega, ← List.drop_drop, zO s p h] at *;rw [gap, if_neg (by rw [hb]; decide)]; split
 ·rename_i h2; rw [hr] at h2; cases h2
 ·rename_i h2; rw [hr] at h2; cases h2
 ·rename_i m h2; rw [hr] at h2; injection h2 with h2; injection h2 with h2; subst h2
  simp [vD, Nat.add_comm]
theorem ziA {c : UInt8} {r : List UInt8} (hc : ¬ c = 47) : vz (c :: r) = some 0 := by
 match r with
 | [] => rfl
 | d :: r =>
  show (if c = 47 ∧ d = 47 then _ else if c = 47 ∧ d = 42 then _ else some 0) = some 0
  rw [if_neg (fun h => hc h.1), if_neg (fun h => hc h.1)]
theorem ziB {R : List UInt8} {n : Nat} (h : vz R = some n) : n ≤ R.length := by
 match R with
 | [] => injection h with h; omega
 | [a] => injection h with h; omega
 | a :: b :: r =>
  have h : (if a = 47 ∧ b = 47 then some (qY (a :: b :: r)) else if a = 47 ∧ b = 42 then (vy r).map (· + 4) else some 0) = some n := h;split at h
  ·injection h with h; rw [← h]; exact zbv _
  ·split at h
   ·cases he : vy r with
    | none => rw [he] at h; cases h
    | some i => rw [he] at h; injection h with h; have h : i + 4 = n := h; have := zaS he; simp; omega
   ·injection h with h; omega
def zbw (b : Nat) (s : ByteArray) (beg op : Int) (k : Nat) (w : World) (g : Nat × Bool) (e : Ending) (w' : World) : Prop := match g with
 | (n, true) => e = .returned (.tuple #[]) ∧ Rd w' b s beg (k + n : Nat) op ∧ Off b w w'
 | (n, false) => e = flt (k + n : Nat) 5 ∧ Off b w w'
theorem zg4 {b : Nat} {s : ByteArray} {beg op : Int} {k : Nat} {w : World} {g : Nat × Bool} {e : Ending} {w' : World} {p : Nat} (h : g = (p, true)) (he : e = .returned (.tuple #[])) (hr : Rd w' b s beg (k + p : Nat) op) (ho : Off b w w') : zbw b s beg op k w g e w' := by subst h; exact ⟨he, hr, ho⟩
theorem znE {b : Nat} {s : ByteArray} {beg op : Int} {k : Nat} {w : World} {g : Nat × Bool} {e : Ending} {w' : World} {p : Nat} (h : g = (p, false)) (he : e = flt (k + p : Nat) 5) (ho : Off b w w') : zbw b s beg op k w g e w' := by subst h; exact ⟨he, ho⟩
def At (b : Nat) (s : ByteArray) (beg op : Int) (k : Nat) (G : Nat × Bool) (w w' : World) (p : Nat) : Prop :=
 k ≤ p ∧ p ≤ s.size ∧ Rd w' b s beg p op ∧ Off b w w' ∧ ML b w' ∧ G = vD (p - k) (gap (s.data.toList.drop p))
def Jb (b : Nat) (s : ByteArray) (beg op : Int) (k : Nat) (G : Nat × Bool) (w : World) (a' : Act) (w' : World) : Prop :=
 ∃ u1 u2 u3 u4 u5 u6 u7 u8 u9 u10 u11 u12 u13 u14 u15 u16 u17 u18 u19 u20 u21 u22 u23 u24 u25 u26 u27 u28 u29 u30 u31 u32 u33 u34 u35 u36 u37 u38 u39 u40 u41 u42 u43 u44 u45 u46 u47 : Value, a' = { tmps := #[.pointer (some ⟨b, 0, none⟩), u1, u2, u3, u4, u5, u6, u7, u8, u9, u10, u11, u12, u13, u14, u15, u16, u17, u18, u19, u20, u21, u22, u23, u24, u25, u26, u27, u28, u29, u30, u31, u32, u33, u34, u35, u36, u37, u38, u39, u40, u41, u42, u43, u44, u45, u46, u47], defers := [] } ∧ ∃ p, At b s beg op k G w w' p
def Js (b : Nat) (s : ByteArray) (beg op : Int) (k : Nat) (G : Nat × Bool) (w : World) (a' : Act) (w' : World) : Prop :=
 ∃ u1 u2 u3 u4 u5 u6 u7 u8 u9 u10 u11 u12 u13 u14 u15 u16 u17 u18 u19 u20 u21 u22 u23 u24 u25 u26 u27 u28 u29 u30 u31 u32 u33 u34 u35 u36 u37 u38 u39 u40 u41 u42 u43 u44 u45 u46 u47 : Value, a' = { tmps := #[.pointer (some ⟨b, 0, none⟩), u1, u2, u3, u4, u5, u6, u7, u8, u9, u10, u11, u12, u13, u14, u15, u16, u17, u18, u19, u20, u21, u22, u23, u24, u25, u26, u27, u28, u29, u30, u31, u32, u33, u34, u35, u36, u37, u38, u39, u40, u41, u42, u43, u44, u45, u46, u47], defers := [] } ∧ ∃ (p : Nat) (hp : p < s.size), s[p] = 47 ∧ At b s beg op k G w w' p
def zaK (b : Nat) (w : World) : Int := intOf ((w.cell? ⟨b, 2, none⟩).getD (.int .i64 0))
theorem zaT {b : Nat} {s : ByteArray} {beg op : Int} {p : Nat} {w : World} (h : Rd w b s beg p op) : zaK b w = p := by unfold zaK; rw [h.c2]; rfl
def mb (b : Nat) (s : ByteArray) (a : Act) (w : World) : Nat := 2 * (s.size - (zaK b w).toNat) + 1
def ms (b : Nat) (s : ByteArray) (a : Act) (w : World) : Nat := 2 * (s.size - (zaK b w).toNat)
theorem zeE (b : Nat) (s : ByteArray) (hs : s.size ≤ 100000) (beg op : Int) (k : Nat) (hk : k ≤ s.size) (w : World) (h : Rd w b s beg k op) (hm : ML b w) :
  Calls Tryz.prog 90 #[.pointer (some ⟨b, 0, none⟩)] w (zbw b s beg op k w (gap (s.data.toList.drop k))) := by
 have HG : Hid (gap (s.data.toList.drop k) = vD (k - k) (gap (s.data.toList.drop k))) := by show _ = _; simp [vD]
 have hbl := h.lt;have HA : Hid (At b s beg op k (gap (s.data.toList.drop k)) w w k) := ⟨by omega, hk, h, Off.refl _ _, hm, HG.out⟩;generalize gap (s.data.toList.drop k) = G at *;clear h hm HG
 go_enter Tryz.func90, Tryz.ntmps90
 refine zeB 0 1 (by decide) (Js b s beg op k G w) (Jb b s beg op k G w) (ms b s) (mb b s) rfl ⟨_, _, _, _, _, _, _, _, _, _, _, _, _, _, _, _, _, _, _, _, _, _, _, _, _, _, _, _, _, _, _, _, _, _, _, _, _, _, _, _, _, _, _, _, _, _, _, rfl, k, HA.out⟩ ?_ ?_
 ·rintro a' w' ⟨u1, u2, u3, u4, u5, u6, u7, u8, u9, u10, u11, u12, u13, u14, u15, u16, u17, u18, u19, u20, u21, u22, u23, u24, u25, u26, u27, u28, u29, u30, u31, u32, u33, u34, u35, u36, u37, u38, u39, u40, u41, u42, u43, u44, u45, u46, u47, rfl, p, hp, hc, hkp, hps, hR, hO, hM, hG⟩;have RK := za (zg3 b s hs beg op p hps w' hR hM);have RL := za (fun n => @ziB (s.data.toList.drop p) n);have hbk : qa s[p] = false := by rw [hc]; rfl
  have GB := za (@zma s p hp hbk);have GN := za (@zeD s p hp hbk);have GR := za (fun n => @zmb s p n hp hbk);have HR := za hR;have HO := za hO;have HM := za hM;have HGG := za hG;have hk2 : k + (p - k) = p := by omega
  have HK2 := za hk2;clear hR hO hM hG hbk hk2 hc;generalize hrn : vz (s.data.toList.drop p) = rn at *;clear hrn;rcases rn with _ | n
  ·have E := za (HGG.out.trans (show _ = (p - k + 0, false) by rw [GB.out rfl, vD]));go_wp2_with fail;refine RK.out.mono ?_; rintro e w2 ⟨rfl, hO2⟩;unfold flt;have HO2 := za (HO.out.trans hO2);clear hO2;go_wp2_with fail;exact zf (P := Tryz.prog) (fn := Tryz.f90) rfl (znE E.out (by rw [Nat.add_zero, HK2.out]; rfl) HO2.out)
  ·rcases n with _ | n
   ·have E := za (HGG.out.trans (show _ = (p - k + 0, true) by rw [GN.out rfl, vD]));go_wp2_with fail;refine RK.out.mono ?_; rintro e w2 ⟨rfl, nd, rfl⟩;go_wp2_with fail
    go_end0
    exact zg4 E.out rfl (by rw [Nat.add_zero, HK2.out]; exact HR.out.drewN _) (HO.out.drewN _)
   ·have hl := RL.out _ rfl;rw [List.length_drop, zL] at hl;have E := za (HGG.out.trans (by rw [GR.out n rfl, zeC, show p - k + (n + 1) = p + (n + 1) - k by omega]));have c2 := HR.out.c2;have f2 := HR.out.fz 2;have PM := za (zaT HR.out);have hn0 : (0 : Int) < ((n + 1 : Nat) : Int) := by omega
    go_wp2_with fail;refine RK.out.mono ?_; rintro e w2 ⟨rfl, nd, rfl⟩;go_wp2_with fail
    go_step3
    have HR2 := za ((HR.out.drewN nd).s2 ((p + (n + 1) : Nat) : Int));have PM2 := za (zaT HR2.out);refine .inr ⟨rfl, ⟨_, _, _, _, _, _, _, _, _, _, _, _, _, _, _, _, _, _, _, _, _, _, _, _, _, _, _, _, _, _, _, _, _, _, _, _, _, _, _, _, _, _, _, _, _, _, _, rfl, p + (n + 1), by omega, by omega, HR2.out, (HO.out.drewN _).set _ _, HM.out.off HR.out.lt (((Off.refl _ _).drewN _).set _ _), E.out⟩, ?_⟩;show 2 * (s.size - (zaK b _).toNat) + 1 < 2 * (s.size - (zaK b _).toNat)
    rw [PM.out];refine Nat.lt_of_le_of_lt (Nat.le_of_eq (congrArg (fun z : Int => 2 * (s.size - z.toNat) + 1) PM2.out)) ?_;simp; omega
 ·rintro a' w' ⟨u1, u2, u3, u4, u5, u6, u7, u8, u9, u10, u11, u12, u13, u14, u15, u16, u17, u18, u19, u20, u21, u22, u23, u24, u25, u26, u27, u28, u29, u30, u31, u32, u33, u34, u35, u36, u37, u38, u39, u40, u41, u42, u43, u44, u45, u46, u47, rfl, p, hkp, hps, hR, hO, hM, hG⟩;have HA2 : Hid (At b s beg op k G w w' p) := ⟨hkp, hps, hR, hO, hM, hG⟩;have PM := za (zaT hR);clear hR hO hM hG;go_wp2_with fail
  go_loopg [] (s.size - p) (fun g wr => ∃ q : Nat, p ≤ q ∧ g = s.size - q ∧ Hid (At b s beg op k G w wr q))
  case atStart => exact ⟨p, by omega, rfl, HA2.out⟩
  case round =>
   obtain ⟨q, hpq, rfl, HA3⟩ := hrel;obtain ⟨hkq, hqs, hR, hO, hM, hG⟩ := HA3.out;have c0 := hR.c0;have c2 := hR.c2;have f2 := hR.fz 2;have HR := za hR;have HO := za hO;have HM := za hM;have HGG := za hG;have hk2 : k + (q - k) = q := by omega
   have HK2 := za hk2;clear hR hO hM hG hk2 HA3;by_cases hlt : q < s.size
   ·have GBL := za (@ziz s q hlt);have GN := za (@zeD s q hlt);have RO := za (fun (h : ¬ s[q] = 47) => (show vz (s.data.toList.drop q) = some 0 by rw [zO s q hlt]; exact ziA h));have HCI : Hid (∀ x : UInt8, (s[q].toNat : Int) = (x.toNat : Int) → s[q] = x) := fun x h => xY h
    by_cases hb : qa s[q] = true
    ·have E := za (HGG.out.trans (by rw [GBL.out hb, zeC, show q - k + 1 = q + 1 - k by omega]));have hcs : (s[q].toNat : Int) = 32 ∨ (s[q].toNat : Int) = 9 ∨ (s[q].toNat : Int) = 13 ∨ (s[q].toNat : Int) = 10 := by
      unfold qa at hb;simp only [Bool.or_eq_true, beq_iff_eq] at hb;rcases hb with ((h | h) | h) | h <;> rw [h] <;> simp
     clear hb;rcases hcs with h | h | h | h
     ·have q32 : ((s[q].toNat : Int) == 32) = true := by rw [h]; rfl
      clear h;go_wp2_with fail
      go_quiet (fail)
      go_wp2_with fail
      go_quiet (fail)
      go_wp2_with fail
      go_roundg (s.size - (q + 1))
      case measure => omega
      case rel =>
       exact ⟨q + 1, by omega, rfl, by omega, by omega, (HR.out.drewN _).s2 _, (HO.out.drewN _).set _ _, HM.out.off HR.out.lt (((Off.refl _ _).drewN _).set _ _), E.out⟩
     ·have q32 : ((s[q].toNat : Int) == 32) = false := by rw [h]; rfl
      have q9 : ((s[q].toNat : Int) == 9) = true := by rw [h]; rfl
      clear h;go_wp2_with fail
      go_quiet (fail)
      go_wp2_with fail
      go_quiet (fail)
      go_wp2_with fail
      go_roundg (s.size - (q + 1))
      case measure => omega
      case rel =>
       exact ⟨q + 1, by omega, rfl, by omega, by omega, (HR.out.drewN _).s2 _, (HO.out.drewN _).set _ _, HM.out.off HR.out.lt (((Off.refl _ _).drewN _).set _ _), E.out⟩
     ·have q32 : ((s[q].toNat : Int) == 32) = false := by rw [h]; rfl
      have q9 : ((s[q].toNat : Int) == 9) = false := by rw [h]; rfl
      have q13 : ((s[q].toNat : Int) == 13) = true := by rw [h]; rfl
      clear h;go_wp2_with fail
      go_quiet (fail)
      go_wp2_with fail
      go_quiet (fail)
      go_wp2_with fail
      go_roundg (s.size - (q + 1))
      case measure => omega
      case rel =>
       exact ⟨q + 1, by omega, rfl, by omega, by omega, (HR.out.drewN _).s2 _, (HO.out.drewN _).set _ _, HM.out.off HR.out.lt (((Off.refl _ _).drewN _).set _ _), E.out⟩
     ·have q32 : ((s[q].toNat : Int) == 32) = false := by rw [h]; rfl
      have q9 : ((s[q].toNat : Int) == 9) = false := by rw [h]; rfl
      have q13 : ((s[q].toNat : Int) == 13) = false := by rw [h]; rfl
      have q10 : ((s[q].toNat : Int) == 10) = true := by rw [h]; rfl
      clear h;go_wp2_with fail
      go_quiet (fail)
      go_wp2_with fail
      go_quiet (fail)
      go_wp2_with fail
      go_roundg (s.size - (q + 1))
      case measure => omega
      case rel =>
       exact ⟨q + 1, by omega, rfl, by omega, by omega, (HR.out.drewN _).s2 _, (HO.out.drewN _).set _ _, HM.out.off HR.out.lt (((Off.refl _ _).drewN _).set _ _), E.out⟩
    ·have hb2 : qa s[q] = false := by simpa using hb
     have hnb : ¬ (s[q].toNat : Int) = 32 ∧ ¬ (s[q].toNat : Int) = 9 ∧ ¬ (s[q].toNat : Int) = 13 ∧ ¬ (s[q].toNat : Int) = 10 := by
      refine ⟨?_, ?_, ?_, ?_⟩ <;> (intro h; first | (have := HCI.out 32 h; rw [this] at hb; exact hb rfl) | (have := HCI.out 9 h; rw [this] at hb; exact hb rfl) | (have := HCI.out 13 h; rw [this] at hb; exact hb rfl) | (have := HCI.out 10 h; rw [this] at hb; exact hb rfl))
     obtain ⟨n32, n9, n13, n10⟩ := hnb;have q32 : ((s[q].toNat : Int) == 32) = false := by rw [zb]; exact n32
     have q9 : ((s[q].toNat : Int) == 9) = false := by rw [zb]; exact n9
     have q13 : ((s[q].toNat : Int) == 13) = false := by rw [zb]; exact n13
     have q10 : ((s[q].toNat : Int) == 10) = false := by rw [zb]; exact n10
     clear n32 n9 n13 n10 hb;by_cases h47 : (s[q].toNat : Int) = 47
     ·have HC := za (HCI.out 47 h47);have q47 : ((s[q].toNat : Int) == 47) = true := by rw [h47]; rfl
      clear h47 hb2;go_wp2_with fail
      go_quiet (fail)
      go_wp2_with fail
      go_quiet (fail)
      go_wp2_with fail
      go_step3
      refine .inl ⟨rfl, ⟨_, _, _, _, _, _, _, _, _, _, _, _, _, _, _, _, _, _, _, _, _, _, _, _, _, _, _, _, _, _, _, _, _, _, _, _, _, _, _, _, _, _, _, _, _, _, _, rfl, q, hlt, HC.out, hkq, hqs, HR.out.drewN _, HO.out.drewN _, HM.out.off HR.out.lt ((Off.refl _ _).drewN _), HGG.out⟩, ?_⟩;show 2 * (s.size - (zaK b _).toNat) < 2 * (s.size - (zaK b _).toNat) + 1
      rw [PM.out];refine Nat.lt_of_le_of_lt (Nat.le_of_eq (congrArg (fun z : Int => 2 * (s.size - z.toNat)) (zaT (HR.out.drewN _)))) ?_;simp; omega
     ·have hne : ¬ s[q] = 47 := fun h => h47 (by rw [h]; rfl)
      have E := za (HGG.out.trans (show _ = (q - k + 0, true) by rw [GN.out hb2 (RO.out hne), vD]));have q47 : ((s[q].toNat : Int) == 47) = false := by rw [zb]; exact h47
      clear h47 hb2 hne;go_wp2_with fail
      go_quiet (fail)
      go_wp2_with fail
      go_quiet (fail)
      go_wp2_with fail;exact bodyPost_ret (P := Tryz.prog) (fn := Tryz.f90) (results_none rfl _ _ _) rfl (zg4 E.out rfl (by rw [Nat.add_zero, HK2.out]; exact HR.out.drewN _) (HO.out.drewN _))
   ·have E := za (HGG.out.trans (show _ = (q - k + 0, true) by rw [zl9 (by omega), vD]));go_wp2_with fail
    go_quiet (fail)
    go_wp2_with fail;exact bodyPost_ret (P := Tryz.prog) (fn := Tryz.f90) (results_none rfl _ _ _) rfl (zg4 E.out rfl (by rw [Nat.add_zero, HK2.out]; exact HR.out.drewN _) (HO.out.drewN _))
end Go.Proofs.YtfcgpphodacdmaaGreatDoor
