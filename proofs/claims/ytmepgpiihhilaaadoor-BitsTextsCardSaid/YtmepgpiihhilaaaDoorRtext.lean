/- A number as a text, by the document's answer. -/
import Derived.Test.YtmepgpiihhilaaaDoorDig
import Derived.Test.YtmepgpiihhilaaaDoorWholes
import Derived.Test.YtmepgpiihhilaaaDoorBack
namespace Go.Proofs.YtmepgpiihhilaaaDoor
open Go.RowKit
set_option linter.unusedVariables false

theorem str_of {s : ByteArray} {l : List UInt8} (h : s.data.toList = l) : s = ⟨l.toArray⟩ := by rw [← Lib.mk_data s, h]
def decS (n : Int) : ByteArray := ⟨(Lib.decDigits n.toNat).toArray⟩
theorem decS_list (n : Int) : (decS n).data.toList = Lib.decDigits n.toNat := rfl
def hexC (d : Int) : ByteArray := ByteArray.extract ⟨#[48, 49, 50, 51, 52, 53, 54, 55, 56, 57, 97, 98, 99, 100, 101, 102]⟩ d.toNat (d + 1).toNat

theorem hexC_list {d : Int} (h0 : 0 ≤ d) (h1 : d < 10) : (hexC d).data.toList = [UInt8.ofNat (48 + d.toNat)] := by
  have h := (hex_char h0 (by omega)).1
  show (ByteArray.extract _ d.toNat (d + 1).toNat).data.toList = _
  rw [h]
  unfold hexD
  rw [if_pos (by omega)]
  congr 2

theorem dec_small' {n : Int} (h0 : 0 ≤ n) (h1 : n < 10) : hexC n = decS n := by
  refine str_of ?_
  rw [hexC_list h0 h1, Lib.decDigits, dif_pos (show n.toNat < 10 by omega)]
theorem dec_big {n : Int} (h : 10 ≤ n) : decS (n / 10) ++ hexC (n % 10) = decS n := by
  refine str_of ?_
  rw [append_list, decS_list, hexC_list (by omega) (by omega)]
  have e : Lib.decDigits n.toNat = Lib.decDigits (n.toNat / 10) ++ [UInt8.ofNat (48 + n.toNat % 10)] := by rw [Lib.decDigits, dif_neg (by omega)]
  rw [e, show (n / 10).toNat = n.toNat / 10 by omega, show (n % 10).toNat = n.toNat % 10 by omega]

theorem decS_size {n : Int} (h0 : 0 ≤ n) (h1 : n ≤ 9007199254740992) : (decS n).size ≤ 21 := by
  have := Lib.itoa_length_le n (by omega) (by omega)
  have e : Lib.itoa n = Lib.decDigits n.toNat := by unfold Lib.itoa; rw [if_neg (by omega)]
  rw [e] at this
  rw [Lib.size_eq, decS_list]; exact this

set_option maxRecDepth 100000 in
set_option maxHeartbeats 2000000 in
theorem rdig_nat (k : Nat) : ∀ (n : Int) (w : World), n ≤ k → 0 ≤ n → n ≤ 9007199254740992 →
    Calls Tryd.prog 65 #[.int .i64 n] w fun e w' => e = .returned (.string (decS n)) ∧ Below w.heap.size w w' := by
  induction k with
  | zero =>
    intro n w hk h0 h1
    have HD := Lib.hid (dec_small' (n := n) h0 (by omega))
    have h10 : n < 10 := by omega
    go_enter Tryd.func65, Tryd.ntmps65
    go_wp2_with fail
    go_ret
    exact ⟨congrArg (fun s => Ending.returned (.string s)) HD.out, Below.refl _ _⟩
  | succ k ih =>
    intro n w hk h0 h1
    by_cases h10 : n < 10
    · have HD := Lib.hid (dec_small' (n := n) h0 (by omega))
      clear ih
      go_enter Tryd.func65, Tryd.ntmps65
      go_wp2_with fail
      go_ret
      exact ⟨congrArg (fun s => Ending.returned (.string s)) HD.out, Below.refl _ _⟩
    · have I := Lib.hid (fun w => ih (n / 10) w (by omega) (by omega) (by omega))
      have hsz := decS_size (n := n / 10) (by omega) (by omega)
      have hcs : (hexC (n % 10)).size = 1 := by rw [Lib.size_eq, hexC_list (by omega) (by omega)]; rfl
      have hadd : ∀ W : World, (Op.stringOp .add (decS (n / 10)) (hexC (n % 10))).run Tryd.prog W = .ok (.string (decS n)) W := fun W => by
        rw [← dec_big (show 10 ≤ n by omega)]
        exact run_string_add_sum (P := Tryd.prog) (w := W) _ _ (by rw [hcs]; omega)
      have hw : IntKind.i64.wrap (n % 10 + 1) = n % 10 + 1 := IntWalk.i64_in _ (by omega)
      have hm : n.tmod 10 = n % 10 := Int.tmod_eq_emod_of_nonneg h0
      have hd : n.tdiv 10 = n / 10 := Int.tdiv_eq_ediv_of_nonneg h0
      have hw2 : IntKind.i64.wrap (n / 10) = n / 10 := IntWalk.i64_in _ (by omega)
      have hx : ByteArray.extract ⟨#[48, 49, 50, 51, 52, 53, 54, 55, 56, 57, 97, 98, 99, 100, 101, 102]⟩ (n % 10).toNat (n % 10 + 1).toNat = hexC (n % 10) := rfl
      have m0 : 0 ≤ n % 10 := by omega
      have m1 : n % 10 < 10 := by omega
      clear ih hcs hsz
      go_enter Tryd.func65, Tryd.ntmps65
      go_wp2_with fail
      go_region_with (go_at_call 65; refine (I.out _).mono ?_; rintro e w1 ⟨rfl, hB⟩)
      all_goals
        go_wp2
        go_ret
        exact ⟨rfl, below_trans (Below.refl _ _).drew hB⟩

theorem whole_dec {n : Int} (h : 0 ≤ n) : decS n = wholeS n := by
  refine (str_of ?_)
  show Lib.decDigits n.toNat = Lib.itoa n
  unfold Lib.itoa; rw [if_neg (by omega)]
theorem whole_neg {n : Int} (h : n < 0) : (⟨#[45]⟩ : ByteArray) ++ decS (-n) = wholeS n := by
  refine str_of ?_
  rw [append_list, decS_list]
  show 45 :: Lib.decDigits (-n).toNat = Lib.itoa n
  unfold Lib.itoa; rw [if_pos h, show (-n).toNat = n.natAbs by omega]

set_option maxRecDepth 100000 in
set_option maxHeartbeats 1000000 in
theorem rdig_any (n : Int) (h0 : -9007199254740992 ≤ n) (h1 : n ≤ 9007199254740992) (w : World) :
    Calls Tryd.prog 65 #[.int .i64 n] w fun e w' => e = .returned (.string (wholeS n)) ∧ Below w.heap.size w w' := by
  by_cases hn : n < 0
  · have I := Lib.hid (fun w => rdig_nat (-n).toNat (-n) w (by omega) (by omega) (by omega))
    have hsz := decS_size (n := -n) (by omega) (by omega)
    have hadd : ∀ W : World, (Op.stringOp .add ⟨#[45]⟩ (decS (-n))).run Tryd.prog W = .ok (.string (wholeS n)) W := fun W => by
      rw [← whole_neg hn]
      exact run_string_add_sum (P := Tryd.prog) (w := W) _ _ (by show 1 + (decS (-n)).size ≤ _; omega)
    clear hsz
    go_enter Tryd.func65, Tryd.ntmps65
    go_wp2_with (go_at_call 65; refine (I.out _).mono ?_; rintro e w1 ⟨rfl, hB⟩)
    go_ret
    exact ⟨rfl, hB⟩
  · rw [← whole_dec (by omega)]
    exact rdig_nat n.toNat n w (by omega) (by omega) h1

/-- The lowest i digits of x to the base 16. -/
def lowHex (x : Nat) : Nat → List UInt8
  | 0 => []
  | i + 1 => UInt8.ofNat (hexD (x / 16 ^ i % 16)).toNat :: lowHex x i
theorem lowHex_all (x : Nat) : lowHex x 16 = (strOfNums (hexL x)).data.toList := by
  have h : ∀ i : Nat, lowHex x (i + 1) = UInt8.ofNat (hexD (x / 16 ^ i % 16)).toNat :: lowHex x i := fun _ => rfl
  have p0 : x / 16 ^ 0 = x := by simp
  rw [h, h, h, h, h, h, h, h, h, h, h, h, h, h, h, h, p0]
  rfl

set_option maxRecDepth 100000 in
set_option maxHeartbeats 2000000 in
theorem rtext_any (b : Int) (hb0 : 0 ≤ b) (hb : b < 18446744073709551616) (w : World) :
    Calls Tryd.prog 43 #[.int .u64 b] w fun e w' => e = .returned (.string (textI b)) ∧ Below w.heap.size w w' := by
  have c1 := isNaN_any b hb0 hb w
  have c2 := isInf_any b hb0 hb w
  have c3 := rwhole_any b hb0 hb w
  have wv := wholeV_lo (b := b)
  have c5 := rdig_any (wholeV b) (by omega) (by omega) w
  have HT : Hid (textI b = if nanB b = true then nanS else if infB b = true then (if 9223372036854775808 ≤ b then negInfS else infS) else if wholeB b = true then wholeS (wholeV b) else tildeS b) := rfl
  have SG : ∀ v, (b / 9223372036854775808 == 1) = v → ((9223372036854775808 ≤ b) ↔ v = true) := fun v hs => shr63 hb0 hb hs
  have SGH := Lib.hid SG
  have HTL : Hid ((tildeS b).data.toList = 126 :: lowHex b.toNat 16) := by show _ = _; rw [tilde_list, lowHex_all]; rfl
  have HX := Lib.hid (show b = (b.toNat : Int) by omega)
  generalize textI b = t at *
  generalize tildeS b = ts at *
  generalize b.toNat = x at HTL HX
  cases hn : nanB b
  · cases hi : infB b
    · cases hw : wholeB b
      · rw [hn, hi, hw] at HT
        rw [hn] at c1
        rw [hi] at c2
        rw [hw] at c3
        have C1 := Lib.hid c1
        have C2 := Lib.hid c2
        have C3 := Lib.hid c3
        clear c1 c2 c3 c5 hn hi hw SG
        go_enter Tryd.func43, Tryd.ntmps43
        go_wp2_with (first | (go_at_call 51; refine C1.out.mono ?_; rintro e w' ⟨rfl, rfl⟩) | (go_at_call 57; refine C2.out.mono ?_; rintro e w' ⟨rfl, rfl⟩) | (go_at_call 35; refine C3.out.mono ?_; rintro e w' ⟨rfl, rfl⟩))
        go_loop [0, 5, 6] (fun v s f => ∃ (c : Int) (h : ByteArray) (i : Nat), v = .int .u64 c ∧ s = .string h ∧ f = .int .i64 (i : Int) ∧ i ≤ 16 ∧ 0 ≤ c ∧ c < 18446744073709551616 ∧ h.size ≤ 16 ∧ Hid (c = (x / 16 ^ i : Nat) ∧ h.data.toList = lowHex x i)) (fun _ _ f => (16 - intOf f).toNat)
        case atStart => exact ⟨b, ⟨#[]⟩, 0, rfl, rfl, rfl, by omega, hb0, hb, by show 0 ≤ 16; omega, ⟨by rw [HX.out]; simp, rfl⟩⟩
        case round =>
          obtain ⟨c, h, i, rfl, rfl, rfl, hi, hc0, hc1, hh, HS⟩ := hrel
          by_cases hlt : i < 16
          · have HXC := Lib.hid (hex_char (d := c % 16) (by omega) (by omega))
            have hsz2 : h.size ≤ i := by
              have : ∀ j, (lowHex x j).length = j := by intro j; induction j with | zero => rfl | succ j ih => rw [lowHex, List.length_cons, ih]
              rw [Lib.size_eq, HS.out.2, this]; omega
            go_wp2
            refine ⟨⟨c / 16, _, i + 1, rfl, rfl, by go_num, by omega, by omega, by omega, ?_, ?_⟩, by simp [intOf]; omega⟩
            · have e : (ByteArray.extract ⟨#[48, 49, 50, 51, 52, 53, 54, 55, 56, 57, 97, 98, 99, 100, 101, 102]⟩ (c % 16).toNat (c % 16 + 1).toNat).size = 1 := by rw [Lib.size_eq, HXC.out.1]; rfl
              rw [ByteArray.size_append, e]; omega
            · show _ ∧ _
              have hc := HS.out.1
              refine ⟨?_, ?_⟩
              · rw [hc, Nat.pow_succ, ← Nat.div_div_eq_div_mul]; omega
              · rw [append_list, HXC.out.1, HS.out.2, lowHex, List.singleton_append]
                rw [show (c % 16).toNat = x / 16 ^ i % 16 by omega]
          · have hi16 : i = 16 := by omega
            have HE : Hid ((⟨#[126]⟩ : ByteArray) ++ h = ts) := by
              show _ = _
              have e1 : ((⟨#[126]⟩ : ByteArray) ++ h).data.toList = ts.data.toList := by rw [append_list, HS.out.2, HTL.out, hi16]; rfl
              rw [str_of e1, Lib.mk_data]
            have hadd : ∀ W : World, (Op.stringOp .add ⟨#[126]⟩ h).run Tryd.prog W = .ok (.string ts) W := fun W => by
              rw [← HE.out]
              exact run_string_add_sum (P := Tryd.prog) (w := W) _ _ (by show 1 + h.size ≤ _; omega)
            clear hi16
            go_wp2
            go_ret
            exact ⟨congrArg (fun s => Ending.returned (.string s)) HT.out.symm, Below.refl _ _⟩
      · rw [hn, hi, hw] at HT
        rw [hn] at c1
        rw [hi] at c2
        rw [hw] at c3
        have C1 := Lib.hid c1
        have C2 := Lib.hid c2
        have C3 := Lib.hid c3
        have C5 := Lib.hid c5
        clear c1 c2 c3 c5 hn hi hw SG
        go_enter Tryd.func43, Tryd.ntmps43
        go_wp2_with (first | (go_at_call 51; refine C1.out.mono ?_; rintro e w' ⟨rfl, rfl⟩) | (go_at_call 57; refine C2.out.mono ?_; rintro e w' ⟨rfl, rfl⟩) | (go_at_call 35; refine C3.out.mono ?_; rintro e w' ⟨rfl, rfl⟩) | (go_at_call 65; refine C5.out.mono ?_; rintro e w1 ⟨rfl, hB⟩))
        go_ret
        exact ⟨congrArg (fun s => Ending.returned (.string s)) HT.out.symm, hB⟩
    · rw [hn, hi] at HT
      rw [hn] at c1
      rw [hi] at c2
      have C1 := Lib.hid c1
      have C2 := Lib.hid c2
      clear c1 c2 c3 c5 hn hi SG
      go_enter Tryd.func43, Tryd.ntmps43
      go_wp2_with (first | (go_at_call 51; refine C1.out.mono ?_; rintro e w' ⟨rfl, rfl⟩) | (go_at_call 57; refine C2.out.mono ?_; rintro e w' ⟨rfl, rfl⟩))
      all_goals
        rename_i hsg
        go_ret
        refine ⟨congrArg (fun s => Ending.returned (.string s)) ?_, Below.refl _ _⟩
        have h2 := SGH.out _ hsg
        rw [HT.out]
        simp only [h2]
        rfl
  · rw [hn] at HT
    rw [hn] at c1
    have C1 := Lib.hid c1
    clear c1 c2 c3 c5 hn SG
    go_enter Tryd.func43, Tryd.ntmps43
    go_wp2_with (go_at_call 51; refine C1.out.mono ?_; rintro e w' ⟨rfl, rfl⟩)
    go_ret
    exact ⟨congrArg (fun s => Ending.returned (.string s)) HT.out.symm, Below.refl _ _⟩
end Go.Proofs.YtmepgpiihhilaaaDoor
