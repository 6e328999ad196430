/- Between tokens, by the program: a loop, left by a jump, and gone back to by another. -/
import Derived.Test.YtcpjggcpimghjaaRem
import Derived.Scope
import Derived.WalkMore
namespace Go.Proofs.Ytcpjggcpimghjaa
open Go.RowKit
set_option linter.unusedVariables false

/-- Two labels: what holds where the run jumps to each; by any other jump no way out. -/
def jump2 (l0 l1 : Nat) (K0 K1 : Act → World → Prop) (Q : Exit → Act → World → Prop) : Exit → Act → World → Prop
  | .goto l, a, w => (l = l0 ∧ K0 a w) ∨ (l = l1 ∧ K1 a w)
  | e, a, w => Q e a w

theorem wp_scope_two {P : Program} {a : Act} {w : World} {Q : Exit → Act → World → Prop} {X r0 : Code} (l0 l1 : Nat) (hl : l0 ≠ l1) (J0 J1 : Act → World → Prop) (m0 m1 : Act → World → Nat)
    (h0 : findLabel ((Code.label l1).seq X) l0 = some r0) (hJ : J1 a w)
    (pass0 : ∀ a w, J0 a w → r0.wp P (jump2 l0 l1 (fun a' w' => J0 a' w' ∧ m0 a' w' < m0 a w) (fun a' w' => J1 a' w' ∧ m1 a' w' < m0 a w) Q) a w)
    (pass1 : ∀ a w, J1 a w → X.wp P (jump2 l0 l1 (fun a' w' => J0 a' w' ∧ m0 a' w' < m1 a w) (fun a' w' => J1 a' w' ∧ m1 a' w' < m1 a w) Q) a w) :
    (Code.scope ((Code.label l1).seq X)).wp P Q a w := by
  intro b k cs
  have h1 : findLabel ((Code.label l1).seq X) l1 = some (Code.skip.seq X) := by simp [findLabel]
  have g0 : gotoIn l0 (.inScope ((Code.label l1).seq X) :: k) = some (.code r0 :: .inScope ((Code.label l1).seq X) :: k) := by simp [gotoIn, h0]
  have g1 : gotoIn l1 (.inScope ((Code.label l1).seq X) :: k) = some (.code (Code.skip.seq X) :: .inScope ((Code.label l1).seq X) :: k) := by simp [gotoIn, h1]
  have key : ∀ n, (∀ a w, m0 a w = n → J0 a w → ∃ e a' w', Q e a' w' ∧ Arrives P (lone (b.at a (.code r0 :: .inScope ((Code.label l1).seq X) :: k)) cs w) b k cs e a' w') ∧
      (∀ a w, m1 a w = n → J1 a w → ∃ e a' w', Q e a' w' ∧ Arrives P (lone (b.at a (.code (Code.skip.seq X) :: .inScope ((Code.label l1).seq X) :: k)) cs w) b k cs e a' w') := by
    intro n
    induction n using Nat.strongRecOn with
    | _ n ih =>
      have run : ∀ (r : Code) (a : Act) (w : World), (r.wp P (jump2 l0 l1 (fun a' w' => J0 a' w' ∧ m0 a' w' < n) (fun a' w' => J1 a' w' ∧ m1 a' w' < n) Q) a w) →
          ∃ e a' w', Q e a' w' ∧ Arrives P (lone (b.at a (.code r :: .inScope ((Code.label l1).seq X) :: k)) cs w) b k cs e a' w' := by
        intro r a w hw
        obtain ⟨e, a₁, w₁, hq, harr⟩ := hw b (.inScope ((Code.label l1).seq X) :: k) cs
        cases e with
        | normal => exact ⟨.normal, a₁, w₁, hq, Steps.trans harr (.one step_inScope)⟩
        | exit id => exact ⟨.exit id, a₁, w₁, hq, fun k' hk => harr k' (by simp [exitTo, hk])⟩
        | goto l' =>
          rcases hq with ⟨rfl, hJ', hlt⟩ | ⟨rfl, hJ', hlt⟩
          · obtain ⟨e₂, a₂, w₂, hq₂, harr₂⟩ := (ih _ hlt).1 a₁ w₁ rfl hJ'
            exact ⟨e₂, a₂, w₂, hq₂, .of_steps (harr _ g0) harr₂⟩
          · obtain ⟨e₂, a₂, w₂, hq₂, harr₂⟩ := (ih _ hlt).2 a₁ w₁ rfl hJ'
            exact ⟨e₂, a₂, w₂, hq₂, .of_steps (harr _ g1) harr₂⟩
        | ret => exact ⟨_, a₁, w₁, hq, harr⟩
        | panic ch => exact ⟨_, a₁, w₁, hq, harr⟩
        | outgrown => exact ⟨_, a₁, w₁, hq, harr⟩
      exact ⟨fun a w hm hJ0 => run r0 a w (hm ▸ pass0 a w hJ0), fun a w hm hJ1 => run (Code.skip.seq X) a w (wp_seq (wp_skip (hm ▸ pass1 a w hJ1)))⟩
  obtain ⟨e₂, a₂, w₂, hq₂, harr₂⟩ := (key _).2 a w rfl hJ
  -- from the beginning: the label is passed over as skip is
  have run : ∀ (a : Act) (w : World), (X.wp P (jump2 l0 l1 (fun a' w' => J0 a' w') (fun a' w' => J1 a' w') Q) a w) →
      ∃ e a' w', Q e a' w' ∧ Arrives P (lone (b.at a (.code ((Code.label l1).seq X) :: .inScope ((Code.label l1).seq X) :: k)) cs w) b k cs e a' w' := by
    intro a w hw
    obtain ⟨e, a₁, w₁, hq, harr⟩ := (wp_seq (wp_label hw)) b (.inScope ((Code.label l1).seq X) :: k) cs
    cases e with
    | normal => exact ⟨.normal, a₁, w₁, hq, Steps.trans harr (.one step_inScope)⟩
    | exit id => exact ⟨.exit id, a₁, w₁, hq, fun k' hk => harr k' (by simp [exitTo, hk])⟩
    | goto l' =>
      rcases hq with ⟨rfl, hJ'⟩ | ⟨rfl, hJ'⟩
      · obtain ⟨e₂, a₂, w₂, hq₂, harr₂⟩ := (key _).1 a₁ w₁ rfl hJ'
        exact ⟨e₂, a₂, w₂, hq₂, .of_steps (harr _ g0) harr₂⟩
      · obtain ⟨e₂, a₂, w₂, hq₂, harr₂⟩ := (key _).2 a₁ w₁ rfl hJ'
        exact ⟨e₂, a₂, w₂, hq₂, .of_steps (harr _ g1) harr₂⟩
    | ret => exact ⟨_, a₁, w₁, hq, harr⟩
    | panic ch => exact ⟨_, a₁, w₁, hq, harr⟩
    | outgrown => exact ⟨_, a₁, w₁, hq, harr⟩
  obtain ⟨e, a₁, w₁, hq, harr⟩ := run a w (wp_mono (pass1 a w hJ) (fun e a' w' hq => by
    cases e with
    | goto l' => rcases hq with ⟨h, h'⟩ | ⟨h, h'⟩; exact .inl ⟨h, h'.1⟩; exact .inr ⟨h, h'.1⟩
    | normal => exact hq
    | exit id => exact hq
    | ret => exact hq
    | panic ch => exact hq
    | outgrown => exact hq))
  exact ⟨e, a₁, w₁, hq, .of_steps (.one step_scope) harr⟩

def gAdd (n : Nat) (g : Nat × Bool) : Nat × Bool := (n + g.1, g.2)
theorem gAdd_add (n m : Nat) (g : Nat × Bool) : gAdd n (gAdd m g) = gAdd (n + m) g := by simp [gAdd, Nat.add_assoc]
theorem gap_out {s : ByteArray} {p : Nat} (h : s.size ≤ p) : gap (s.data.toList.drop p) = (0, true) := by rw [drop_done s p h, gap]
theorem gap_blank {s : ByteArray} {p : Nat} (h : p < s.size) (hb : blankB s[p] = true) : gap (s.data.toList.drop p) = gAdd 1 (gap (s.data.toList.drop (p + 1))) := by
  rw [drop_cons s p h, gap, if_pos hb]; simp [gAdd, Nat.add_comm]
theorem gap_bad {s : ByteArray} {p : Nat} (h : p < s.size) (hb : blankB s[p] = false) (hr : remN (s.data.toList.drop p) = none) : gap (s.data.toList.drop p) = (0, false) := by
  rw [drop_cons s p h] at hr ⊢
  rw [gap, if_neg (by rw [hb]; decide)]; split
  · rfl
  · rename_i h2; rw [hr] at h2; cases h2
  · rename_i h2; rw [hr] at h2; cases h2
theorem gap_none {s : ByteArray} {p : Nat} (h : p < s.size) (hb : blankB s[p] = false) (hr : remN (s.data.toList.drop p) = some 0) : gap (s.data.toList.drop p) = (0, true) := by
  rw [drop_cons s p h] at hr ⊢
  rw [gap, if_neg (by rw [hb]; decide)]; split
  · rename_i h2; rw [hr] at h2; cases h2
  · rfl
  · rename_i h2; rw [hr] at h2; cases h2
theorem gap_rem {s : ByteArray} {p n : Nat} (h : p < s.size) (hb : blankB s[p] = false) (hr : remN (s.data.toList.drop p) = some (n + 1)) : gap (s.data.toList.drop p) = gAdd (n + 1) (gap (s.data.toList.drop (p + (n + 1)))) := by
  rw [show p + (n + 1) = p + 1 + n by omega, ← List.drop_drop, drop_cons s p h] at *
  rw [gap, if_neg (by rw [hb]; decide)]; split
  · rename_i h2; rw [hr] at h2; cases h2
  · rename_i h2; rw [hr] at h2; cases h2
  · rename_i m h2; rw [hr] at h2; injection h2 with h2; injection h2 with h2; subst h2
    simp [gAdd, Nat.add_comm]
theorem rem_other {c : UInt8} {r : List UInt8} (hc : ¬ c = 47) : remN (c :: r) = some 0 := by
  match r with
  | [] => rfl
  | d :: r =>
    show (if c = 47 ∧ d = 47 then _ else if c = 47 ∧ d = 42 then _ else some 0) = some 0
    rw [if_neg (fun h => hc h.1), if_neg (fun h => hc h.1)]
theorem rem_le {R : List UInt8} {n : Nat} (h : remN R = some n) : n ≤ R.length := by
  match R with
  | [] => injection h with h; omega
  | [a] => injection h with h; omega
  | a :: b :: r =>
    have h : (if a = 47 ∧ b = 47 then some (lineN (a :: b :: r)) else if a = 47 ∧ b = 42 then (endN r).map (· + 4) else some 0) = some n := h
    split at h
    · injection h with h; rw [← h]; exact lineN_le _
    · split at h
      · cases he : endN r with
        | none => rw [he] at h; cases h
        | some i => rw [he] at h; injection h with h; have h : i + 4 = n := h; have := endN_le he; simp; omega
      · injection h with h; omega

def SkipPost (b : Nat) (s : ByteArray) (beg op : Int) (k : Nat) (w : World) (g : Nat × Bool) (e : Ending) (w' : World) : Prop := match g with
  | (n, true) => e = .returned (.tuple #[]) ∧ Rd w' b s beg (k + n : Nat) op ∧ Off b w w'
  | (n, false) => e = flt (k + n : Nat) 5 ∧ Off b w w'
theorem sp_ok {b : Nat} {s : ByteArray} {beg op : Int} {k : Nat} {w : World} {g : Nat × Bool} {e : Ending} {w' : World} {p : Nat} (h : g = (p, true)) (he : e = .returned (.tuple #[])) (hr : Rd w' b s beg (k + p : Nat) op) (ho : Off b w w') : SkipPost b s beg op k w g e w' := by subst h; exact ⟨he, hr, ho⟩
theorem sp_bad {b : Nat} {s : ByteArray} {beg op : Int} {k : Nat} {w : World} {g : Nat × Bool} {e : Ending} {w' : World} {p : Nat} (h : g = (p, false)) (he : e = flt (k + p : Nat) 5) (ho : Off b w w') : SkipPost b s beg op k w g e w' := by subst h; exact ⟨he, ho⟩

def At (b : Nat) (s : ByteArray) (beg op : Int) (k : Nat) (G : Nat × Bool) (w w' : World) (p : Nat) : Prop :=
  k ≤ p ∧ p ≤ s.size ∧ Rd w' b s beg p op ∧ Off b w w' ∧ ML b w' ∧ G = gAdd (p - k) (gap (s.data.toList.drop p))
def Jb (b : Nat) (s : ByteArray) (beg op : Int) (k : Nat) (G : Nat × Bool) (w : World) (a' : Act) (w' : World) : Prop :=
  ∃ u1 u2 u3 u4 u5 u6 u7 u8 u9 u10 u11 u12 u13 u14 u15 u16 u17 u18 u19 u20 u21 u22 u23 u24 u25 u26 u27 u28 u29 u30 u31 u32 u33 u34 u35 u36 u37 u38 u39 u40 u41 u42 u43 u44 u45 u46 u47 : Value, a' = { tmps := #[.pointer (some ⟨b, 0, none⟩), u1, u2, u3, u4, u5, u6, u7, u8, u9, u10, u11, u12, u13, u14, u15, u16, u17, u18, u19, u20, u21, u22, u23, u24, u25, u26, u27, u28, u29, u30, u31, u32, u33, u34, u35, u36, u37, u38, u39, u40, u41, u42, u43, u44, u45, u46, u47], defers := [] } ∧ ∃ p, At b s beg op k G w w' p
def Js (b : Nat) (s : ByteArray) (beg op : Int) (k : Nat) (G : Nat × Bool) (w : World) (a' : Act) (w' : World) : Prop :=
  ∃ u1 u2 u3 u4 u5 u6 u7 u8 u9 u10 u11 u12 u13 u14 u15 u16 u17 u18 u19 u20 u21 u22 u23 u24 u25 u26 u27 u28 u29 u30 u31 u32 u33 u34 u35 u36 u37 u38 u39 u40 u41 u42 u43 u44 u45 u46 u47 : Value, a' = { tmps := #[.pointer (some ⟨b, 0, none⟩), u1, u2, u3, u4, u5, u6, u7, u8, u9, u10, u11, u12, u13, u14, u15, u16, u17, u18, u19, u20, u21, u22, u23, u24, u25, u26, u27, u28, u29, u30, u31, u32, u33, u34, u35, u36, u37, u38, u39, u40, u41, u42, u43, u44, u45, u46, u47], defers := [] } ∧ ∃ (p : Nat) (hp : p < s.size), s[p] = 47 ∧ At b s beg op k G w w' p
def pos2 (b : Nat) (w : World) : Int := intOf ((w.cell? ⟨b, 2, none⟩).getD (.int .i64 0))
theorem pos2_rd {b : Nat} {s : ByteArray} {beg op : Int} {p : Nat} {w : World} (h : Rd w b s beg p op) : pos2 b w = p := by unfold pos2; rw [h.c2]; rfl
def mb (b : Nat) (s : ByteArray) (a : Act) (w : World) : Nat := 2 * (s.size - (pos2 b w).toNat) + 1
def ms (b : Nat) (s : ByteArray) (a : Act) (w : World) : Nat := 2 * (s.size - (pos2 b w).toNat)

set_option maxRecDepth 100000 in
set_option maxHeartbeats 4000000 in
theorem skip_any (b : Nat) (s : ByteArray) (hs : s.size ≤ 100000) (beg op : Int) (k : Nat) (hk : k ≤ s.size) (w : World) (h : Rd w b s beg k op) (hm : ML b w) :
    Calls Try.prog 23 #[.pointer (some ⟨b, 0, none⟩)] w (SkipPost b s beg op k w (gap (s.data.toList.drop k))) := by
  have HG : Hid (gap (s.data.toList.drop k) = gAdd (k - k) (gap (s.data.toList.drop k))) := by show _ = _; simp [gAdd]
  have hbl := h.lt
  have HA : Hid (At b s beg op k (gap (s.data.toList.drop k)) w w k) := ⟨by omega, hk, h, Off.refl _ _, hm, HG.out⟩
  generalize gap (s.data.toList.drop k) = G at *
  clear h hm HG
  go_enter Try.func23, Try.ntmps23
  refine wp_scope_two 0 1 (by decide) (Js b s beg op k G w) (Jb b s beg op k G w) (ms b s) (mb b s) rfl ⟨_, _, _, _, _, _, _, _, _, _, _, _, _, _, _, _, _, _, _, _, _, _, _, _, _, _, _, _, _, _, _, _, _, _, _, _, _, _, _, _, _, _, _, _, _, _, _, rfl, k, HA.out⟩ ?_ ?_
  · rintro a' w' ⟨u1, u2, u3, u4, u5, u6, u7, u8, u9, u10, u11, u12, u13, u14, u15, u16, u17, u18, u19, u20, u21, u22, u23, u24, u25, u26, u27, u28, u29, u30, u31, u32, u33, u34, u35, u36, u37, u38, u39, u40, u41, u42, u43, u44, u45, u46, u47, rfl, p, hp, hc, hkp, hps, hR, hO, hM, hG⟩
    have RK := Lib.hid (remark_any b s hs beg op p hps w' hR hM)
    have RL := Lib.hid (fun n => @rem_le (s.data.toList.drop p) n)
    have hbk : blankB s[p] = false := by rw [hc]; rfl
    have GB := Lib.hid (@gap_bad s p hp hbk)
    have GN := Lib.hid (@gap_none s p hp hbk)
    have GR := Lib.hid (fun n => @gap_rem s p n hp hbk)
    have HR := Lib.hid hR
    have HO := Lib.hid hO
    have HM := Lib.hid hM
    have HGG := Lib.hid hG
    have hk2 : k + (p - k) = p := by omega
    have HK2 := Lib.hid hk2
    clear hR hO hM hG hbk hk2 hc
    generalize hrn : remN (s.data.toList.drop p) = rn at *
    have HRN := Lib.hid hrn
    clear hrn
    rcases rn with _ | n
    · have E := Lib.hid (HGG.out.trans (show _ = (p - k + 0, false) by rw [GB.out rfl, gAdd]))
      go_wp2_with fail
      refine RK.out.mono ?_; rintro e w2 ⟨rfl, hO2⟩
      unfold flt
      have HO2 := Lib.hid (HO.out.trans hO2)
      clear hO2
      go_wp2_with fail
      exact bodyPost_panic (P := Try.prog) (fn := Try.f23) rfl (sp_bad E.out (by rw [Nat.add_zero, HK2.out]; rfl) HO2.out)
    · rcases n with _ | n
      · have E := Lib.hid (HGG.out.trans (show _ = (p - k + 0, true) by rw [GN.out rfl, gAdd]))
        go_wp2_with fail
        refine RK.out.mono ?_; rintro e w2 ⟨rfl, nd, rfl⟩
        go_wp2_with fail
        go_end0
        exact sp_ok E.out rfl (by rw [Nat.add_zero, HK2.out]; exact HR.out.drewN _) (HO.out.drewN _)
      · have hl := RL.out _ rfl
        rw [List.length_drop, list_size'] at hl
        have E := Lib.hid (HGG.out.trans (by rw [GR.out n rfl, gAdd_add, show p - k + (n + 1) = p + (n + 1) - k by omega]))
        have c2 := HR.out.c2
        have f2 := HR.out.fz 2
        have PM := Lib.hid (pos2_rd HR.out)
        have hn0 : (0 : Int) < ((n + 1 : Nat) : Int) := by omega
        go_wp2_with fail
        refine RK.out.mono ?_; rintro e w2 ⟨rfl, nd, rfl⟩
        go_wp2_with fail
        go_step3
        have HR2 := Lib.hid ((HR.out.drewN nd).s2 ((p + (n + 1) : Nat) : Int))
        have PM2 := Lib.hid (pos2_rd HR2.out)
        refine .inr ⟨rfl, ⟨_, _, _, _, _, _, _, _, _, _, _, _, _, _, _, _, _, _, _, _, _, _, _, _, _, _, _, _, _, _, _, _, _, _, _, _, _, _, _, _, _, _, _, _, _, _, _, rfl, p + (n + 1), by omega, by omega, HR2.out, (HO.out.drewN _).set _ _, HM.out.off HR.out.lt (((Off.refl _ _).drewN _).set _ _), E.out⟩, ?_⟩
        show 2 * (s.size - (pos2 b _).toNat) + 1 < 2 * (s.size - (pos2 b _).toNat)
        rw [PM.out]
        refine Nat.lt_of_le_of_lt (Nat.le_of_eq (congrArg (fun z : Int => 2 * (s.size - z.toNat) + 1) PM2.out)) ?_
        simp; omega
  · rintro a' w' ⟨u1, u2, u3, u4, u5, u6, u7, u8, u9, u10, u11, u12, u13, u14, u15, u16, u17, u18, u19, u20, u21, u22, u23, u24, u25, u26, u27, u28, u29, u30, u31, u32, u33, u34, u35, u36, u37, u38, u39, u40, u41, u42, u43, u44, u45, u46, u47, rfl, p, hkp, hps, hR, hO, hM, hG⟩
    have HA2 : Hid (At b s beg op k G w w' p) := ⟨hkp, hps, hR, hO, hM, hG⟩
    have PM := Lib.hid (pos2_rd hR)
    clear hR hO hM hG
    go_wp2_with fail
    go_loopg [] (s.size - p) (fun g wr => ∃ q : Nat, p ≤ q ∧ g = s.size - q ∧ Hid (At b s beg op k G w wr q))
    case atStart => exact ⟨p, by omega, rfl, HA2.out⟩
    case round =>
      obtain ⟨q, hpq, rfl, HA3⟩ := hrel
      obtain ⟨hkq, hqs, hR, hO, hM, hG⟩ := HA3.out
      have c0 := hR.c0
      have c2 := hR.c2
      have f2 := hR.fz 2
      have HR := Lib.hid hR
      have HO := Lib.hid hO
      have HM := Lib.hid hM
      have HGG := Lib.hid hG
      have hk2 : k + (q - k) = q := by omega
      have HK2 := Lib.hid hk2
      clear hR hO hM hG hk2 HA3
      by_cases hlt : q < s.size
      · have GBL := Lib.hid (@gap_blank s q hlt)
        have GN := Lib.hid (@gap_none s q hlt)
        have RO := Lib.hid (fun (h : ¬ s[q] = 47) => (show remN (s.data.toList.drop q) = some 0 by rw [drop_cons s q hlt]; exact rem_other h))
        have HCI : Hid (∀ x : UInt8, (s[q].toNat : Int) = (x.toNat : Int) → s[q] = x) := fun x h => ci_inj h
        by_cases hb : blankB s[q] = true
        · have E := Lib.hid (HGG.out.trans (by rw [GBL.out hb, gAdd_add, show q - k + 1 = q + 1 - k by omega]))
          have hcs : (s[q].toNat : Int) = 32 ∨ (s[q].toNat : Int) = 9 ∨ (s[q].toNat : Int) = 13 ∨ (s[q].toNat : Int) = 10 := by
            unfold blankB at hb
            simp only [Bool.or_eq_true, beq_iff_eq] at hb
            rcases hb with ((h | h) | h) | h <;> rw [h] <;> simp
          clear hb
          rcases hcs with h | h | h | h
          · have q32 : ((s[q].toNat : Int) == 32) = true := by rw [h]; rfl
            clear h
            go_wp2_with fail
            go_quiet (fail)
            go_wp2_with fail
            go_quiet (fail)
            go_wp2_with fail
            go_roundg (s.size - (q + 1))
            case measure => omega
            case rel =>
              exact ⟨q + 1, by omega, rfl, by omega, by omega, (HR.out.drewN _).s2 _, (HO.out.drewN _).set _ _, HM.out.off HR.out.lt (((Off.refl _ _).drewN _).set _ _), E.out⟩
          · have q32 : ((s[q].toNat : Int) == 32) = false := by rw [h]; rfl
            have q9 : ((s[q].toNat : Int) == 9) = true := by rw [h]; rfl
            clear h
            go_wp2_with fail
            go_quiet (fail)
            go_wp2_with fail
            go_quiet (fail)
            go_wp2_with fail
            go_roundg (s.size - (q + 1))
            case measure => omega
            case rel =>
              exact ⟨q + 1, by omega, rfl, by omega, by omega, (HR.out.drewN _).s2 _, (HO.out.drewN _).set _ _, HM.out.off HR.out.lt (((Off.refl _ _).drewN _).set _ _), E.out⟩
          · have q32 : ((s[q].toNat : Int) == 32) = false := by rw [h]; rfl
            have q9 : ((s[q].toNat : Int) == 9) = false := by rw [h]; rfl
            have q13 : ((s[q].toNat : Int) == 13) = true := by rw [h]; rfl
            clear h
            go_wp2_with fail
            go_quiet (fail)
            go_wp2_with fail
            go_quiet (fail)
            go_wp2_with fail
            go_roundg (s.size - (q + 1))
            case measure => omega
            case rel =>
              exact ⟨q + 1, by omega, rfl, by omega, by omega, (HR.out.drewN _).s2 _, (HO.out.drewN _).set _ _, HM.out.off HR.out.lt (((Off.refl _ _).drewN _).set _ _), E.out⟩
          · have q32 : ((s[q].toNat : Int) == 32) = false := by rw [h]; rfl
            have q9 : ((s[q].toNat : Int) == 9) = false := by rw [h]; rfl
            have q13 : ((s[q].toNat : Int) == 13) = false := by rw [h]; rfl
            have q10 : ((s[q].toNat : Int) == 10) = true := by rw [h]; rfl
            clear h
            go_wp2_with fail
            go_quiet (fail)
            go_wp2_with fail
            go_quiet (fail)
            go_wp2_with fail
            go_roundg (s.size - (q + 1))
            case measure => omega
            case rel =>
              exact ⟨q + 1, by omega, rfl, by omega, by omega, (HR.out.drewN _).s2 _, (HO.out.drewN _).set _ _, HM.out.off HR.out.lt (((Off.refl _ _).drewN _).set _ _), E.out⟩
        · have hb2 : blankB s[q] = false := by simpa using hb
          have hnb : ¬ (s[q].toNat : Int) = 32 ∧ ¬ (s[q].toNat : Int) = 9 ∧ ¬ (s[q].toNat : Int) = 13 ∧ ¬ (s[q].toNat : Int) = 10 := by
            refine ⟨?_, ?_, ?_, ?_⟩ <;> (intro h; first | (have := HCI.out 32 h; rw [this] at hb; exact hb rfl) | (have := HCI.out 9 h; rw [this] at hb; exact hb rfl) | (have := HCI.out 13 h; rw [this] at hb; exact hb rfl) | (have := HCI.out 10 h; rw [this] at hb; exact hb rfl))
          obtain ⟨n32, n9, n13, n10⟩ := hnb
          have q32 : ((s[q].toNat : Int) == 32) = false := by rw [beq_eq_false_iff_ne]; exact n32
          have q9 : ((s[q].toNat : Int) == 9) = false := by rw [beq_eq_false_iff_ne]; exact n9
          have q13 : ((s[q].toNat : Int) == 13) = false := by rw [beq_eq_false_iff_ne]; exact n13
          have q10 : ((s[q].toNat : Int) == 10) = false := by rw [beq_eq_false_iff_ne]; exact n10
          clear n32 n9 n13 n10 hb
          by_cases h47 : (s[q].toNat : Int) = 47
          · have HC := Lib.hid (HCI.out 47 h47)
            have q47 : ((s[q].toNat : Int) == 47) = true := by rw [h47]; rfl
            clear h47 hb2
            have PM2 := Lib.hid (pos2_rd HR.out)
            go_wp2_with fail
            go_quiet (fail)
            go_wp2_with fail
            go_quiet (fail)
            go_wp2_with fail
            go_step3
            refine .inl ⟨rfl, ⟨_, _, _, _, _, _, _, _, _, _, _, _, _, _, _, _, _, _, _, _, _, _, _, _, _, _, _, _, _, _, _, _, _, _, _, _, _, _, _, _, _, _, _, _, _, _, _, rfl, q, hlt, HC.out, hkq, hqs, HR.out.drewN _, HO.out.drewN _, HM.out.off HR.out.lt ((Off.refl _ _).drewN _), HGG.out⟩, ?_⟩
            show 2 * (s.size - (pos2 b _).toNat) < 2 * (s.size - (pos2 b _).toNat) + 1
            rw [PM.out]
            refine Nat.lt_of_le_of_lt (Nat.le_of_eq (congrArg (fun z : Int => 2 * (s.size - z.toNat)) (pos2_rd (HR.out.drewN _)))) ?_
            simp; omega
          · have hne : ¬ s[q] = 47 := fun h => h47 (by rw [h]; rfl)
            have E := Lib.hid (HGG.out.trans (show _ = (q - k + 0, true) by rw [GN.out hb2 (RO.out hne), gAdd]))
            have q47 : ((s[q].toNat : Int) == 47) = false := by rw [beq_eq_false_iff_ne]; exact h47
            clear h47 hb2 hne
            go_wp2_with fail
            go_quiet (fail)
            go_wp2_with fail
            go_quiet (fail)
            go_wp2_with fail
            exact bodyPost_ret (P := Try.prog) (fn := Try.f23) (results_none rfl _ _ _) rfl (sp_ok E.out rfl (by rw [Nat.add_zero, HK2.out]; exact HR.out.drewN _) (HO.out.drewN _))
      · have E := Lib.hid (HGG.out.trans (show _ = (q - k + 0, true) by rw [gap_out (by omega), gAdd]))
        go_wp2_with fail
        go_quiet (fail)
        go_wp2_with fail
        exact bodyPost_ret (P := Try.prog) (fn := Try.f23) (results_none rfl _ _ _) rfl (sp_ok E.out rfl (by rw [Nat.add_zero, HK2.out]; exact HR.out.drewN _) (HO.out.drewN _))
end Go.Proofs.Ytcpjggcpimghjaa
