/- SynBlanks: blanks, line feeds and remarks between tokens change nothing in the tree. -/
import Derived.Test.YtnkfodelgpidkaaGreatDoorMQ
import Derived.Test.YtnkfodelgpidkaaGreatDoorLq
namespace Go.Proofs.YtnkfodelgpidkaaGreatDoor
open Go.RowKit
set_option linter.unusedVariables false
set_option linter.unusedSimpArgs false

/-- The same tokens, elsewhere: the same tree, or none for the same reason. -/
def Like2 (r r' : Except (Int × Int) Tr) : Prop := match r, r' with
  | .error (_, c), .error (_, c') => c = c'
  | .ok t, .ok t' => t = t'
  | _, _ => False
theorem syn_like {E E' : Int} {l l' : List Tk} {r r' : Except (Int × Int) Tr} (hs : st l = st l') (h : Syn1 E l r) (h' : Syn1 E' l' r') : Like2 r r' := by
  obtain ⟨q, hd, h⟩ := h
  obtain ⟨q', hd', h'⟩ := h'
  rcases q with p | ⟨t, R⟩
  · rcases q' with p' | ⟨t', R'⟩
    · subst h; subst h'; rfl
    · obtain ⟨R1, g1, g2⟩ := D.elsewhere (E' := E) hs.symm hd'
      cases hd.det g2
  · rcases q' with p' | ⟨t', R'⟩
    · obtain ⟨R1, g1, g2⟩ := D.elsewhere (E' := E') hs hd
      cases hd'.det g2
    · obtain ⟨R1, g1, g2⟩ := D.elsewhere (E' := E') hs hd
      have := hd'.det g2
      injection this with this; injection this with h1 h2
      subst h1
      rw [h.2, h'.2]
      split
      · exact rfl
      · exact rfl
theorem st_posed : ∀ (z : List (Tk × List UInt8)) (a : Int), st (posed z a) = st (z.map (·.1))
  | [], a => rfl
  | x :: r, a => by
    show _ :: st (posed r _) = _ :: st (r.map (·.1))
    rw [st_posed r]
/-- Tokens that were written with gaps between. -/
def Zip (l : List Tk) (k : Nat) (a : ByteArray) : Prop := ∃ z : List (Tk × List UInt8), z.map (·.1) = l.take k ∧ (∀ x ∈ z, Gp x.2 ∧ x.2.length ≤ 10) ∧ a.data.toList = writL z
theorem Zip.zero (l : List Tk) : Zip l 0 ⟨#[]⟩ := ⟨[], by simp, by simp, rfl⟩
theorem Zip.next {l : List Tk} {k : Nat} {a : ByteArray} (h : Zip l k a) (hk : k < l.length) (q g : ByteArray) (hq : q.data.toList = printL l[k]) (hg : Gp g.data.toList) (hs : g.size ≤ 10) : Zip l (k + 1) (a ++ (q ++ g)) := by
  obtain ⟨z, h1, h2, h3⟩ := h
  refine ⟨z ++ [(l[k], g.data.toList)], ?_, ?_, ?_⟩
  · rw [List.map_append, h1, List.take_succ_eq_append_getElem hk]; rfl
  · intro x hx
    rcases List.mem_append.1 hx with hx | hx
    · exact h2 x hx
    · simp at hx; subst hx; exact ⟨hg, by rw [list_size']; exact hs⟩
  · rw [writL_append, ba_list, ba_list, h3, hq]
    show _ = _ ++ writL [(l[k], g.data.toList)]
    rw [writL_cons]; simp [writL]
/-- What is written is the same source but for places. -/
theorem out_blank {L : List UInt8} {l : List Tk} {a : ByteArray} {r r' : Except (Int × Int) Tr} (hx : lexL L = .ok l) (hz : Zip l l.length a) (ha : a.size ≤ 4096) (h : Out L r) (h' : Out a.data.toList r') : Like2 r r' := by
  obtain ⟨z, h1, h2, h3⟩ := hz
  rw [List.take_length] at h1
  have hw := lex_writ hx z h1 (fun x hx => (h2 x hx).1) (by rw [← h3, list_size']; exact ha)
  rw [← h3] at hw
  unfold Out at h h'
  rw [hx] at h
  rw [hw] at h'
  exact syn_like (by rw [st_posed, h1]) h h'
theorem below_al {w a : World} (h : Below w.heap.size w a) (o : Obj) : Below w.heap.size w (a.alloc o) := h.alloc h.size o
theorem cell_kept {wc w2 : World} {p : Addr} {v : Value} (hB : Below wc.heap.size wc w2) (h : wc.cell? p = some v) : w2.cell? p = some v := by
  have hlt : p.block < wc.heap.size := by
    rcases Nat.lt_or_ge p.block wc.heap.size with h1 | h1
    · exact h1
    · simp [World.cell?, Array.getElem?_eq_none h1] at h
  exact (hB.cell hlt).trans h
section
variable {w w1 wc w2 : World} {a0 a1 a2 a3 : Addr} {v0 v1 v2 v3 : Value}
theorem tk_drew (h : wc.cell? a0 = some v0 ∧ wc.cell? a1 = some v1 ∧ wc.cell? a2 = some v2 ∧ wc.cell? a3 = some v3 ∧ Below w.heap.size w wc ∧ Below w1.heap.size w1 wc) : wc.drew.cell? a0 = some v0 ∧ wc.drew.cell? a1 = some v1 ∧ wc.drew.cell? a2 = some v2 ∧ wc.drew.cell? a3 = some v3 ∧ Below w.heap.size w wc.drew ∧ Below w1.heap.size w1 wc.drew := ⟨h.1, h.2.1, h.2.2.1, h.2.2.2.1, h.2.2.2.2.1.drew, h.2.2.2.2.2.drew⟩
theorem tk_alloc (h : wc.cell? a0 = some v0 ∧ wc.cell? a1 = some v1 ∧ wc.cell? a2 = some v2 ∧ wc.cell? a3 = some v3 ∧ Below w.heap.size w wc ∧ Below w1.heap.size w1 wc) (o : Obj) : (wc.alloc o).cell? a0 = some v0 ∧ (wc.alloc o).cell? a1 = some v1 ∧ (wc.alloc o).cell? a2 = some v2 ∧ (wc.alloc o).cell? a3 = some v3 ∧ Below w.heap.size w (wc.alloc o) ∧ Below w1.heap.size w1 (wc.alloc o) := ⟨cell_alloc h.1 o, cell_alloc h.2.1 o, cell_alloc h.2.2.1 o, cell_alloc h.2.2.2.1 o, below_al h.2.2.2.2.1 o, below_al h.2.2.2.2.2 o⟩
theorem tk_call (h : wc.cell? a0 = some v0 ∧ wc.cell? a1 = some v1 ∧ wc.cell? a2 = some v2 ∧ wc.cell? a3 = some v3 ∧ Below w.heap.size w wc ∧ Below w1.heap.size w1 wc) (hB : Below wc.heap.size wc w2) : w2.cell? a0 = some v0 ∧ w2.cell? a1 = some v1 ∧ w2.cell? a2 = some v2 ∧ w2.cell? a3 = some v3 ∧ Below w.heap.size w w2 ∧ Below w1.heap.size w1 w2 := ⟨cell_kept hB h.1, cell_kept hB h.2.1, cell_kept hB h.2.2.1, cell_kept hB h.2.2.2.1, bt3 h.2.2.2.2.1 hB, bt3 h.2.2.2.2.2 hB⟩
theorem tk_b (h : wc.cell? a0 = some v0 ∧ wc.cell? a1 = some v1 ∧ wc.cell? a2 = some v2 ∧ wc.cell? a3 = some v3 ∧ Below w.heap.size w wc ∧ Below w1.heap.size w1 wc) : Below w.heap.size w wc := h.2.2.2.2.1
end
theorem tmod4b (n : Int) : n.tmod 4 = -3 ∨ n.tmod 4 = -2 ∨ n.tmod 4 = -1 ∨ n.tmod 4 = 0 ∨ n.tmod 4 = 1 ∨ n.tmod 4 = 2 ∨ n.tmod 4 = 3 := by
  have h := Int.tmod_lt_of_pos n (show (0 : Int) < 4 by decide)
  have h2 := Int.tmod_lt_of_pos (-n) (show (0 : Int) < 4 by decide)
  rw [Int.neg_tmod] at h2
  omega
set_option maxRecDepth 100000 in
set_option maxHeartbeats 4000000 in
theorem law_SynBlanks (s : ByteArray) (hs : s.size ≤ 9223372036854775807) (how : Int) (n0 : -9223372036854775808 ≤ how) (n1 : how ≤ 9223372036854775807) (w : World) (hm : MLw w) (ht : Bt.tab w) :
    Calls Tryz.prog 5 #[.string s, .int .i64 how] w fun e w' => e = .returned (.bool true) ∧ Below w.heap.size w w' := by
  have hza := cut_size s 800
  have WK := Lib.hid (fun w' (hb : Below w.heap.size w w') => swork_any w' (hm.below hb) (Bt.tab_below ht hb))
  have T0 := Lib.hid (fun (x : ByteArray) (hx : x.size ≤ 100000) w' (hb : Below w.heap.size w w') => Parse_any x hx w' (hm.below hb) (Bt.tab_below ht hb))
  have K0 := Lib.hid (fun (x : ByteArray) (hx : x.size ≤ 100000) => Tokens_any x hx w hm)
  have HTB := Lib.hid ht
  clear hm ht
  go_enter Tryz.func5, Tryz.ntmps5
  go_wp2_with fail
  generalize s.extract 0 (min (s.size : Int) 800).toNat = x at *
  have hx : x.size ≤ 800 := hza
  clear hza
  have T1 := Lib.hid (T0.out x (by omega))
  have K1 := Lib.hid (K0.out x (by omega))
  clear K0
  refine K1.out.mono ?_; rintro e w1 F1
  have HB1 := Lib.hid (fp_below F1)
  generalize hlx : lexL x.data.toList = rl at *
  have HLX := Lib.hid hlx
  clear hlx K1
  rcases rl with ⟨p, c⟩ | l
  · obtain ⟨rfl, _⟩ := F1
    have hc := lex_err HLX.out
    have hc1 : (c != 0) = true := bne_iff_ne.2 (by omega)
    go_wp2_with fail
    refine (WK.out _ HB1.out).mono ?_; rintro e w9 ⟨rfl, hB⟩
    have HB9 := Lib.hid hB
    clear hB
    go_wp2_with fail
    go_ret
    exact ⟨rfl, below_trans HB1.out HB9.out HB1.out.size⟩
  · obtain ⟨v, rfl, hown, _⟩ := F1
    obtain ⟨ll1, ll2⟩ := lex_lens HLX.out
    rw [list_size'] at ll1 ll2
    have hl : l.length ≤ 800 := by omega
    have htx : ∀ t ∈ l, t.text.length ≤ 3200 ∧ 0 ≤ t.bits ∧ t.bits < 18446744073709551616 := fun t h => ⟨by have := ll2 t h; omega, gd_bits ((lexL_parts HLX.out).2.1 t h)⟩
    have PA : Hid (∀ (k : Nat) (hk : k < l.length) w1, Bt.tab w1 → Calls Tryz.prog 17 #[.agg #[.int .i64 l[k].kind, .int .i64 l[k].pos, .string (bs l[k].text), .int .u64 l[k].bits]] w1 fun e w2 => e = .returned (.string (bs (printL l[k]))) ∧ Below w1.heap.size w1 w2) := fun k hk w1 h1 => by
      have h2 := htx l[k] (List.getElem_mem hk)
      have := print_any l[k].kind l[k].pos l[k].bits (bs l[k].text) (by rw [bs_size]; omega) h2.2.1 h2.2.2 w1 h1
      rw [pr_list] at this
      exact this
    have SP : Hid (∀ (k : Nat) (hk : k < l.length), (printL l[k]).length ≤ 19230) := fun k hk => by have := print_len (n := 3200) (htx l[k] (List.getElem_mem hk)).1; omega
    have HOW := Lib.hid hown
    obtain ⟨ao, cp, rfl⟩ := own_slice hown
    clear hown htx ll1 ll2
    go_wp2_with fail
    go_loopg [8, 32] l.length (fun g2 aa ii wr => ∃ (k : Nat) (a : ByteArray), aa = .string a ∧ ii = .int .i64 (k : Int) ∧ g2 = l.length - k ∧ k ≤ l.length ∧ a.size ≤ k * 19240 ∧ Hid (Zip l k a) ∧ Hid (Below w.heap.size w wr) ∧ Hid (Below w1.heap.size w1 wr))
    case atStart => exact ⟨0, ⟨#[]⟩, rfl, rfl, rfl, Nat.zero_le _, Nat.zero_le _, Zip.zero l, HB1.out, Below.refl _ _⟩
    case round =>
      obtain ⟨k, a, rfl, rfl, rfl, hk, has, HZ, HB2, HB12⟩ := hrel
      by_cases hlt : k < l.length
      · obtain ⟨gb, cp2, hv, hg1, hg2⟩ := HOW.out.form (by omega)
        injection hv with hv _ hv2
        subst hv; subst hv2
        obtain ⟨b0, b1, b2, b3⟩ := tok_at HOW.out k hlt
        have c0 := (HB12.out.cell (p := ⟨gb, k * 4, none⟩) hg2).trans b0
        have c1 := (HB12.out.cell (p := ⟨gb, k * 4 + 1, none⟩) hg2).trans b1
        have c2 := (HB12.out.cell (p := ⟨gb, k * 4 + 2, none⟩) hg2).trans b2
        have c3 := (HB12.out.cell (p := ⟨gb, k * 4 + 3, none⟩) hg2).trans b3
        have PK := Lib.hid (PA.out k hlt)
        have hps : (bs (printL l[k])).size ≤ 19230 := by rw [bs_size]; exact SP.out k hlt
        have NX := Lib.hid (fun (g : ByteArray) (h1 : Gp g.data.toList) (h2 : g.size ≤ 10) => HZ.out.next hlt (bs (printL l[k])) g rfl h1 h2)
        generalize bs (printL l[k]) = q at *
        clear b0 b1 b2 b3
        obtain ⟨m, hm⟩ : ∃ m : Int, IntKind.i64.wrap (how + (k : Int)) = m := ⟨_, rfl⟩
        rcases tmod4b m with h4 | h4 | h4 | h4 | h4 | h4 | h4
        · have HG := Lib.hid (NX.out ⟨#[10, 10]⟩ gp_feeds (by decide))
          have hgz : (⟨#[10, 10]⟩ : ByteArray).size ≤ 8 := by decide
          generalize hgg : (⟨#[10, 10]⟩ : ByteArray) = gg at *
          have hsz1 : (q ++ gg).size = q.size + gg.size := ByteArray.size_append
          have hsz2 : (a ++ (q ++ gg)).size = a.size + (q.size + gg.size) := by rw [ByteArray.size_append, hsz1]
          have HSZ2 := Lib.hid hsz2
          clear hsz2
          have hlA : ¬ 9223372036854775807 < q.size + gg.size := by omega
          have hlB : ¬ 9223372036854775807 < a.size + (q.size + gg.size) := by omega
          have da0 := fun o => cell_alloc c0 o
          have da1 := fun o => cell_alloc c1 o
          have da2 := fun o => cell_alloc c2 o
          have da3 := fun o => cell_alloc c3 o
          have de0 := fun o => cell_alloc (cell_drew c0) o
          have de1 := fun o => cell_alloc (cell_drew c1) o
          have de2 := fun o => cell_alloc (cell_drew c2) o
          have de3 := fun o => cell_alloc (cell_drew c3) o
          have hS1 := HB2.out
          have hw1 : IntKind.i64.wrap 1 = 1 := by decide
          have hw2 : Int.tmod 1 4 = 1 := by decide
          have hgne : ¬ gb = wr.heap.size := by have := Nat.lt_of_lt_of_le hg2 HB12.out.size; omega
          go_wp2_with fail
          go_region_law
            (first | (go_simp
                      go_at_call 17
                      refine (PK.out _ (Bt.tab_below HTB.out (by first | exact hS1.drew | exact (below_al hS1 _).drew | exact below_al hS1.drew _ | exact below_al hS1 _))).mono ?_
                      rintro e wq ⟨rfl, hBq⟩
                      have HBQ : Hid (Below w.heap.size w wq) := bt3 (by first | exact hS1.drew | exact (below_al hS1 _).drew | exact below_al hS1.drew _ | exact below_al hS1 _) hBq
                      have HBQ1 : Hid (Below w1.heap.size w1 wq) := bt3 (by first | exact HB12.out.drew | exact (below_al HB12.out _).drew | exact below_al HB12.out.drew _ | exact below_al HB12.out _) hBq
                      have hj := fun (h : wr.heap.size < _) => hBq.cell (p := ⟨wr.heap.size, 1, none⟩) h
                      clear hBq))
          all_goals
            go_wp2_with fail
            go_roundg (l.length - (k + 1))
            case measure => omega
            case rel => exact ⟨k + 1, a ++ (q ++ gg), rfl, by simp, rfl, hlt, by rw [HSZ2.out]; omega, HG.out, by first | exact HBQ.out | exact below_al HBQ.out _, by first | exact HBQ1.out | exact below_al HBQ1.out _⟩
        · have HG := Lib.hid (NX.out ⟨#[32, 47, 42, 97, 59, 42, 47, 32]⟩ gp_remA (by decide))
          have hgz : (⟨#[32, 47, 42, 97, 59, 42, 47, 32]⟩ : ByteArray).size ≤ 8 := by decide
          generalize hgg : (⟨#[32, 47, 42, 97, 59, 42, 47, 32]⟩ : ByteArray) = gg at *
          have hsz1 : (q ++ gg).size = q.size + gg.size := ByteArray.size_append
          have hsz2 : (a ++ (q ++ gg)).size = a.size + (q.size + gg.size) := by rw [ByteArray.size_append, hsz1]
          have HSZ2 := Lib.hid hsz2
          clear hsz2
          have hlA : ¬ 9223372036854775807 < q.size + gg.size := by omega
          have hlB : ¬ 9223372036854775807 < a.size + (q.size + gg.size) := by omega
          have da0 := fun o => cell_alloc c0 o
          have da1 := fun o => cell_alloc c1 o
          have da2 := fun o => cell_alloc c2 o
          have da3 := fun o => cell_alloc c3 o
          have de0 := fun o => cell_alloc (cell_drew c0) o
          have de1 := fun o => cell_alloc (cell_drew c1) o
          have de2 := fun o => cell_alloc (cell_drew c2) o
          have de3 := fun o => cell_alloc (cell_drew c3) o
          have hS1 := HB2.out
          have hw1 : IntKind.i64.wrap 2 = 2 := by decide
          have hw2 : Int.tmod 2 4 = 2 := by decide
          have hgne : ¬ gb = wr.heap.size := by have := Nat.lt_of_lt_of_le hg2 HB12.out.size; omega
          go_wp2_with fail
          go_region_law
            (first | (go_simp
                      go_at_call 17
                      refine (PK.out _ (Bt.tab_below HTB.out (by first | exact hS1.drew | exact (below_al hS1 _).drew | exact below_al hS1.drew _ | exact below_al hS1 _))).mono ?_
                      rintro e wq ⟨rfl, hBq⟩
                      have HBQ : Hid (Below w.heap.size w wq) := bt3 (by first | exact hS1.drew | exact (below_al hS1 _).drew | exact below_al hS1.drew _ | exact below_al hS1 _) hBq
                      have HBQ1 : Hid (Below w1.heap.size w1 wq) := bt3 (by first | exact HB12.out.drew | exact (below_al HB12.out _).drew | exact below_al HB12.out.drew _ | exact below_al HB12.out _) hBq
                      have hj := fun (h : wr.heap.size < _) => hBq.cell (p := ⟨wr.heap.size, 2, none⟩) h
                      clear hBq))
          all_goals
            go_wp2_with fail
            go_roundg (l.length - (k + 1))
            case measure => omega
            case rel => exact ⟨k + 1, a ++ (q ++ gg), rfl, by simp, rfl, hlt, by rw [HSZ2.out]; omega, HG.out, by first | exact HBQ.out | exact below_al HBQ.out _, by first | exact HBQ1.out | exact below_al HBQ1.out _⟩
        · have HG := Lib.hid (NX.out ⟨#[32, 47, 47, 125, 10]⟩ gp_brace (by decide))
          have hgz : (⟨#[32, 47, 47, 125, 10]⟩ : ByteArray).size ≤ 8 := by decide
          generalize hgg : (⟨#[32, 47, 47, 125, 10]⟩ : ByteArray) = gg at *
          have hsz1 : (q ++ gg).size = q.size + gg.size := ByteArray.size_append
          have hsz2 : (a ++ (q ++ gg)).size = a.size + (q.size + gg.size) := by rw [ByteArray.size_append, hsz1]
          have HSZ2 := Lib.hid hsz2
          clear hsz2
          have hlA : ¬ 9223372036854775807 < q.size + gg.size := by omega
          have hlB : ¬ 9223372036854775807 < a.size + (q.size + gg.size) := by omega
          have da0 := fun o => cell_alloc c0 o
          have da1 := fun o => cell_alloc c1 o
          have da2 := fun o => cell_alloc c2 o
          have da3 := fun o => cell_alloc c3 o
          have de0 := fun o => cell_alloc (cell_drew c0) o
          have de1 := fun o => cell_alloc (cell_drew c1) o
          have de2 := fun o => cell_alloc (cell_drew c2) o
          have de3 := fun o => cell_alloc (cell_drew c3) o
          have hS1 := HB2.out
          have hw1 : IntKind.i64.wrap 3 = 3 := by decide
          have hw2 : Int.tmod 3 4 = 3 := by decide
          have hgne : ¬ gb = wr.heap.size := by have := Nat.lt_of_lt_of_le hg2 HB12.out.size; omega
          go_wp2_with fail
          go_region_law
            (first | (go_simp
                      go_at_call 17
                      refine (PK.out _ (Bt.tab_below HTB.out (by first | exact hS1.drew | exact (below_al hS1 _).drew | exact below_al hS1.drew _ | exact below_al hS1 _))).mono ?_
                      rintro e wq ⟨rfl, hBq⟩
                      have HBQ : Hid (Below w.heap.size w wq) := bt3 (by first | exact hS1.drew | exact (below_al hS1 _).drew | exact below_al hS1.drew _ | exact below_al hS1 _) hBq
                      have HBQ1 : Hid (Below w1.heap.size w1 wq) := bt3 (by first | exact HB12.out.drew | exact (below_al HB12.out _).drew | exact below_al HB12.out.drew _ | exact below_al HB12.out _) hBq
                      have hj := fun (h : wr.heap.size < _) => hBq.cell (p := ⟨wr.heap.size, 3, none⟩) h
                      clear hBq))
          all_goals
            go_wp2_with fail
            go_roundg (l.length - (k + 1))
            case measure => omega
            case rel => exact ⟨k + 1, a ++ (q ++ gg), rfl, by simp, rfl, hlt, by rw [HSZ2.out]; omega, HG.out, by first | exact HBQ.out | exact below_al HBQ.out _, by first | exact HBQ1.out | exact below_al HBQ1.out _⟩
        · have HG := Lib.hid (NX.out ⟨#[32]⟩ gp_one (by decide))
          have hgz : (⟨#[32]⟩ : ByteArray).size ≤ 8 := by decide
          generalize hgg : (⟨#[32]⟩ : ByteArray) = gg at *
          have hsz1 : (q ++ gg).size = q.size + gg.size := ByteArray.size_append
          have hsz2 : (a ++ (q ++ gg)).size = a.size + (q.size + gg.size) := by rw [ByteArray.size_append, hsz1]
          have HSZ2 := Lib.hid hsz2
          clear hsz2
          have hlA : ¬ 9223372036854775807 < q.size + gg.size := by omega
          have hlB : ¬ 9223372036854775807 < a.size + (q.size + gg.size) := by omega
          have da0 := fun o => cell_alloc c0 o
          have da1 := fun o => cell_alloc c1 o
          have da2 := fun o => cell_alloc c2 o
          have da3 := fun o => cell_alloc c3 o
          have de0 := fun o => cell_alloc (cell_drew c0) o
          have de1 := fun o => cell_alloc (cell_drew c1) o
          have de2 := fun o => cell_alloc (cell_drew c2) o
          have de3 := fun o => cell_alloc (cell_drew c3) o
          have hS1 := HB2.out
          have hw1 : IntKind.i64.wrap 4 = 4 := by decide
          have hw2 : Int.tmod 4 4 = 0 := by decide
          have hgne : ¬ gb = wr.heap.size := by have := Nat.lt_of_lt_of_le hg2 HB12.out.size; omega
          go_wp2_with fail
          go_region_law
            (first | (go_simp
                      go_at_call 17
                      refine (PK.out _ (Bt.tab_below HTB.out (by first | exact hS1.drew | exact (below_al hS1 _).drew | exact below_al hS1.drew _ | exact below_al hS1 _))).mono ?_
                      rintro e wq ⟨rfl, hBq⟩
                      have HBQ : Hid (Below w.heap.size w wq) := bt3 (by first | exact hS1.drew | exact (below_al hS1 _).drew | exact below_al hS1.drew _ | exact below_al hS1 _) hBq
                      have HBQ1 : Hid (Below w1.heap.size w1 wq) := bt3 (by first | exact HB12.out.drew | exact (below_al HB12.out _).drew | exact below_al HB12.out.drew _ | exact below_al HB12.out _) hBq
                      have hj := fun (h : wr.heap.size < _) => hBq.cell (p := ⟨wr.heap.size, 0, none⟩) h
                      clear hBq))
          all_goals
            go_wp2_with fail
            go_roundg (l.length - (k + 1))
            case measure => omega
            case rel => exact ⟨k + 1, a ++ (q ++ gg), rfl, by simp, rfl, hlt, by rw [HSZ2.out]; omega, HG.out, by first | exact HBQ.out | exact below_al HBQ.out _, by first | exact HBQ1.out | exact below_al HBQ1.out _⟩
        · have HG := Lib.hid (NX.out ⟨#[10, 10]⟩ gp_feeds (by decide))
          have hgz : (⟨#[10, 10]⟩ : ByteArray).size ≤ 8 := by decide
          generalize hgg : (⟨#[10, 10]⟩ : ByteArray) = gg at *
          have hsz1 : (q ++ gg).size = q.size + gg.size := ByteArray.size_append
          have hsz2 : (a ++ (q ++ gg)).size = a.size + (q.size + gg.size) := by rw [ByteArray.size_append, hsz1]
          have HSZ2 := Lib.hid hsz2
          clear hsz2
          have hlA : ¬ 9223372036854775807 < q.size + gg.size := by omega
          have hlB : ¬ 9223372036854775807 < a.size + (q.size + gg.size) := by omega
          have da0 := fun o => cell_alloc c0 o
          have da1 := fun o => cell_alloc c1 o
          have da2 := fun o => cell_alloc c2 o
          have da3 := fun o => cell_alloc c3 o
          have de0 := fun o => cell_alloc (cell_drew c0) o
          have de1 := fun o => cell_alloc (cell_drew c1) o
          have de2 := fun o => cell_alloc (cell_drew c2) o
          have de3 := fun o => cell_alloc (cell_drew c3) o
          have hS1 := HB2.out
          have hw1 : IntKind.i64.wrap 5 = 5 := by decide
          have hw2 : Int.tmod 5 4 = 1 := by decide
          have hgne : ¬ gb = wr.heap.size := by have := Nat.lt_of_lt_of_le hg2 HB12.out.size; omega
          go_wp2_with fail
          go_region_law
            (first | (go_simp
                      go_at_call 17
                      refine (PK.out _ (Bt.tab_below HTB.out (by first | exact hS1.drew | exact (below_al hS1 _).drew | exact below_al hS1.drew _ | exact below_al hS1 _))).mono ?_
                      rintro e wq ⟨rfl, hBq⟩
                      have HBQ : Hid (Below w.heap.size w wq) := bt3 (by first | exact hS1.drew | exact (below_al hS1 _).drew | exact below_al hS1.drew _ | exact below_al hS1 _) hBq
                      have HBQ1 : Hid (Below w1.heap.size w1 wq) := bt3 (by first | exact HB12.out.drew | exact (below_al HB12.out _).drew | exact below_al HB12.out.drew _ | exact below_al HB12.out _) hBq
                      have hj := fun (h : wr.heap.size < _) => hBq.cell (p := ⟨wr.heap.size, 1, none⟩) h
                      clear hBq))
          all_goals
            go_wp2_with fail
            go_roundg (l.length - (k + 1))
            case measure => omega
            case rel => exact ⟨k + 1, a ++ (q ++ gg), rfl, by simp, rfl, hlt, by rw [HSZ2.out]; omega, HG.out, by first | exact HBQ.out | exact below_al HBQ.out _, by first | exact HBQ1.out | exact below_al HBQ1.out _⟩
        · have HG := Lib.hid (NX.out ⟨#[32, 47, 42, 97, 59, 42, 47, 32]⟩ gp_remA (by decide))
          have hgz : (⟨#[32, 47, 42, 97, 59, 42, 47, 32]⟩ : ByteArray).size ≤ 8 := by decide
          generalize hgg : (⟨#[32, 47, 42, 97, 59, 42, 47, 32]⟩ : ByteArray) = gg at *
          have hsz1 : (q ++ gg).size = q.size + gg.size := ByteArray.size_append
          have hsz2 : (a ++ (q ++ gg)).size = a.size + (q.size + gg.size) := by rw [ByteArray.size_append, hsz1]
          have HSZ2 := Lib.hid hsz2
          clear hsz2
          have hlA : ¬ 9223372036854775807 < q.size + gg.size := by omega
          have hlB : ¬ 9223372036854775807 < a.size + (q.size + gg.size) := by omega
          have da0 := fun o => cell_alloc c0 o
          have da1 := fun o => cell_alloc c1 o
          have da2 := fun o => cell_alloc c2 o
          have da3 := fun o => cell_alloc c3 o
          have de0 := fun o => cell_alloc (cell_drew c0) o
          have de1 := fun o => cell_alloc (cell_drew c1) o
          have de2 := fun o => cell_alloc (cell_drew c2) o
          have de3 := fun o => cell_alloc (cell_drew c3) o
          have hS1 := HB2.out
          have hw1 : IntKind.i64.wrap 6 = 6 := by decide
          have hw2 : Int.tmod 6 4 = 2 := by decide
          have hgne : ¬ gb = wr.heap.size := by have := Nat.lt_of_lt_of_le hg2 HB12.out.size; omega
          go_wp2_with fail
          go_region_law
            (first | (go_simp
                      go_at_call 17
                      refine (PK.out _ (Bt.tab_below HTB.out (by first | exact hS1.drew | exact (below_al hS1 _).drew | exact below_al hS1.drew _ | exact below_al hS1 _))).mono ?_
                      rintro e wq ⟨rfl, hBq⟩
                      have HBQ : Hid (Below w.heap.size w wq) := bt3 (by first | exact hS1.drew | exact (below_al hS1 _).drew | exact below_al hS1.drew _ | exact below_al hS1 _) hBq
                      have HBQ1 : Hid (Below w1.heap.size w1 wq) := bt3 (by first | exact HB12.out.drew | exact (below_al HB12.out _).drew | exact below_al HB12.out.drew _ | exact below_al HB12.out _) hBq
                      have hj := fun (h : wr.heap.size < _) => hBq.cell (p := ⟨wr.heap.size, 2, none⟩) h
                      clear hBq))
          all_goals
            go_wp2_with fail
            go_roundg (l.length - (k + 1))
            case measure => omega
            case rel => exact ⟨k + 1, a ++ (q ++ gg), rfl, by simp, rfl, hlt, by rw [HSZ2.out]; omega, HG.out, by first | exact HBQ.out | exact below_al HBQ.out _, by first | exact HBQ1.out | exact below_al HBQ1.out _⟩
        · have HG := Lib.hid (NX.out ⟨#[32, 47, 47, 125, 10]⟩ gp_brace (by decide))
          have hgz : (⟨#[32, 47, 47, 125, 10]⟩ : ByteArray).size ≤ 8 := by decide
          generalize hgg : (⟨#[32, 47, 47, 125, 10]⟩ : ByteArray) = gg at *
          have hsz1 : (q ++ gg).size = q.size + gg.size := ByteArray.size_append
          have hsz2 : (a ++ (q ++ gg)).size = a.size + (q.size + gg.size) := by rw [ByteArray.size_append, hsz1]
          have HSZ2 := Lib.hid hsz2
          clear hsz2
          have hlA : ¬ 9223372036854775807 < q.size + gg.size := by omega
          have hlB : ¬ 9223372036854775807 < a.size + (q.size + gg.size) := by omega
          have da0 := fun o => cell_alloc c0 o
          have da1 := fun o => cell_alloc c1 o
          have da2 := fun o => cell_alloc c2 o
          have da3 := fun o => cell_alloc c3 o
          have de0 := fun o => cell_alloc (cell_drew c0) o
          have de1 := fun o => cell_alloc (cell_drew c1) o
          have de2 := fun o => cell_alloc (cell_drew c2) o
          have de3 := fun o => cell_alloc (cell_drew c3) o
          have hS1 := HB2.out
          have hw1 : IntKind.i64.wrap 7 = 7 := by decide
          have hw2 : Int.tmod 7 4 = 3 := by decide
          have hgne : ¬ gb = wr.heap.size := by have := Nat.lt_of_lt_of_le hg2 HB12.out.size; omega
          go_wp2_with fail
          go_region_law
            (first | (go_simp
                      go_at_call 17
                      refine (PK.out _ (Bt.tab_below HTB.out (by first | exact hS1.drew | exact (below_al hS1 _).drew | exact below_al hS1.drew _ | exact below_al hS1 _))).mono ?_
                      rintro e wq ⟨rfl, hBq⟩
                      have HBQ : Hid (Below w.heap.size w wq) := bt3 (by first | exact hS1.drew | exact (below_al hS1 _).drew | exact below_al hS1.drew _ | exact below_al hS1 _) hBq
                      have HBQ1 : Hid (Below w1.heap.size w1 wq) := bt3 (by first | exact HB12.out.drew | exact (below_al HB12.out _).drew | exact below_al HB12.out.drew _ | exact below_al HB12.out _) hBq
                      have hj := fun (h : wr.heap.size < _) => hBq.cell (p := ⟨wr.heap.size, 3, none⟩) h
                      clear hBq))
          all_goals
            go_wp2_with fail
            go_roundg (l.length - (k + 1))
            case measure => omega
            case rel => exact ⟨k + 1, a ++ (q ++ gg), rfl, by simp, rfl, hlt, by rw [HSZ2.out]; omega, HG.out, by first | exact HBQ.out | exact below_al HBQ.out _, by first | exact HBQ1.out | exact below_al HBQ1.out _⟩
      · have he : k = l.length := by omega
        subst he
        by_cases hbig : 4096 < a.size
        · have hbi : (4096 : Int) < (a.size : Int) := by omega
          go_wp2_with fail
          refine (WK.out _ HB2.out).mono ?_; rintro e w9 ⟨rfl, hB⟩
          have HB9 := Lib.hid hB
          clear hB
          go_wp2_with fail
          go_ret
          exact ⟨rfl, below_trans HB2.out HB9.out HB2.out.size⟩
        · have hbi : ¬ (4096 : Int) < (a.size : Int) := by omega
          go_wp2_with fail
          refine (T1.out _ HB2.out).mono ?_; rintro e w2 ⟨r1, h1, F1⟩
          have T2 := Lib.hid (T0.out a (by omega))
          have HB3 := Lib.hid (below_trans HB2.out (tp_below F1) HB2.out.size)
          have OB := Lib.hid (fun r2 h2 => out_blank (r' := r2) HLX.out HZ.out (by omega) h1 h2)
          clear h1 T0
          rcases r1 with ⟨p1, f1⟩ | t
          · obtain ⟨rfl, _⟩ := F1
            go_wp2_with fail
            refine (T2.out _ HB3.out).mono ?_; rintro e w3 ⟨r2, h2, F2⟩
            have HB4 := Lib.hid (below_trans HB3.out (tp_below F2) HB3.out.size)
            have LK := OB.out r2 h2
            rcases r2 with ⟨p2, f2⟩ | t2
            · have hf : f1 = f2 := LK
              subst hf
              obtain ⟨rfl, _⟩ := F2
              have SA := Lib.hid (fun w' (hb : Below w3.heap.size w3 w') => same_yes w' (.slice none 0 0) (.slice none 0 0) [] (.inl ⟨rfl, _, _, rfl⟩) (.inl ⟨rfl, _, _, rfl⟩) (by decide))
              clear h2 LK OB T2
              have hS0 : Below w3.heap.size w3 w3.drew := (Below.refl _ _).drew
              have HB4D := Lib.hid (fun w' (hb : Below w3.heap.size w3 w') => below_trans HB4.out hb HB4.out.size)
              go_wp2_with fail
              refine (SA.out _ (Below.refl _ _)).mono ?_; rintro e w4 ⟨rfl, hB4⟩
              have HB5 := Lib.hid (HB4D.out _ hB4)
              clear hB4
              go_wp2_with fail
              refine (WK.out _ HB5.out).mono ?_; rintro e w5 ⟨rfl, hB6⟩
              have HB6 := Lib.hid hB6
              clear hB6
              go_wp2_with fail
              go_ret
              exact ⟨rfl, below_trans HB5.out HB6.out HB5.out.size⟩
            · exact LK.elim
          · obtain ⟨v1, rfl, W1, hl1, _⟩ := F1
            have HW1 := Lib.hid W1
            clear W1
            go_wp2_with fail
            refine (T2.out _ HB3.out).mono ?_; rintro e w3 ⟨r2, h2, F2⟩
            have HB23 := tp_below F2
            have HB4 := Lib.hid (below_trans HB3.out (tp_below F2) HB3.out.size)
            have LK := OB.out r2 h2
            rcases r2 with ⟨p2, f2⟩ | t2
            · exact LK.elim
            · have hf : t = t2 := LK
              subst hf
              obtain ⟨v2, rfl, W2, _, _⟩ := F2
              have N1 := (NRow.own (own_below HW1.out HB23)).ro
              have N2 := (NRow.own W2).ro
              have SA := Lib.hid (fun w' (hb : Below w3.heap.size w3 w') => same_yes w' v1 v2 (layT t) (N1.below hb) (N2.below hb) (by omega))
              clear h2 LK OB T2 W2 N1 N2 HB23
              have hS0 : Below w3.heap.size w3 w3.drew := (Below.refl _ _).drew
              have HB4D := Lib.hid (fun w' (hb : Below w3.heap.size w3 w') => below_trans HB4.out hb HB4.out.size)
              go_wp2_with fail
              refine (SA.out _ (Below.refl _ _)).mono ?_; rintro e w4 ⟨rfl, hB4⟩
              have HB5 := Lib.hid (HB4D.out _ hB4)
              clear hB4
              go_wp2_with fail
              refine (WK.out _ HB5.out).mono ?_; rintro e w5 ⟨rfl, hB6⟩
              have HB6 := Lib.hid hB6
              clear hB6
              go_wp2_with fail
              go_ret
              exact ⟨rfl, below_trans HB5.out HB6.out HB5.out.size⟩
end Go.Proofs.YtnkfodelgpidkaaGreatDoor
