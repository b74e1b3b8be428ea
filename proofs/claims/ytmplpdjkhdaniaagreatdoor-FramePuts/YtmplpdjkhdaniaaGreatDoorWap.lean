/-
  What Add answers.
-/
import Derived.Test.YtmplpdjkhdaniaaGreatDoorWao
namespace Go.Proofs.YtmplpdjkhdaniaaGreatDoor
open Go.RowKit Go.Shelf
set_option maxRecDepth 100000

set_option maxHeartbeats 2000000 in
theorem add_no (w : World) (B g : Nat) (v : Value) (l : List Sp) (f t : Int) (h : ST w B g v l) (hm : may f t = false ∨ cnt (clip l f t) = t - f + 1) :
    Calls Tryz.prog 63 #[.pointer (some ⟨g, 0, none⟩), .int .i64 f, .int .i64 t] w fun e w' => e = .returned (.bool false) ∧ Below w.heap.size w w' := by
  have cm := mayBe_any f t w
  have HB : Hid (Below w.heap.size w w) := Below.refl _ _
  by_cases h1 : may f t = true
  · have hc : cnt (clip l f t) = t - f + 1 := hm.resolve_left (by rw [h1]; simp)
    have o := (may_iff f t).1 h1
    unfold Okk at o
    simp only at o
    obtain ⟨o1, o2, o3⟩ := o
    have cc := count_any w _ f t _ (h.sq (f := f) (t := t) o2)
    have HS : Hid (∀ W, Calls Tryz.prog 79 #[.agg #[.int .i64 f, .int .i64 t]] W fun e w' => e = .returned (.int .i64 (t - f + 1)) ∧ Below W.heap.size W w') := fun W => size_any f t W (by omega)
    rw [h1] at cm
    rw [hc] at cc
    clear h hm h1 hc
    have x0 : (t - f + 1 == t - f + 1) = true := by simp
    go_enter Tryz.func63, Tryz.ntmps63
    go_wp2_with fail
    refine cm.mono ?_
    rintro e w1 ⟨rfl, e1⟩
    rw [e1]
    clear cm e1 w1
    go_wp2_with fail
    refine cc.mono ?_
    rintro e w1 ⟨rfl, b1⟩
    have B1 : Hid (Below w.heap.size w w1) := b1
    have cs := HS.out w1
    clear cc b1 HS HB
    go_wp2_with fail
    refine cs.mono ?_
    rintro e w2 ⟨rfl, b2⟩
    have B2 : Hid (Below w.heap.size w w2) := B1.out.trans (b2.mono B1.out.size)
    clear cs b2 B1
    go_wp2
    go_ret
    exact ⟨rfl, B2.out⟩
  · have h1' : may f t = false := by simpa using h1
    rw [h1'] at cm
    clear h hm h1 h1'
    go_enter Tryz.func63, Tryz.ntmps63
    go_wp2_with fail
    refine cm.mono ?_
    rintro e w1 ⟨rfl, e1⟩
    rw [e1]
    clear cm e1 w1
    go_wp2
    go_ret
    exact ⟨rfl, HB.out⟩
set_option maxHeartbeats 4000000 in
theorem add_yes (w : World) (B g : Nat) (v : Value) (l : List Sp) (f t : Int) (h : ST w B g v l) (hl : l.length ≤ 999) (hB : B ≤ w.heap.size) (hm : may f t = true) (hc : cnt (clip l f t) ≠ t - f + 1) :
    Calls Tryz.prog 63 #[.pointer (some ⟨g, 0, none⟩), .int .i64 f, .int .i64 t] w fun e w' => e = .returned (.bool true) ∧ ∃ v', ST w' B g v' (addL l f t) ∧ SU w w' g v v' := by
  have cm := mayBe_any f t w
  have ok := (may_iff f t).1 hm
  have asp := add_spec h.cn ok
  have o := ok
  unfold Okk at o
  simp only at o
  obtain ⟨o1, o2, o3⟩ := o
  have cc := count_any w _ f t _ (h.sq (f := f) (t := t) o2)
  have HS : Hid (∀ W, Calls Tryz.prog 79 #[.agg #[.int .i64 f, .int .i64 t]] W fun e w' => e = .returned (.int .i64 (t - f + 1)) ∧ Below W.heap.size W w') := fun W => size_any f t W (by omega)
  rw [hm] at cm
  have x0 : (cnt (clip l f t) == t - f + 1) = false := by simpa using hc
  have cbd := cnt_nonneg (clip_canon h.cn o2)
  have cbd2 := cnt_le (clip_canon h.cn o2)
  have hclen := clip_len l f t
  have hij : fE l (f - 1) ≤ bU l (t + 1) := fE_bU h.cn (by omega)
  have hjl := bU_le l (t + 1)
  have hln : (addL l f t).length ≤ 1000 := by have := addL_len l f t hij; omega
  have HEA : Hid (∀ W, Below w.heap.size w W → Calls Tryz.prog 80 #[.pointer (some ⟨g, 0, none⟩), .int .i64 (f - 1)] W fun e w' => e = .returned (.int .i64 (fE l (f - 1) : Nat)) ∧ Below W.heap.size W w') := fun W hb => ea_any W g v l _ (h.sb.kept hb) (h.rs.is.kept hb) h.cn (by omega)
  have HBU : Hid (∀ W, Below w.heap.size w W → Calls Tryz.prog 81 #[.pointer (some ⟨g, 0, none⟩), .int .i64 (t + 1)] W fun e w' => e = .returned (.int .i64 (bU l (t + 1) : Nat)) ∧ Below W.heap.size W w') := fun W hb => bu_any W g v l _ (h.sb.kept hb) (h.rs.is.kept hb) h.cn (by omega)
  have HRP : Hid (∀ W, Below w.heap.size w W → Calls Tryz.prog 82 #[v, .int .i64 (fE l (f - 1) : Nat), .int .i64 (bU l (t + 1) : Nat), .slice (some ⟨W.heap.size, 0, none⟩) 1 1] (W.alloc (.cells #[.int .i64 (adF l f t), .int .i64 (adT l f t)] 89)) fun e w' => ∃ v', e = .returned v' ∧ (SB w' g v) ∧ ST (w'.setCell ⟨g, 0, none⟩ v') B g v' (addL l f t) ∧ SU w (w'.setCell ⟨g, 0, none⟩ v') g v v') := fun W hb => by
    have b1 : Below w.heap.size w (W.alloc (.cells #[.int .i64 (adF l f t), .int .i64 (adT l f t)] 89)) := hb.alloc hb.size _
    refine (rep_one _ B v l (fE l (f - 1)) (bU l (t + 1)) W.heap.size (adF l f t, adT l f t) (h.rs.below b1) (Nat.le_trans hB b1.size) (by omega) hij hjl (heap_alloc_new _ _) (fun e => by have := own_lt h.rs _ e; have := hb.size; omega)).mono ?_
    rintro e w' ⟨v', rfl, r1, r2, r3⟩
    have e : l.take (fE l (f - 1)) ++ [(adF l f t, adT l f t)] ++ l.drop (bU l (t + 1)) = addL l f t := by unfold addL adI adJ; simp
    rw [e] at r1
    exact ⟨v', rfl, su_sb h b1 r2, su_mk h b1 r1 r2 r3 asp.1 hln⟩
  obtain ⟨a, c, rfl, h2, h3, h4⟩ := h.rs.is.shape
  have HT : Hid (ST w B g (.slice a l.length c) l) := h
  generalize cnt (clip l f t) = q at *
  by_cases hlt : fE l (f - 1) < bU l (t + 1)
  · have eF : adF l f t = min f (atS l (fE l (f - 1))).1 := by unfold adF; exact if_pos hlt
    have eT : adT l f t = max t (atS l (bU l (t + 1) - 1)).2 := by unfold adT; exact if_pos hlt
    rw [eF, eT] at HRP
    obtain ⟨bb, off, rfl, hr⟩ := h.rs.is.at (fE l (f - 1)) (by omega)
    have HC : Hid (∀ W, Below w.heap.size w W → W.cell? ⟨g, 0, none⟩ = some (.slice (some ⟨bb, off, none⟩) l.length c) ∧ W.cell? ⟨bb, off + fE l (f - 1) * 2, none⟩ = some (.int .i64 (atS l (fE l (f - 1))).1) ∧ W.cell? ⟨bb, off + (bU l (t + 1) - 1) * 2 + 1, none⟩ = some (.int .i64 (atS l (bU l (t + 1) - 1)).2)) := fun W hb => by
      refine ⟨(h.sb.kept hb).cell, ?_, ?_⟩
      · obtain ⟨b', o', e, q⟩ := (h.rs.is.kept hb).at (fE l (f - 1)) (by omega)
        simp only [Option.some.injEq, Addr.mk.injEq] at e
        obtain ⟨rfl, rfl, -⟩ := e
        exact (spC q).1
      · obtain ⟨b', o', e, q⟩ := (h.rs.is.kept hb).at (bU l (t + 1) - 1) (by omega)
        simp only [Option.some.injEq, Addr.mk.injEq] at e
        obtain ⟨rfl, rfl, -⟩ := e
        exact (spC q).2
    clear h hr h4 asp hln ok hm hc eF eT HT
    generalize atS l (fE l (f - 1)) = x at *
    generalize atS l (bU l (t + 1) - 1) = y at *
    generalize addL l f t = l' at *
    generalize fE l (f - 1) = i9 at *
    generalize bU l (t + 1) = j9 at *
    generalize l.length = n9 at *
    generalize (clip l f t).length = z9 at *
    have x1 : (i9 : Int) < (j9 : Int) := by omega
    have x2 : (i9 : Int) < (n9 : Int) := by omega
    have x3 : IntKind.i64.wrap ((j9 : Int) - 1) = ((j9 - 1 : Nat) : Int) := by rw [IntKind.wrap_i64]; omega
    have x4 : (j9 : Int) - 1 = ((j9 - 1 : Nat) : Int) := by omega
    have x5 : ((j9 - 1 : Nat) : Int) < (n9 : Int) := by omega
    go_enter Tryz.func63, Tryz.ntmps63
    go_wp2_with fail
    refine cm.mono ?_
    rintro e w1 ⟨rfl, e1⟩
    rw [e1]
    clear cm e1 w1
    go_wp2_with fail
    refine cc.mono ?_
    rintro e w1 ⟨rfl, b1⟩
    have B1 : Hid (Below w.heap.size w w1) := b1
    have cs := HS.out w1
    clear cc b1 HS
    go_wp2_with fail
    refine cs.mono ?_
    rintro e w2 ⟨rfl, b2⟩
    have B2 : Hid (Below w.heap.size w w2) := B1.out.trans (b2.mono B1.out.size)
    have ce := HEA.out w2 B2.out
    clear cs b2 B1 HEA
    go_wp2_with fail
    refine ce.mono ?_
    rintro e w3 ⟨rfl, b3⟩
    have B3 : Hid (Below w.heap.size w w3) := B2.out.trans (b3.mono B2.out.size)
    have ce := HBU.out w3 B3.out
    clear b3 B2 HBU
    go_wp2_with fail
    refine ce.mono ?_
    rintro e w4 ⟨rfl, b4⟩
    have B4 : Hid (Below w.heap.size w w4) := B3.out.trans (b4.mono B3.out.size)
    obtain ⟨k0, k1, k2⟩ := HC.out w4 B4.out
    have cr := HRP.out w4 B4.out
    clear ce b4 B3 HRP HC
    go_wp2_with fail
    refine cr.mono ?_
    rintro e w5 ⟨v5, rfl, s5, R5⟩
    obtain ⟨a5, c5, rfl, -, -, -⟩ := R5.1.rs.is.shape
    have R : Hid (ST (w5.setCell ⟨g, 0, none⟩ (.slice a5 l'.length c5)) B g (.slice a5 l'.length c5) l' ∧ SU w (w5.setCell ⟨g, 0, none⟩ (.slice a5 l'.length c5)) g (.slice (some ⟨bb, off, none⟩) n9 c) (.slice a5 l'.length c5)) := R5
    have k3 := s5.cell
    have k4 := s5.frz
    clear cr R5 s5
    generalize l'.length = n8 at *
    go_wp2
    go_ret
    exact ⟨rfl, _, R.out⟩
  · have eF : adF l f t = f := by unfold adF; exact if_neg hlt
    have eT : adT l f t = t := by unfold adT; exact if_neg hlt
    rw [eF, eT] at HRP
    have HC : Hid (∀ W, Below w.heap.size w W → W.cell? ⟨g, 0, none⟩ = some (.slice a l.length c)) := fun W hb => (h.sb.kept hb).cell
    clear h h4 asp hln ok hm hc eF eT HT
    generalize addL l f t = l' at *
    generalize fE l (f - 1) = i9 at *
    generalize bU l (t + 1) = j9 at *
    generalize l.length = n9 at *
    generalize (clip l f t).length = z9 at *
    have x1 : ¬ (i9 : Int) < (j9 : Int) := by omega
    go_enter Tryz.func63, Tryz.ntmps63
    go_wp2_with fail
    refine cm.mono ?_
    rintro e w1 ⟨rfl, e1⟩
    rw [e1]
    clear cm e1 w1
    go_wp2_with fail
    refine cc.mono ?_
    rintro e w1 ⟨rfl, b1⟩
    have B1 : Hid (Below w.heap.size w w1) := b1
    have cs := HS.out w1
    clear cc b1 HS
    go_wp2_with fail
    refine cs.mono ?_
    rintro e w2 ⟨rfl, b2⟩
    have B2 : Hid (Below w.heap.size w w2) := B1.out.trans (b2.mono B1.out.size)
    have ce := HEA.out w2 B2.out
    clear cs b2 B1 HEA
    go_wp2_with fail
    refine ce.mono ?_
    rintro e w3 ⟨rfl, b3⟩
    have B3 : Hid (Below w.heap.size w w3) := B2.out.trans (b3.mono B2.out.size)
    have ce := HBU.out w3 B3.out
    clear b3 B2 HBU
    go_wp2_with fail
    refine ce.mono ?_
    rintro e w4 ⟨rfl, b4⟩
    have B4 : Hid (Below w.heap.size w w4) := B3.out.trans (b4.mono B3.out.size)
    have k0 := HC.out w4 B4.out
    have cr := HRP.out w4 B4.out
    clear ce b4 B3 HRP HC
    go_wp2_with fail
    refine cr.mono ?_
    rintro e w5 ⟨v5, rfl, s5, R5⟩
    obtain ⟨a5, c5, rfl, -, -, -⟩ := R5.1.rs.is.shape
    have R : Hid (ST (w5.setCell ⟨g, 0, none⟩ (.slice a5 l'.length c5)) B g (.slice a5 l'.length c5) l' ∧ SU w (w5.setCell ⟨g, 0, none⟩ (.slice a5 l'.length c5)) g (.slice a n9 c) (.slice a5 l'.length c5)) := R5
    have k3 := s5.cell
    have k4 := s5.frz
    clear cr R5 s5
    generalize l'.length = n8 at *
    go_wp2
    go_ret
    exact ⟨rfl, _, R.out⟩
theorem add_any (w : World) (B g : Nat) (v : Value) (l : List Sp) (f t : Int) (h : ST w B g v l) (hl : l.length ≤ 999) (hB : B ≤ w.heap.size) :
    Calls Tryz.prog 63 #[.pointer (some ⟨g, 0, none⟩), .int .i64 f, .int .i64 t] w fun e w' => e = .returned (.bool (adB l f t)) ∧ ∃ v', ST w' B g v' (adP l f t) ∧ SU w w' g v v' := by
  by_cases hm : may f t = true
  · by_cases hc : cnt (clip l f t) = t - f + 1
    · have e1 : adB l f t = false := by unfold adB; rw [decide_eq_true hc]; simp
      have e2 : adP l f t = l := by unfold adP; exact if_neg (fun x => x.2 hc)
      rw [e1, e2]
      refine (add_no w B g v l f t h (.inr hc)).mono ?_
      rintro e w' ⟨rfl, b⟩
      exact ⟨rfl, v, h.below b, SU.of b⟩
    · have e1 : adB l f t = true := by unfold adB; rw [decide_eq_false hc, hm]; rfl
      have e2 : adP l f t = addL l f t := by unfold adP; exact if_pos ⟨hm, hc⟩
      rw [e1, e2]
      exact add_yes w B g v l f t h hl hB hm hc
  · have e1 : adB l f t = false := by unfold adB; simp at hm; rw [hm]; rfl
    have e2 : adP l f t = l := by unfold adP; exact if_neg (fun x => hm x.1)
    rw [e1, e2]
    refine (add_no w B g v l f t h (.inl (by simpa using hm))).mono ?_
    rintro e w' ⟨rfl, b⟩
    exact ⟨rfl, v, h.below b, SU.of b⟩
end Go.Proofs.YtmplpdjkhdaniaaGreatDoor
