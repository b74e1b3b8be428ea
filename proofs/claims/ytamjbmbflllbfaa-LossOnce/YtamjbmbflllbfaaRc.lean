/-
  What the document's Check and Has of spans answer.
-/
import Derived.Test.YtamjbmbflllbfaaLi
namespace Go.Proofs.Ytamjbmbflllbfaa
open Go.RowKit Go.Shelf
set_option maxRecDepth 100000

/-- Whether a span may not stand where it stands. -/
def bad (l : List Sp) (i : Nat) : Bool := !may (atS l i).1 (atS l i).2 || (decide (0 < i) && decide ((atS l i).1 < (atS l (i - 1)).2 + 2))
theorem canon_bad {l : List Sp} (h : Canon l) (i : Nat) (hi : i < l.length) : bad l i = false := by
  unfold bad
  have h1 : may (atS l i).1 (atS l i).2 = true := (may_iff _ _).2 (h.1 _ (atS_mem l i hi))
  rw [h1, Bool.not_true, Bool.false_or]
  by_cases h0 : 0 < i
  · have := h.rise (show i - 1 < i by omega) hi
    rw [decide_eq_false (show ¬ (atS l i).1 < (atS l (i - 1)).2 + 2 by omega), Bool.and_false]
  · rw [decide_eq_false h0]; rfl
theorem good_canon {l : List Sp} (h : ∀ i, i < l.length → bad l i = false) : Canon l := by
  have h1 : ∀ i, i < l.length → Okk (atS l i) := fun i hi => by
    have := h i hi
    unfold bad at this
    rw [Bool.or_eq_false_iff, Bool.not_eq_false'] at this
    exact (may_iff _ _).1 this.1
  have h2 : ∀ i, i + 1 < l.length → (atS l i).2 + 2 ≤ (atS l (i + 1)).1 := fun i hi => by
    have := h (i + 1) hi
    unfold bad at this
    rw [Bool.or_eq_false_iff, decide_eq_true (show 0 < i + 1 by omega), Bool.true_and, decide_eq_false_iff_not, Nat.add_sub_cancel] at this
    omega
  refine ⟨fun x hx => ?_, ?_⟩
  · obtain ⟨k, hk, rfl⟩ := mem_idx hx
    exact h1 k hk
  · have h3 : ∀ d i, i + d + 1 < l.length → (atS l i).2 + 2 ≤ (atS l (i + d + 1)).1 := by
      intro d
      induction d with
      | zero => intro i hi; exact h2 i hi
      | succ d ih =>
        intro i hi
        have a := ih i (by omega)
        have b := h2 (i + d + 1) (by omega)
        have c := (h1 (i + d + 1) (by omega)).2.1
        rw [show i + (d + 1) + 1 = i + d + 1 + 1 by omega]
        omega
    refine List.pairwise_iff_getElem.2 fun i j hi hj hij => ?_
    have := h3 (j - i - 1) i (by omega)
    rw [show i + (j - i - 1) + 1 = j by omega, atS_eq l i hi, atS_eq l j hj] at this
    exact this
theorem chkL_bad {l : List Sp} (h : l.length ≤ 64) (i : Nat) (hi : i < l.length) (hb : bad l i = true) : chkL l = 4 := by
  unfold chkL
  rw [if_neg (by omega), if_pos]
  right
  intro e
  have hc : Canon l := by rw [← e]; exact (setL_spec l).1
  rw [canon_bad hc i hi] at hb
  cases hb
theorem chkL_good {l : List Sp} (h : l.length ≤ 64) (h0 : 0 < l.length) (hb : ∀ i, i < l.length → bad l i = false) : chkL l = 0 := by
  unfold chkL
  rw [if_neg (by omega), if_neg]
  rintro (e | e)
  · rw [e] at h0; simp at h0
  · exact e (setL_canon (good_canon hb))
set_option maxHeartbeats 4000000 in
theorem rcheck_any (w : World) (u : Value) (l : List Sp) (hu : SSp w u l) (hl : l.length ≤ 1000) :
    Calls Try.prog 42 #[u] w fun e w' => e = .returned (.int .i64 (chkL l)) ∧ Below w.heap.size w w' := by
  obtain ⟨a, c, rfl, -⟩ := id hu.shape
  by_cases h64 : 64 < l.length
  · have e1 : chkL l = 5 := by unfold chkL; rw [if_pos h64]
    have t0 : (64 : Int) < (l.length : Int) := by omega
    rw [e1]
    clear hu e1
    generalize l.length = n at *
    go_enter Try.func42, Try.ntmps42
    go_wp2
    go_ret
    exact ⟨rfl, Below.refl _ _⟩
  · have t0 : ¬ (64 : Int) < (l.length : Int) := by omega
    have HAT : Hid (∀ j, j < l.length → ∀ W, Below w.heap.size w W → ∃ b off, a = some ⟨b, off, none⟩ ∧ W.cell? ⟨b, off + j * 2, none⟩ = some (.int .i64 (atS l j).1) ∧ W.cell? ⟨b, off + j * 2 + 1, none⟩ = some (.int .i64 (atS l j).2)) := fun j hj W hb => by
      obtain ⟨b, off, e, q⟩ := (hu.kept hb).at j hj
      exact ⟨b, off, e, (spC q).1, (spC q).2⟩
    have HBAD : Hid (∀ i, i < l.length → bad l i = true → chkL l = 4) := fun i hi hb => chkL_bad (by omega) i hi hb
    have HOK : Hid (0 < l.length → (∀ i, i < l.length → bad l i = false) → chkL l = 0) := fun h0 hb => chkL_good (by omega) h0 hb
    have HNO : Hid (l.length = 0 → chkL l = 4) := fun h0 => by
      unfold chkL
      rw [if_neg (by omega), if_pos (.inl (List.length_eq_zero_iff.1 h0))]
    have HDF : Hid (∀ i, bad l i = (!may (atS l i).1 (atS l i).2 || (decide (0 < i) && decide ((atS l i).1 < (atS l (i - 1)).2 + 2)))) := fun i => rfl
    have HMAY : Hid (∀ i, bad l i = false → (atS l i).2 ≤ 1099511627776 ∧ 0 ≤ (atS l i).2) := fun i hb => by
      unfold bad at hb
      rw [Bool.or_eq_false_iff, Bool.not_eq_false'] at hb
      have := (may_iff _ _).1 hb.1
      unfold Okk at this
      simp only at this
      omega
    clear hu
    generalize chkL l = R at *
    generalize hBd : bad l = Bd at *
    clear hBd
    generalize hA : atS l = Av at *
    clear hA
    obtain ⟨n, hn⟩ : ∃ n, n = l.length := ⟨_, rfl⟩
    rw [← hn] at HAT HBAD HOK HNO t0 hl h64 ⊢
    clear hn
    go_enter Try.func42, Try.ntmps42
    go_wp2
    go_loopw [3] (fun u wr => ∃ i : Nat, i ≤ n ∧ u = .int .i64 i ∧ (∀ k, k < i → Bd k = false) ∧ Below w.heap.size w wr) (fun u _ => n - (intOf u).toNat)
    case atStart => exact ⟨0, by omega, rfl, fun k hk => by omega, Below.refl _ _⟩
    case round =>
      obtain ⟨i, hi, rfl, hk, bel⟩ := hrel
      have HB : Hid (Below w.heap.size w wr) := bel
      have HK : Hid (∀ k, k < i → Bd k = false) := hk
      clear bel hk
      by_cases hin : i < n
      · have lt2 : (i : Int) < (n : Int) := by omega
        have l0 : (0 : Int) ≤ (i : Int) := by omega
        obtain ⟨b, off, rfl, k1, k2⟩ := HAT.out i hin wr HB.out
        have HD : Hid (Bd i = (!may (Av i).1 (Av i).2 || (decide (0 < i) && decide ((Av i).1 < (Av (i - 1)).2 + 2)))) := HDF.out i
        have HBI : Hid (Bd i = true → R = 4) := fun h => HBAD.out i hin h
        have HKN : Hid (Bd i = false → ∀ k, k < i + 1 → Bd k = false) := fun h k hk => by
          rcases Nat.lt_or_ge k i with h' | h'
          · exact HK.out k h'
          · rw [show k = i by omega]; exact h
        have CM : Hid (∀ W, Calls Try.prog 49 #[.int .i64 (Av i).1, .int .i64 (Av i).2] W fun e w' => e = .returned (.bool (may (Av i).1 (Av i).2)) ∧ w' = W) := fun W => rmay_any _ _ W
        by_cases hi0 : i = 0
        · subst hi0
          have z0 : decide ((0 : Int) < ((0 : Nat) : Int)) = false := by decide
          simp only [Nat.zero_mul, Nat.add_zero] at k1 k2
          generalize Av 0 = x at *
          cases hm : may x.1 x.2 with
          | true =>
            have HF : Hid (∀ k, k < 0 + 1 → Bd k = false) := HKN.out (by rw [HD.out, hm]; rfl)
            rw [hm] at CM
            clear HD HBI HKN hm
            go_wp2_with fail
            go_quiet ((go_at_call 49; exact Calls.quiet_of_same (CM.out _)))
            have BD : Hid (Below w.heap.size w (wr.drewN nq)) := HB.out.trans ((drw wr nq).mono HB.out.size)
            generalize wr.drewN nq = DW at *
            go_wp2
            go_roundw
            case rel => exact ⟨0 + 1, by omega, by go_num, HF.out, BD.out⟩
            case measure => simp [intOf]; omega
          | false =>
            have HR : Hid (R = 4) := HBI.out (by rw [HD.out, hm]; rfl)
            rw [hm] at CM
            clear HD HBI HKN hm
            go_wp2_with fail
            go_quiet ((go_at_call 49; exact Calls.quiet_of_same (CM.out _)))
            have BD : Hid (Below w.heap.size w (wr.drewN nq)) := HB.out.trans ((drw wr nq).mono HB.out.size)
            generalize wr.drewN nq = DW at *
            go_wp2
            go_ret
            exact ⟨by rw [HR.out]; rfl, BD.out⟩
        · obtain ⟨b', off', e', k3, k4⟩ := HAT.out (i - 1) (by omega) wr HB.out
          have HB1 := HMAY.out (i - 1) (HK.out (i - 1) (by omega))
          obtain ⟨y1, y2⟩ := HB1
          cases e'
          have z0 : decide ((0 : Int) < (i : Int)) = true := decide_eq_true (by omega)
          have z1 : (0 : Int) < (i : Int) := by omega
          have z8 : decide (0 < i) = true := decide_eq_true (by omega)
          have z9 : 0 < i := by omega
          have z2 : (i : Int) - 1 = ((i - 1 : Nat) : Int) := by omega
          have z3 : wrap64 ((i : Int) - 1) = ((i - 1 : Nat) : Int) := by unfold wrap64; omega
          have z4 : ((i - 1 : Nat) : Int) < (n : Int) := by omega
          have z5 : (0 : Int) ≤ ((i - 1 : Nat) : Int) := by omega
          have z6 : wrap64 ((Av (i - 1)).2 + 2) = (Av (i - 1)).2 + 2 := by unfold wrap64; omega
          have dd : decide (0 < i) = true := decide_eq_true (by omega)
          rw [dd] at HD
          clear dd y1 y2 hi0
          generalize Av (i - 1) = y at *
          generalize Av i = x at *
          generalize i - 1 = im at *
          cases hm : may x.1 x.2 with
          | false =>
            have HR : Hid (R = 4) := HBI.out (by rw [HD.out, hm]; rfl)
            rw [hm] at CM
            clear HD HBI HKN hm
            go_wp2_with fail
            go_quiet ((go_at_call 49; exact Calls.quiet_of_same (CM.out _)))
            have BD : Hid (Below w.heap.size w (wr.drewN nq)) := HB.out.trans ((drw wr nq).mono HB.out.size)
            generalize wr.drewN nq = DW at *
            go_wp2
            go_ret
            exact ⟨by rw [HR.out]; rfl, BD.out⟩
          | true =>
            by_cases hlt : x.1 < y.2 + 2
            · have z7 : decide (x.1 < y.2 + 2) = true := decide_eq_true hlt
              have HR : Hid (R = 4) := HBI.out (by rw [HD.out, hm, z7]; rfl)
              rw [hm] at CM
              clear HD HBI HKN hm
              go_wp2_with fail
              go_quiet ((go_at_call 49; exact Calls.quiet_of_same (CM.out _)))
              have BD : Hid (Below w.heap.size w (wr.drewN nq)) := HB.out.trans ((drw wr nq).mono HB.out.size)
              generalize wr.drewN nq = DW at *
              go_wp2
              go_ret
              exact ⟨by rw [HR.out]; rfl, BD.out⟩
            · have z7 : decide (x.1 < y.2 + 2) = false := decide_eq_false hlt
              have HF : Hid (∀ k, k < i + 1 → Bd k = false) := HKN.out (by rw [HD.out, hm, z7]; rfl)
              rw [hm] at CM
              clear HD HBI HKN hm
              go_wp2_with fail
              go_quiet ((go_at_call 49; exact Calls.quiet_of_same (CM.out _)))
              have BD : Hid (Below w.heap.size w (wr.drewN nq)) := HB.out.trans ((drw wr nq).mono HB.out.size)
              generalize wr.drewN nq = DW at *
              go_wp2
              go_roundw
              case rel => exact ⟨i + 1, by omega, by go_num, HF.out, BD.out⟩
              case measure => simp [intOf]; omega
      · obtain rfl : i = n := by omega
        have lt2 : ¬ (i : Int) < (i : Int) := by omega
        by_cases h0 : i = 0
        · have HR : Hid (R = 4) := HNO.out h0
          subst h0
          go_wp2
          go_ret
          exact ⟨by rw [HR.out]; rfl, HB.out⟩
        · have HR : Hid (R = 0) := HOK.out (by omega) HK.out
          have t2 : ((i : Int) == 0) = false := by simp; omega
          go_wp2
          go_ret
          exact ⟨by rw [HR.out]; rfl, HB.out⟩
end Go.Proofs.Ytamjbmbflllbfaa
