/-
  What a kind has, by the document; whether it asks.
  What the document's Check of spans and of plain forms answers.
  What the document's Check of a plain form answers.
  What the document's Put of spans answers, where they may be.
-/
import Derived.Test.YtmplpdjkhdaniaaGreatDoorWaq
import Derived.Test.YtmplpdjkhdaniaaGreatDoorWav
import Derived.Deep.DeepCutAuto
import Derived.BigQuiet
import Derived.Lib.AppendStr
import Derived.Laws.AppendOwnNone
import Derived.Test.YtmplpdjkhdaniaaGreatDoorWar
import Derived.Test.YtmplpdjkhdaniaaGreatDoorWas
namespace Go.Proofs.YtmplpdjkhdaniaaGreatDoor
open Go.RowKit Go.Shelf
set_option maxRecDepth 100000

set_option maxHeartbeats 2000000 in
theorem hasID_any (k : Int) (w : World) : Calls Tryz.prog 18 #[.int .u8 k] w fun e w' => e = .returned (.bool (hI k)) ∧ w' = w := by
  have HD : Hid (hI k = (k == 3 || k == 4 || k == 5 || k == 7)) := rfl
  generalize hI k = R at *
  cases h0 : (k == 3) with
  | true =>
    have HR : Hid (R = true) := by unfold Hid; rw [HD.out]; simp only [h0, Bool.true_or]
    clear HD
    go_enter Tryz.func18, Tryz.ntmps18
    go_wp2
    go_ret
    exact ⟨by rw [HR.out]; rfl, rfl⟩
  | false =>
    cases h1 : (k == 4) with
    | true =>
      have HR : Hid (R = true) := by unfold Hid; rw [HD.out]; simp only [h1, Bool.or_true, Bool.true_or]
      clear HD
      go_enter Tryz.func18, Tryz.ntmps18
      go_wp2
      go_ret
      exact ⟨by rw [HR.out]; rfl, rfl⟩
    | false =>
      cases h2 : (k == 5) with
      | true =>
        have HR : Hid (R = true) := by unfold Hid; rw [HD.out]; simp only [h2, Bool.or_true, Bool.true_or]
        clear HD
        go_enter Tryz.func18, Tryz.ntmps18
        go_wp2
        go_ret
        exact ⟨by rw [HR.out]; rfl, rfl⟩
      | false =>
        cases h3 : (k == 7) with
        | true =>
          have HR : Hid (R = true) := by unfold Hid; rw [HD.out]; simp only [h3, Bool.or_true]
          clear HD
          go_enter Tryz.func18, Tryz.ntmps18
          go_wp2
          go_ret
          exact ⟨by rw [HR.out]; rfl, rfl⟩
        | false =>
          have HR : Hid (R = false) := by unfold Hid; rw [HD.out]; simp only [h0, h1, h2, h3]; rfl
          clear HD
          go_enter Tryz.func18, Tryz.ntmps18
          go_wp2
          go_ret
          exact ⟨by rw [HR.out]; rfl, rfl⟩
set_option maxHeartbeats 2000000 in
theorem hasN_any (k : Int) (w : World) : Calls Tryz.prog 20 #[.int .u8 k] w fun e w' => e = .returned (.bool (hN k)) ∧ w' = w := by
  have HD : Hid (hN k = (k == 2 || k == 3 || k == 4 || k == 6 || k == 7 || k == 8)) := rfl
  generalize hN k = R at *
  cases h0 : (k == 2) with
  | true =>
    have HR : Hid (R = true) := by unfold Hid; rw [HD.out]; simp only [h0, Bool.true_or]
    clear HD
    go_enter Tryz.func20, Tryz.ntmps20
    go_wp2
    go_ret
    exact ⟨by rw [HR.out]; rfl, rfl⟩
  | false =>
    cases h1 : (k == 3) with
    | true =>
      have HR : Hid (R = true) := by unfold Hid; rw [HD.out]; simp only [h1, Bool.or_true, Bool.true_or]
      clear HD
      go_enter Tryz.func20, Tryz.ntmps20
      go_wp2
      go_ret
      exact ⟨by rw [HR.out]; rfl, rfl⟩
    | false =>
      cases h2 : (k == 4) with
      | true =>
        have HR : Hid (R = true) := by unfold Hid; rw [HD.out]; simp only [h2, Bool.or_true, Bool.true_or]
        clear HD
        go_enter Tryz.func20, Tryz.ntmps20
        go_wp2
        go_ret
        exact ⟨by rw [HR.out]; rfl, rfl⟩
      | false =>
        cases h3 : (k == 6) with
        | true =>
          have HR : Hid (R = true) := by unfold Hid; rw [HD.out]; simp only [h3, Bool.or_true, Bool.true_or]
          clear HD
          go_enter Tryz.func20, Tryz.ntmps20
          go_wp2
          go_ret
          exact ⟨by rw [HR.out]; rfl, rfl⟩
        | false =>
          cases h4 : (k == 7) with
          | true =>
            have HR : Hid (R = true) := by unfold Hid; rw [HD.out]; simp only [h4, Bool.or_true, Bool.true_or]
            clear HD
            go_enter Tryz.func20, Tryz.ntmps20
            go_wp2
            go_ret
            exact ⟨by rw [HR.out]; rfl, rfl⟩
          | false =>
            cases h5 : (k == 8) with
            | true =>
              have HR : Hid (R = true) := by unfold Hid; rw [HD.out]; simp only [h5, Bool.or_true]
              clear HD
              go_enter Tryz.func20, Tryz.ntmps20
              go_wp2
              go_ret
              exact ⟨by rw [HR.out]; rfl, rfl⟩
            | false =>
              have HR : Hid (R = false) := by unfold Hid; rw [HD.out]; simp only [h0, h1, h2, h3, h4, h5]; rfl
              clear HD
              go_enter Tryz.func20, Tryz.ntmps20
              go_wp2
              go_ret
              exact ⟨by rw [HR.out]; rfl, rfl⟩
set_option maxHeartbeats 2000000 in
theorem hasC_any (k : Int) (w : World) : Calls Tryz.prog 21 #[.int .u8 k] w fun e w' => e = .returned (.bool (hC k)) ∧ w' = w := by
  have HD : Hid (hC k = (k == 4 || k == 5 || k == 10)) := rfl
  generalize hC k = R at *
  cases h0 : (k == 4) with
  | true =>
    have HR : Hid (R = true) := by unfold Hid; rw [HD.out]; simp only [h0, Bool.true_or]
    clear HD
    go_enter Tryz.func21, Tryz.ntmps21
    go_wp2
    go_ret
    exact ⟨by rw [HR.out]; rfl, rfl⟩
  | false =>
    cases h1 : (k == 5) with
    | true =>
      have HR : Hid (R = true) := by unfold Hid; rw [HD.out]; simp only [h1, Bool.or_true, Bool.true_or]
      clear HD
      go_enter Tryz.func21, Tryz.ntmps21
      go_wp2
      go_ret
      exact ⟨by rw [HR.out]; rfl, rfl⟩
    | false =>
      cases h2 : (k == 10) with
      | true =>
        have HR : Hid (R = true) := by unfold Hid; rw [HD.out]; simp only [h2, Bool.or_true]
        clear HD
        go_enter Tryz.func21, Tryz.ntmps21
        go_wp2
        go_ret
        exact ⟨by rw [HR.out]; rfl, rfl⟩
      | false =>
        have HR : Hid (R = false) := by unfold Hid; rw [HD.out]; simp only [h0, h1, h2]; rfl
        clear HD
        go_enter Tryz.func21, Tryz.ntmps21
        go_wp2
        go_ret
        exact ⟨by rw [HR.out]; rfl, rfl⟩
/-- How long a kind's text may be; -1: it has none. -/
def lgM (k : Int) : Int := if k = 3 then 1100 else if k = 9 then 256 else if k = 10 then 64 else -1
set_option maxHeartbeats 2000000 in
theorem longest_any (k : Int) (w : World) : Calls Tryz.prog 22 #[.int .u8 k] w fun e w' => e = .returned (.int .i64 (lgM k)) ∧ w' = w := by
  unfold lgM
  by_cases h0 : k = 3
  · subst h0
    go_enter Tryz.func22, Tryz.ntmps22
    go_wp2
    go_ret
    exact ⟨rfl, rfl⟩
  have e0 : (k == 3) = false := by simpa using h0
  rw [if_neg h0]
  clear h0
  by_cases h1 : k = 9
  · subst h1
    go_enter Tryz.func22, Tryz.ntmps22
    go_wp2
    go_ret
    exact ⟨rfl, rfl⟩
  have e1 : (k == 9) = false := by simpa using h1
  rw [if_neg h1]
  clear h1
  by_cases h2 : k = 10
  · subst h2
    go_enter Tryz.func22, Tryz.ntmps22
    go_wp2
    go_ret
    exact ⟨rfl, rfl⟩
  have e2 : (k == 10) = false := by simpa using h2
  rw [if_neg h2]
  clear h2
  go_enter Tryz.func22, Tryz.ntmps22
  go_wp2
  go_ret
  exact ⟨rfl, rfl⟩
/-- Whether a frame asks for an acknowledgement. -/
def askM (k : Int) : Bool := k != 0 && k != 2 && k != 10
set_option maxHeartbeats 4000000 in
theorem rasksF_any (p : Fm) (sv : Value) (w : World) (hn : p.nc.length = 16) :
    Calls Tryz.prog 13 #[.agg (plA p sv)] w fun e w' => e = .returned (.bool (askM p.k)) ∧ Below w.heap.size w w' := by
  obtain ⟨W1, hW1⟩ : ∃ W1, W1 = w.alloc (.cells (plA p sv) 25) := ⟨_, rfl⟩
  have b1 : Below w.heap.size w W1 := by rw [hW1]; exact al_below _ _
  have c0 := ((show PF W1 w.heap.size 25 p sv by rw [hW1]; exact PF.new w _ p sv).pc hn).c0
  have HB1 : Hid (Below w.heap.size w W1) := b1
  have HR : Hid (askM p.k = (p.k != 0 && p.k != 2 && p.k != 10)) := rfl
  generalize askM p.k = R at *
  clear b1 hn
  generalize p.k = k at *
  cases h0 : (k != 0) with
  | false =>
    have HQ : Hid (R = false) := by unfold Hid; rw [HR.out]; simp only [h0, Bool.false_and]
    clear HR
    go_enter Tryz.func13, Tryz.ntmps13
    go_upto_region 1 with fail
    rw [← hW1]
    clear hW1
    go_wp2
    go_ret
    exact ⟨by rw [HQ.out]; rfl, HB1.out⟩
  | true =>
    cases h1 : (k != 2) with
    | false =>
      have HQ : Hid (R = false) := by unfold Hid; rw [HR.out]; simp only [h1, Bool.and_false, Bool.false_and]
      clear HR
      go_enter Tryz.func13, Tryz.ntmps13
      go_upto_region 1 with fail
      rw [← hW1]
      clear hW1
      go_wp2
      go_ret
      exact ⟨by rw [HQ.out]; rfl, HB1.out⟩
    | true =>
      cases h2 : (k != 10) with
      | false =>
        have HQ : Hid (R = false) := by unfold Hid; rw [HR.out]; simp only [h2, Bool.and_false]
        clear HR
        go_enter Tryz.func13, Tryz.ntmps13
        go_upto_region 1 with fail
        rw [← hW1]
        clear hW1
        go_wp2
        go_ret
        exact ⟨by rw [HQ.out]; rfl, HB1.out⟩
      | true =>
        have HQ : Hid (R = true) := by unfold Hid; rw [HR.out]; simp only [h0, h1, h2]; rfl
        clear HR
        go_enter Tryz.func13, Tryz.ntmps13
        go_upto_region 1 with fail
        rw [← hW1]
        clear hW1
        go_wp2
        go_ret
        exact ⟨by rw [HQ.out]; rfl, HB1.out⟩
end Go.Proofs.YtmplpdjkhdaniaaGreatDoor
namespace Go.Proofs.YtmplpdjkhdaniaaGreatDoor
open Go.RowKit Go.Shelf
set_option maxRecDepth 100000

theorem drw (w : World) (n : Nat) : Below w.heap.size w (w.drewN n) := ⟨rfl, rfl, rfl, Nat.le_refl _, fun _ _ => rfl⟩
theorem tx_e (s : ByteArray) : (s.toList.isEmpty = false) ↔ s ≠ ⟨#[]⟩ := by
  rw [Lib.toList_data, ← Bool.not_eq_true, List.isEmpty_iff]
  refine not_congr ⟨fun e => ?_, fun e => by rw [e]⟩
  have e' : s.data = #[] := Array.toList_inj.1 e
  cases hh : s
  rw [hh] at e'
  exact congrArg ByteArray.mk e'

/-- Whether a span may not stand where it stands. -/
def bad (l : List Sp) (i : Nat) : Bool := !may (atS l i).1 (atS l i).2 || (decide (0 < i) && decide ((atS l i).1 < (atS l (i - 1)).2 + 2))
theorem canon_bad {l : List Sp} (h : Canon l) (i : Nat) (hi : i < l.length) : bad l i = false := by
  unfold bad
  have h1 : may (atS l i).1 (atS l i).2 = true := (may_iff _ _).2 (h.1 _ (atS_mem l i hi))
  rw [h1, Bool.not_true, Bool.false_or]
  by_cases h0 : 0 < i
  · have := h.rise (show i - 1 < i by omega) hi
    rw [decide_eq_false (show ¬ (atS l i).1 < (atS l (i - 1)).2 + 2 by omega), Bool.and_false]
  · rw [decide_eq_false h0]; rfl
theorem good_canon {l : List Sp} (h : ∀ i, i < l.length → bad l i = false) : Canon l := by
  have h1 : ∀ i, i < l.length → Okk (atS l i) := fun i hi => by
    have := h i hi
    unfold bad at this
    rw [Bool.or_eq_false_iff, Bool.not_eq_false'] at this
    exact (may_iff _ _).1 this.1
  have h2 : ∀ i, i + 1 < l.length → (atS l i).2 + 2 ≤ (atS l (i + 1)).1 := fun i hi => by
    have := h (i + 1) hi
    unfold bad at this
    rw [Bool.or_eq_false_iff, decide_eq_true (show 0 < i + 1 by omega), Bool.true_and, decide_eq_false_iff_not, Nat.add_sub_cancel] at this
    omega
  refine ⟨fun x hx => ?_, ?_⟩
  · obtain ⟨k, hk, rfl⟩ := mem_idx hx
    exact h1 k hk
  · have h3 : ∀ d i, i + d + 1 < l.length → (atS l i).2 + 2 ≤ (atS l (i + d + 1)).1 := by
      intro d
      induction d with
      | zero => intro i hi; exact h2 i hi
      | succ d ih =>
        intro i hi
        have a := ih i (by omega)
        have b := h2 (i + d + 1) (by omega)
        have c := (h1 (i + d + 1) (by omega)).2.1
        rw [show i + (d + 1) + 1 = i + d + 1 + 1 by omega]
        omega
    refine List.pairwise_iff_getElem.2 fun i j hi hj hij => ?_
    have := h3 (j - i - 1) i (by omega)
    rw [show i + (j - i - 1) + 1 = j by omega, atS_eq l i hi, atS_eq l j hj] at this
    exact this
theorem chkL_bad {l : List Sp} (h : l.length ≤ 64) (i : Nat) (hi : i < l.length) (hb : bad l i = true) : chkL l = 4 := by
  unfold chkL
  rw [if_neg (by omega), if_pos]
  right
  intro e
  have hc : Canon l := by rw [← e]; exact (setL_spec l).1
  rw [canon_bad hc i hi] at hb
  cases hb
theorem chkL_good {l : List Sp} (h : l.length ≤ 64) (h0 : 0 < l.length) (hb : ∀ i, i < l.length → bad l i = false) : chkL l = 0 := by
  unfold chkL
  rw [if_neg (by omega), if_neg]
  rintro (e | e)
  · rw [e] at h0; simp at h0
  · exact e (setL_canon (good_canon hb))
set_option maxHeartbeats 4000000 in
theorem rcheck_any (w : World) (u : Value) (l : List Sp) (hu : SSp w u l) (hl : l.length ≤ 1000) :
    Calls Tryz.prog 38 #[u] w fun e w' => e = .returned (.int .i64 (chkL l)) ∧ Below w.heap.size w w' := by
  obtain ⟨a, c, rfl, -⟩ := id hu.shape
  by_cases h64 : 64 < l.length
  · have e1 : chkL l = 5 := by unfold chkL; rw [if_pos h64]
    have t0 : (64 : Int) < (l.length : Int) := by omega
    rw [e1]
    clear hu e1
    generalize l.length = n at *
    go_enter Tryz.func38, Tryz.ntmps38
    go_wp2
    go_ret
    exact ⟨rfl, Below.refl _ _⟩
  · have t0 : ¬ (64 : Int) < (l.length : Int) := by omega
    have HAT : Hid (∀ j, j < l.length → ∀ W, Below w.heap.size w W → ∃ b off, a = some ⟨b, off, none⟩ ∧ W.cell? ⟨b, off + j * 2, none⟩ = some (.int .i64 (atS l j).1) ∧ W.cell? ⟨b, off + j * 2 + 1, none⟩ = some (.int .i64 (atS l j).2)) := fun j hj W hb => by
      obtain ⟨b, off, e, q⟩ := (hu.kept hb).at j hj
      exact ⟨b, off, e, (spC q).1, (spC q).2⟩
    have HBAD : Hid (∀ i, i < l.length → bad l i = true → chkL l = 4) := fun i hi hb => chkL_bad (by omega) i hi hb
    have HOK : Hid (0 < l.length → (∀ i, i < l.length → bad l i = false) → chkL l = 0) := fun h0 hb => chkL_good (by omega) h0 hb
    have HNO : Hid (l.length = 0 → chkL l = 4) := fun h0 => by
      unfold chkL
      rw [if_neg (by omega), if_pos (.inl (List.length_eq_zero_iff.1 h0))]
    have HDF : Hid (∀ i, bad l i = (!may (atS l i).1 (atS l i).2 || (decide (0 < i) && decide ((atS l i).1 < (atS l (i - 1)).2 + 2)))) := fun i => rfl
    have HMAY : Hid (∀ i, bad l i = false → (atS l i).2 ≤ 1099511627776 ∧ 0 ≤ (atS l i).2) := fun i hb => by
      unfold bad at hb
      rw [Bool.or_eq_false_iff, Bool.not_eq_false'] at hb
      have := (may_iff _ _).1 hb.1
      unfold Okk at this
      simp only at this
      omega
    clear hu
    generalize chkL l = R at *
    generalize hBd : bad l = Bd at *
    clear hBd
    generalize hA : atS l = Av at *
    clear hA
    obtain ⟨n, hn⟩ : ∃ n, n = l.length := ⟨_, rfl⟩
    rw [← hn] at HAT HBAD HOK HNO t0 hl h64 ⊢
    clear hn
    go_enter Tryz.func38, Tryz.ntmps38
    go_wp2
    go_loopw [3] (fun u wr => ∃ i : Nat, i ≤ n ∧ u = .int .i64 i ∧ (∀ k, k < i → Bd k = false) ∧ Below w.heap.size w wr) (fun u _ => n - (intOf u).toNat)
    case atStart => exact ⟨0, by omega, rfl, fun k hk => by omega, Below.refl _ _⟩
    case round =>
      obtain ⟨i, hi, rfl, hk, bel⟩ := hrel
      have HB : Hid (Below w.heap.size w wr) := bel
      have HK : Hid (∀ k, k < i → Bd k = false) := hk
      clear bel hk
      by_cases hin : i < n
      · have lt2 : (i : Int) < (n : Int) := by omega
        have l0 : (0 : Int) ≤ (i : Int) := by omega
        obtain ⟨b, off, rfl, k1, k2⟩ := HAT.out i hin wr HB.out
        have HD : Hid (Bd i = (!may (Av i).1 (Av i).2 || (decide (0 < i) && decide ((Av i).1 < (Av (i - 1)).2 + 2)))) := HDF.out i
        have HBI : Hid (Bd i = true → R = 4) := fun h => HBAD.out i hin h
        have HKN : Hid (Bd i = false → ∀ k, k < i + 1 → Bd k = false) := fun h k hk => by
          rcases Nat.lt_or_ge k i with h' | h'
          · exact HK.out k h'
          · rw [show k = i by omega]; exact h
        have CM : Hid (∀ W, Calls Tryz.prog 59 #[.int .i64 (Av i).1, .int .i64 (Av i).2] W fun e w' => e = .returned (.bool (may (Av i).1 (Av i).2)) ∧ w' = W) := fun W => rmay_any _ _ W
        by_cases hi0 : i = 0
        · subst hi0
          have z0 : decide ((0 : Int) < ((0 : Nat) : Int)) = false := by decide
          simp only [Nat.zero_mul, Nat.add_zero] at k1 k2
          generalize Av 0 = x at *
          cases hm : may x.1 x.2 with
          | true =>
            have HF : Hid (∀ k, k < 0 + 1 → Bd k = false) := HKN.out (by rw [HD.out, hm]; rfl)
            rw [hm] at CM
            clear HD HBI HKN hm
            go_wp2_with fail
            go_quiet ((go_at_call 59; exact Calls.quiet_of_same (CM.out _)))
            have BD : Hid (Below w.heap.size w (wr.drewN nq)) := HB.out.trans ((drw wr nq).mono HB.out.size)
            generalize wr.drewN nq = DW at *
            go_wp2
            go_roundw
            case rel => exact ⟨0 + 1, by omega, by go_num, HF.out, BD.out⟩
            case measure => simp [intOf]; omega
          | false =>
            have HR : Hid (R = 4) := HBI.out (by rw [HD.out, hm]; rfl)
            rw [hm] at CM
            clear HD HBI HKN hm
            go_wp2_with fail
            go_quiet ((go_at_call 59; exact Calls.quiet_of_same (CM.out _)))
            have BD : Hid (Below w.heap.size w (wr.drewN nq)) := HB.out.trans ((drw wr nq).mono HB.out.size)
            generalize wr.drewN nq = DW at *
            go_wp2
            go_ret
            exact ⟨by rw [HR.out]; rfl, BD.out⟩
        · obtain ⟨b', off', e', k3, k4⟩ := HAT.out (i - 1) (by omega) wr HB.out
          have HB1 := HMAY.out (i - 1) (HK.out (i - 1) (by omega))
          obtain ⟨y1, y2⟩ := HB1
          cases e'
          have z0 : decide ((0 : Int) < (i : Int)) = true := decide_eq_true (by omega)
          have z1 : (0 : Int) < (i : Int) := by omega
          have z8 : decide (0 < i) = true := decide_eq_true (by omega)
          have z9 : 0 < i := by omega
          have z2 : (i : Int) - 1 = ((i - 1 : Nat) : Int) := by omega
          have z3 : wrap64 ((i : Int) - 1) = ((i - 1 : Nat) : Int) := by unfold wrap64; omega
          have z4 : ((i - 1 : Nat) : Int) < (n : Int) := by omega
          have z5 : (0 : Int) ≤ ((i - 1 : Nat) : Int) := by omega
          have z6 : wrap64 ((Av (i - 1)).2 + 2) = (Av (i - 1)).2 + 2 := by unfold wrap64; omega
          have dd : decide (0 < i) = true := decide_eq_true (by omega)
          rw [dd] at HD
          clear dd y1 y2 hi0
          generalize Av (i - 1) = y at *
          generalize Av i = x at *
          generalize i - 1 = im at *
          cases hm : may x.1 x.2 with
          | false =>
            have HR : Hid (R = 4) := HBI.out (by rw [HD.out, hm]; rfl)
            rw [hm] at CM
            clear HD HBI HKN hm
            go_wp2_with fail
            go_quiet ((go_at_call 59; exact Calls.quiet_of_same (CM.out _)))
            have BD : Hid (Below w.heap.size w (wr.drewN nq)) := HB.out.trans ((drw wr nq).mono HB.out.size)
            generalize wr.drewN nq = DW at *
            go_wp2
            go_ret
            exact ⟨by rw [HR.out]; rfl, BD.out⟩
          | true =>
            by_cases hlt : x.1 < y.2 + 2
            · have z7 : decide (x.1 < y.2 + 2) = true := decide_eq_true hlt
              have HR : Hid (R = 4) := HBI.out (by rw [HD.out, hm, z7]; rfl)
              rw [hm] at CM
              clear HD HBI HKN hm
              go_wp2_with fail
              go_quiet ((go_at_call 59; exact Calls.quiet_of_same (CM.out _)))
              have BD : Hid (Below w.heap.size w (wr.drewN nq)) := HB.out.trans ((drw wr nq).mono HB.out.size)
              generalize wr.drewN nq = DW at *
              go_wp2
              go_ret
              exact ⟨by rw [HR.out]; rfl, BD.out⟩
            · have z7 : decide (x.1 < y.2 + 2) = false := decide_eq_false hlt
              have HF : Hid (∀ k, k < i + 1 → Bd k = false) := HKN.out (by rw [HD.out, hm, z7]; rfl)
              rw [hm] at CM
              clear HD HBI HKN hm
              go_wp2_with fail
              go_quiet ((go_at_call 59; exact Calls.quiet_of_same (CM.out _)))
              have BD : Hid (Below w.heap.size w (wr.drewN nq)) := HB.out.trans ((drw wr nq).mono HB.out.size)
              generalize wr.drewN nq = DW at *
              go_wp2
              go_roundw
              case rel => exact ⟨i + 1, by omega, by go_num, HF.out, BD.out⟩
              case measure => simp [intOf]; omega
      · obtain rfl : i = n := by omega
        have lt2 : ¬ (i : Int) < (i : Int) := by omega
        by_cases h0 : i = 0
        · have HR : Hid (R = 4) := HNO.out h0
          subst h0
          go_wp2
          go_ret
          exact ⟨by rw [HR.out]; rfl, HB.out⟩
        · have HR : Hid (R = 0) := HOK.out (by omega) HK.out
          have t2 : ((i : Int) == 0) = false := by simp; omega
          go_wp2
          go_ret
          exact ⟨by rw [HR.out]; rfl, HB.out⟩

/-! The document's Check of a plain form, plainly. -/
def badA (p : Fm) : Bool := (p.id != 0 && !hI p.k) || (p.n != 0 && !hN p.k) || (p.cd != 0 && !hC p.k) || (p.fin && p.k != 3)
def badC (p : Fm) : Bool := (!p.tx.toList.isEmpty && decide (lgM p.k < 0)) || (!(p.nc == zn) && p.k != 9) || (decide (0 < (p.sp.length : Int)) && p.k != 2)
def outB (p : Fm) : Bool := decide (p.id < 0) || decide (1048576 < p.id) || decide (p.cd < 0) || decide (65536 < p.cd) || decide (p.n < 0) || decide (1099511627776 < p.n)
theorem lg_hT (k : Int) : lgM k < 0 ↔ hT k = false := by
  unfold lgM hT
  by_cases h1 : k = 3
  · subst h1; decide
  · by_cases h2 : k = 9
    · subst h2; decide
    · by_cases h3 : k = 10
      · subst h3; decide
      · rw [if_neg h1, if_neg h2, if_neg h3]
        simp [h1, h2, h3]
theorem lg_mT {k : Int} (h : ¬ lgM k < 0) : mT k = lgM k := by
  unfold lgM mT at *
  by_cases h1 : k = 3
  · rw [if_pos h1, if_pos h1]
  · by_cases h2 : k = 9
    · rw [if_neg h1, if_neg h1, if_pos h2, if_pos h2]
    · by_cases h3 : k = 10
      · rw [if_neg h1, if_neg h1, if_neg h2, if_neg h2, if_pos h3, if_pos h3]
      · rw [if_neg h1, if_neg h2, if_neg h3] at h
        omega
theorem bad_iff (p : Fm) : badF p ↔ (badA p = true ∨ badC p = true) := by
  have e3 : (p.k != 3) = true ↔ hF p.k = false := by unfold hF; cases h : (p.k == 3) <;> simp_all [bne]
  have e9 : (p.k != 9) = true ↔ hO p.k = false := by unfold hO; cases h : (p.k == 9) <;> simp_all [bne]
  have e2 : (p.k != 2) = true ↔ hS p.k = false := by unfold hS; cases h : (p.k == 2) <;> simp_all [bne]
  have hl : 0 < (p.sp.length : Int) ↔ p.sp ≠ [] := by
    rw [← List.length_pos_iff]; omega
  have ht := tx_e p.tx
  unfold badF badA badC
  simp only [Bool.or_eq_true, Bool.and_eq_true, bne_iff_ne, Bool.not_eq_true', decide_eq_true_eq, lg_hT, hl, beq_eq_false_iff_ne] at e3 e9 e2 ⊢
  rw [e3, e9, e2, ht]
  constructor
  · rintro (h | h | h | h | h | h | h)
    · exact .inl (.inl (.inl (.inl h)))
    · exact .inl (.inl (.inl (.inr h)))
    · exact .inl (.inr h)
    · exact .inl (.inl (.inr h))
    · exact .inr (.inl (.inr h))
    · exact .inr (.inl (.inl h))
    · exact .inr (.inr h)
  · rintro ((((h | h) | h) | h) | ((h | h) | h))
    · exact .inl h
    · exact .inr (.inl h)
    · exact .inr (.inr (.inr (.inl h)))
    · exact .inr (.inr (.inl h))
    · exact .inr (.inr (.inr (.inr (.inr (.inl h)))))
    · exact .inr (.inr (.inr (.inr (.inl h))))
    · exact .inr (.inr (.inr (.inr (.inr (.inr h)))))
theorem out_iff (p : Fm) : outF p ↔ outB p = true := by
  unfold outF outB
  simp only [Bool.or_eq_true, decide_eq_true_eq]
  omega
theorem chk_k {p : Fm} (h : isK p.k = false) : chkM p = 9 := by unfold chkM; rw [if_pos h]
theorem chk_a {p : Fm} (h : isK p.k = true) (ha : badA p = true) : chkM p = 4 := by unfold chkM; rw [if_neg (by rw [h]; decide), if_pos ((bad_iff p).2 (.inl ha))]
theorem chk_c {p : Fm} (h : isK p.k = true) (ha : badC p = true) : chkM p = 4 := by unfold chkM; rw [if_neg (by rw [h]; decide), if_pos ((bad_iff p).2 (.inr ha))]
theorem nbad {p : Fm} (ha : badA p = false) (hc : badC p = false) : ¬ badF p := fun e => by
  rcases (bad_iff p).1 e with e | e
  · rw [ha] at e; cases e
  · rw [hc] at e; cases e
theorem chk_o {p : Fm} (h : isK p.k = true) (ha : badA p = false) (hc : badC p = false) (ho : outB p = true) : chkM p = 13 := by unfold chkM; rw [if_neg (by rw [h]; decide), if_neg (nbad ha hc), if_pos ((out_iff p).2 ho)]
theorem no_tx {p : Fm} (hc : badC p = false) (hk : lgM p.k < 0) : p.tx.size = 0 := by
  unfold badC at hc
  rw [Bool.or_eq_false_iff, Bool.or_eq_false_iff, decide_eq_true hk, Bool.and_true] at hc
  have : p.tx = ⟨#[]⟩ := by
    have h1 := hc.1.1
    rw [Bool.not_eq_false'] at h1
    exact Classical.not_not.1 fun e => by rw [(tx_e p.tx).2 e] at h1; cases h1
  rw [this]
  rfl
theorem chk_s {p : Fm} (h : isK p.k = true) (ha : badA p = false) (hc : badC p = false) (ho : outB p = false) (hk : p.k = 2) : chkM p = chkL p.sp := by
  unfold chkM
  have hS2 : hS p.k = true := by unfold hS; rw [hk]; rfl
  have h0 := no_tx hc (by rw [hk]; decide)
  rw [if_neg (by rw [h]; decide), if_neg (nbad ha hc), if_neg (fun e => by rw [(out_iff p).1 e] at ho; cases ho)]
  by_cases hl : chkL p.sp = 0
  · rw [if_neg (fun e => e.2 hl), if_neg (by rw [hk, h0]; decide), if_neg (fun e => by have := e.1; omega), hl]
  · rw [if_pos ⟨hS2, hl⟩]
theorem chk_l {p : Fm} (h : isK p.k = true) (ha : badA p = false) (hc : badC p = false) (ho : outB p = false) (hk : p.k ≠ 2) (hl : 0 ≤ lgM p.k) (ht : lgM p.k < (p.tx.size : Int)) : chkM p = 5 := by
  unfold chkM
  have hS2 : hS p.k = false := by unfold hS; simpa using hk
  rw [if_neg (by rw [h]; decide), if_neg (nbad ha hc), if_neg (fun e => by rw [(out_iff p).1 e] at ho; cases ho), if_neg (fun e => by rw [hS2] at e; cases e.1), if_pos (by rw [lg_mT (by omega)]; exact ht)]
theorem chk_r {p : Fm} (h : isK p.k = true) (ha : badA p = false) (hc : badC p = false) (ho : outB p = false) (hk : p.k = 3) (ht : ¬ 1100 < (p.tx.size : Int)) (hr : 1099511627776 - p.n < (p.tx.size : Int)) : chkM p = 13 := by
  unfold chkM
  have hS2 : hS p.k = false := by unfold hS; rw [hk]; rfl
  rw [if_neg (by rw [h]; decide), if_neg (nbad ha hc), if_neg (fun e => by rw [(out_iff p).1 e] at ho; cases ho), if_neg (fun e => by rw [hS2] at e; cases e.1), if_neg (by rw [hk]; exact ht), if_pos ⟨hk, by omega⟩]
theorem chk_z {p : Fm} (h : isK p.k = true) (ha : badA p = false) (hc : badC p = false) (ho : outB p = false) (hk : p.k ≠ 2) (ht : lgM p.k < 0 ∨ ¬ lgM p.k < (p.tx.size : Int)) (hr : p.k = 3 → ¬ 1099511627776 - p.n < (p.tx.size : Int)) : chkM p = 0 := by
  unfold chkM
  have hS2 : hS p.k = false := by unfold hS; simpa using hk
  rw [if_neg (by rw [h]; decide), if_neg (nbad ha hc), if_neg (fun e => by rw [(out_iff p).1 e] at ho; cases ho), if_neg (fun e => by rw [hS2] at e; cases e.1), if_neg, if_neg (fun e => by have := hr e.1; omega)]
  by_cases hl : lgM p.k < 0
  · have := no_tx hc hl
    have hm : 0 ≤ mT p.k := by unfold mT; split <;> (try split) <;> (try split) <;> omega
    omega
  · rw [lg_mT hl]
    rcases ht with e | e
    · exact absurd e hl
    · exact e
theorem n_bd {p : Fm} (ho : outB p = false) : 0 ≤ p.n ∧ p.n ≤ 1099511627776 := by
  have : ¬ outF p := fun e => by rw [(out_iff p).1 e] at ho; cases ho
  unfold outF at this
  omega
end Go.Proofs.YtmplpdjkhdaniaaGreatDoor
namespace Go.Proofs.YtmplpdjkhdaniaaGreatDoor
open Go.RowKit Go.Shelf
set_option maxRecDepth 100000

theorem wp_neqN {w : World} {o : Oper} {a : Act} {K : Act → World → Prop} {Q : Exit → Act → World → Prop} (x y : Operand) (t : TypeId) (ho : o.op = .binOp .neq 22 x y t)
    (A B : List Int) (hA : A.length = 16) (hB : B.length = 16) (hx : a.eval x = .agg (u8c A)) (hy : a.eval y = .agg (u8c B)) (h : K (a.put o.dst (.bool (!(A == B)))) w) : o.wp Tryz.prog a w K Q := by
  unfold Oper.wp
  simp only [execOp, ho, hx, hy, Sem.run_bind, run_eqGuard_agg _ _ _ _ _ _ _ guardN, neqN_run A B hA hB, Result.andThen_ok, Sem.run_pure, Oper.upon]
  exact h
set_option maxHeartbeats 16000000 in
theorem rcheckF_any (p : Fm) (sv : Value) (w : World) (hi : FI w p sv) (hl : p.sp.length ≤ 1000) :
    Calls Tryz.prog 17 #[.agg (plA p sv)] w fun e w' => e = .returned (.int .i64 (chkM p)) ∧ Below w.heap.size w w' := by
  obtain ⟨W1, hW1⟩ : ∃ W1, W1 = w.alloc (.cells (plA p sv) 25) := ⟨_, rfl⟩
  have b1 : Below w.heap.size w W1 := by rw [hW1]; exact al_below _ _
  have g1 : PF W1 w.heap.size 25 p sv := by rw [hW1]; exact PF.new w _ p sv
  have HB1 : Hid (Below w.heap.size w W1) := b1
  have hn := hi.k.nl
  obtain ⟨c0, c1, c2, c3, c4, c5, c22, cn⟩ := g1.pc hn
  have HCN : Hid (W1.rangeAt w.heap.size 6 (p.nc.map (Value.int .u8))) := cn
  have HNI : Hid ((Tryz.prog.info? 22).map (·.size) = some (p.nc.map (Value.int .u8)).length) := by unfold Hid; rw [List.length_map, hn]; exact infoNc
  have HNL : Hid (p.nc.length = 16) := hn
  have HZL : Hid (zn.length = 16) := rfl
  have c17 := rcheck_any W1 sv p.sp (hi.s.kept b1) hl
  obtain ⟨sa, sc, rfl, -⟩ := id hi.s.shape
  clear b1 g1 cn hi hl
  by_cases h1 : p.k < 1
  · have d1 : decide (p.k < 1) = true := decide_eq_true h1
    have HR : Hid (chkM p = 9) := chk_k (by unfold isK; rw [decide_eq_false (by omega : ¬ 1 ≤ p.k)]; rfl)
    rw [HR.out]
    clear h1 c17 hn
    go_enter Tryz.func17, Tryz.ntmps17
    go_upto_region 1 with fail
    rw [← hW1]
    clear hW1
    go_wp2
    go_ret
    exact ⟨rfl, HB1.out⟩
  have d1 : decide (p.k < 1) = false := decide_eq_false h1
  by_cases h2 : 10 < p.k
  · have d2 : decide (10 < p.k) = true := decide_eq_true h2
    have HR : Hid (chkM p = 9) := chk_k (by unfold isK; rw [decide_eq_false (by omega : ¬ p.k ≤ 10), Bool.and_false])
    rw [HR.out]
    clear h1 h2 c17 hn
    go_enter Tryz.func17, Tryz.ntmps17
    go_upto_region 1 with fail
    rw [← hW1]
    clear hW1
    go_wp2
    go_ret
    exact ⟨rfl, HB1.out⟩
  have d2 : decide (10 < p.k) = false := decide_eq_false h2
  have HK : Hid (isK p.k = true) := by unfold Hid isK; rw [decide_eq_true (by omega : 1 ≤ p.k), decide_eq_true (by omega : p.k ≤ 10)]; rfl
  clear h1 h2 hn
  go_enter Tryz.func17, Tryz.ntmps17
  go_upto_region 1 with fail
  rw [← hW1]
  clear hW1
  go_upto_region 4 with fail
  clear d1 d2
  go_cut [13] (fun s13 wx => s13 = .bool (badA p) ∧ wx = W1)
  case first =>
    clear c17
    cases z0 : (p.id != 0) with
    | false =>
      cases z1 : (p.n != 0) with
      | false =>
        cases z2 : (p.cd != 0) with
        | false =>
          cases z3 : p.fin with
          | false =>
            rw [z3] at c4
            have HQ : Hid (badA p = false) := by unfold Hid badA; simp [z0, z1, z2, z3]
            go_wp2
            go_meet
            exact ⟨congrArg Value.bool HQ.out.symm, rfl⟩
          | true =>
            rw [z3] at c4
            cases y3 : (p.k != 3) with
            | true =>
              have HQ : Hid (badA p = true) := by unfold Hid badA; simp [z0, z1, z2, z3, y3]
              go_wp2
              go_meet
              exact ⟨congrArg Value.bool HQ.out.symm, rfl⟩
            | false =>
              have HQ : Hid (badA p = false) := by unfold Hid badA; simp [z0, z1, z2, z3, y3]
              go_wp2
              go_meet
              exact ⟨congrArg Value.bool HQ.out.symm, rfl⟩
        | true =>
          cases y2 : hC p.k with
          | true =>
            cases z3 : p.fin with
            | false =>
              rw [z3] at c4
              have HQ : Hid (badA p = false) := by unfold Hid badA; simp [z0, z1, z2, y2, z3]
              have cx := hasC_any p.k W1
              rw [y2] at cx
              go_wp2_with fail
              refine cx.mono ?_
              rintro e wq ⟨rfl, eq⟩
              rw [eq]
              clear cx eq wq
              go_wp2
              go_meet
              exact ⟨congrArg Value.bool HQ.out.symm, rfl⟩
            | true =>
              rw [z3] at c4
              cases y3 : (p.k != 3) with
              | true =>
                have HQ : Hid (badA p = true) := by unfold Hid badA; simp [z0, z1, z2, y2, z3, y3]
                have cx := hasC_any p.k W1
                rw [y2] at cx
                go_wp2_with fail
                refine cx.mono ?_
                rintro e wq ⟨rfl, eq⟩
                rw [eq]
                clear cx eq wq
                go_wp2
                go_meet
                exact ⟨congrArg Value.bool HQ.out.symm, rfl⟩
              | false =>
                have HQ : Hid (badA p = false) := by unfold Hid badA; simp [z0, z1, z2, y2, z3, y3]
                have cx := hasC_any p.k W1
                rw [y2] at cx
                go_wp2_with fail
                refine cx.mono ?_
                rintro e wq ⟨rfl, eq⟩
                rw [eq]
                clear cx eq wq
                go_wp2
                go_meet
                exact ⟨congrArg Value.bool HQ.out.symm, rfl⟩
          | false =>
            have HQ : Hid (badA p = true) := by unfold Hid badA; simp [z0, z1, z2, y2]
            have cx := hasC_any p.k W1
            rw [y2] at cx
            go_wp2_with fail
            refine cx.mono ?_
            rintro e wq ⟨rfl, eq⟩
            rw [eq]
            clear cx eq wq
            go_wp2
            go_meet
            exact ⟨congrArg Value.bool HQ.out.symm, rfl⟩
      | true =>
        cases y1 : hN p.k with
        | true =>
          cases z2 : (p.cd != 0) with
          | false =>
            cases z3 : p.fin with
            | false =>
              rw [z3] at c4
              have HQ : Hid (badA p = false) := by unfold Hid badA; simp [z0, z1, y1, z2, z3]
              have cx := hasN_any p.k W1
              rw [y1] at cx
              go_wp2_with fail
              refine cx.mono ?_
              rintro e wq ⟨rfl, eq⟩
              rw [eq]
              clear cx eq wq
              go_wp2
              go_meet
              exact ⟨congrArg Value.bool HQ.out.symm, rfl⟩
            | true =>
              rw [z3] at c4
              cases y3 : (p.k != 3) with
              | true =>
                have HQ : Hid (badA p = true) := by unfold Hid badA; simp [z0, z1, y1, z2, z3, y3]
                have cx := hasN_any p.k W1
                rw [y1] at cx
                go_wp2_with fail
                refine cx.mono ?_
                rintro e wq ⟨rfl, eq⟩
                rw [eq]
                clear cx eq wq
                go_wp2
                go_meet
                exact ⟨congrArg Value.bool HQ.out.symm, rfl⟩
              | false =>
                have HQ : Hid (badA p = false) := by unfold Hid badA; simp [z0, z1, y1, z2, z3, y3]
                have cx := hasN_any p.k W1
                rw [y1] at cx
                go_wp2_with fail
                refine cx.mono ?_
                rintro e wq ⟨rfl, eq⟩
                rw [eq]
                clear cx eq wq
                go_wp2
                go_meet
                exact ⟨congrArg Value.bool HQ.out.symm, rfl⟩
          | true =>
            cases y2 : hC p.k with
            | true =>
              cases z3 : p.fin with
              | false =>
                rw [z3] at c4
                have HQ : Hid (badA p = false) := by unfold Hid badA; simp [z0, z1, y1, z2, y2, z3]
                have cx := hasN_any p.k W1
                rw [y1] at cx
                go_wp2_with fail
                refine cx.mono ?_
                rintro e wq ⟨rfl, eq⟩
                rw [eq]
                clear cx eq wq
                have cx := hasC_any p.k W1
                rw [y2] at cx
                go_wp2_with fail
                refine cx.mono ?_
                rintro e wq ⟨rfl, eq⟩
                rw [eq]
                clear cx eq wq
                go_wp2
                go_meet
                exact ⟨congrArg Value.bool HQ.out.symm, rfl⟩
              | true =>
                rw [z3] at c4
                cases y3 : (p.k != 3) with
                | true =>
                  have HQ : Hid (badA p = true) := by unfold Hid badA; simp [z0, z1, y1, z2, y2, z3, y3]
                  have cx := hasN_any p.k W1
                  rw [y1] at cx
                  go_wp2_with fail
                  refine cx.mono ?_
                  rintro e wq ⟨rfl, eq⟩
                  rw [eq]
                  clear cx eq wq
                  have cx := hasC_any p.k W1
                  rw [y2] at cx
                  go_wp2_with fail
                  refine cx.mono ?_
                  rintro e wq ⟨rfl, eq⟩
                  rw [eq]
                  clear cx eq wq
                  go_wp2
                  go_meet
                  exact ⟨congrArg Value.bool HQ.out.symm, rfl⟩
                | false =>
                  have HQ : Hid (badA p = false) := by unfold Hid badA; simp [z0, z1, y1, z2, y2, z3, y3]
                  have cx := hasN_any p.k W1
                  rw [y1] at cx
                  go_wp2_with fail
                  refine cx.mono ?_
                  rintro e wq ⟨rfl, eq⟩
                  rw [eq]
                  clear cx eq wq
                  have cx := hasC_any p.k W1
                  rw [y2] at cx
                  go_wp2_with fail
                  refine cx.mono ?_
                  rintro e wq ⟨rfl, eq⟩
                  rw [eq]
                  clear cx eq wq
                  go_wp2
                  go_meet
                  exact ⟨congrArg Value.bool HQ.out.symm, rfl⟩
            | false =>
              have HQ : Hid (badA p = true) := by unfold Hid badA; simp [z0, z1, y1, z2, y2]
              have cx := hasN_any p.k W1
              rw [y1] at cx
              go_wp2_with fail
              refine cx.mono ?_
              rintro e wq ⟨rfl, eq⟩
              rw [eq]
              clear cx eq wq
              have cx := hasC_any p.k W1
              rw [y2] at cx
              go_wp2_with fail
              refine cx.mono ?_
              rintro e wq ⟨rfl, eq⟩
              rw [eq]
              clear cx eq wq
              go_wp2
              go_meet
              exact ⟨congrArg Value.bool HQ.out.symm, rfl⟩
        | false =>
          have HQ : Hid (badA p = true) := by unfold Hid badA; simp [z0, z1, y1]
          have cx := hasN_any p.k W1
          rw [y1] at cx
          go_wp2_with fail
          refine cx.mono ?_
          rintro e wq ⟨rfl, eq⟩
          rw [eq]
          clear cx eq wq
          go_wp2
          go_meet
          exact ⟨congrArg Value.bool HQ.out.symm, rfl⟩
    | true =>
      cases y0 : hI p.k with
      | true =>
        cases z1 : (p.n != 0) with
        | false =>
          cases z2 : (p.cd != 0) with
          | false =>
            cases z3 : p.fin with
            | false =>
              rw [z3] at c4
              have HQ : Hid (badA p = false) := by unfold Hid badA; simp [z0, y0, z1, z2, z3]
              have cx := hasID_any p.k W1
              rw [y0] at cx
              go_wp2_with fail
              refine cx.mono ?_
              rintro e wq ⟨rfl, eq⟩
              rw [eq]
              clear cx eq wq
              go_wp2
              go_meet
              exact ⟨congrArg Value.bool HQ.out.symm, rfl⟩
            | true =>
              rw [z3] at c4
              cases y3 : (p.k != 3) with
              | true =>
                have HQ : Hid (badA p = true) := by unfold Hid badA; simp [z0, y0, z1, z2, z3, y3]
                have cx := hasID_any p.k W1
                rw [y0] at cx
                go_wp2_with fail
                refine cx.mono ?_
                rintro e wq ⟨rfl, eq⟩
                rw [eq]
                clear cx eq wq
                go_wp2
                go_meet
                exact ⟨congrArg Value.bool HQ.out.symm, rfl⟩
              | false =>
                have HQ : Hid (badA p = false) := by unfold Hid badA; simp [z0, y0, z1, z2, z3, y3]
                have cx := hasID_any p.k W1
                rw [y0] at cx
                go_wp2_with fail
                refine cx.mono ?_
                rintro e wq ⟨rfl, eq⟩
                rw [eq]
                clear cx eq wq
                go_wp2
                go_meet
                exact ⟨congrArg Value.bool HQ.out.symm, rfl⟩
          | true =>
            cases y2 : hC p.k with
            | true =>
              cases z3 : p.fin with
              | false =>
                rw [z3] at c4
                have HQ : Hid (badA p = false) := by unfold Hid badA; simp [z0, y0, z1, z2, y2, z3]
                have cx := hasID_any p.k W1
                rw [y0] at cx
                go_wp2_with fail
                refine cx.mono ?_
                rintro e wq ⟨rfl, eq⟩
                rw [eq]
                clear cx eq wq
                have cx := hasC_any p.k W1
                rw [y2] at cx
                go_wp2_with fail
                refine cx.mono ?_
                rintro e wq ⟨rfl, eq⟩
                rw [eq]
                clear cx eq wq
                go_wp2
                go_meet
                exact ⟨congrArg Value.bool HQ.out.symm, rfl⟩
              | true =>
                rw [z3] at c4
                cases y3 : (p.k != 3) with
                | true =>
                  have HQ : Hid (badA p = true) := by unfold Hid badA; simp [z0, y0, z1, z2, y2, z3, y3]
                  have cx := hasID_any p.k W1
                  rw [y0] at cx
                  go_wp2_with fail
                  refine cx.mono ?_
                  rintro e wq ⟨rfl, eq⟩
                  rw [eq]
                  clear cx eq wq
                  have cx := hasC_any p.k W1
                  rw [y2] at cx
                  go_wp2_with fail
                  refine cx.mono ?_
                  rintro e wq ⟨rfl, eq⟩
                  rw [eq]
                  clear cx eq wq
                  go_wp2
                  go_meet
                  exact ⟨congrArg Value.bool HQ.out.symm, rfl⟩
                | false =>
                  have HQ : Hid (badA p = false) := by unfold Hid badA; simp [z0, y0, z1, z2, y2, z3, y3]
                  have cx := hasID_any p.k W1
                  rw [y0] at cx
                  go_wp2_with fail
                  refine cx.mono ?_
                  rintro e wq ⟨rfl, eq⟩
                  rw [eq]
                  clear cx eq wq
                  have cx := hasC_any p.k W1
                  rw [y2] at cx
                  go_wp2_with fail
                  refine cx.mono ?_
                  rintro e wq ⟨rfl, eq⟩
                  rw [eq]
                  clear cx eq wq
                  go_wp2
                  go_meet
                  exact ⟨congrArg Value.bool HQ.out.symm, rfl⟩
            | false =>
              have HQ : Hid (badA p = true) := by unfold Hid badA; simp [z0, y0, z1, z2, y2]
              have cx := hasID_any p.k W1
              rw [y0] at cx
              go_wp2_with fail
              refine cx.mono ?_
              rintro e wq ⟨rfl, eq⟩
              rw [eq]
              clear cx eq wq
              have cx := hasC_any p.k W1
              rw [y2] at cx
              go_wp2_with fail
              refine cx.mono ?_
              rintro e wq ⟨rfl, eq⟩
              rw [eq]
              clear cx eq wq
              go_wp2
              go_meet
              exact ⟨congrArg Value.bool HQ.out.symm, rfl⟩
        | true =>
          cases y1 : hN p.k with
          | true =>
            cases z2 : (p.cd != 0) with
            | false =>
              cases z3 : p.fin with
              | false =>
                rw [z3] at c4
                have HQ : Hid (badA p = false) := by unfold Hid badA; simp [z0, y0, z1, y1, z2, z3]
                have cx := hasID_any p.k W1
                rw [y0] at cx
                go_wp2_with fail
                refine cx.mono ?_
                rintro e wq ⟨rfl, eq⟩
                rw [eq]
                clear cx eq wq
                have cx := hasN_any p.k W1
                rw [y1] at cx
                go_wp2_with fail
                refine cx.mono ?_
                rintro e wq ⟨rfl, eq⟩
                rw [eq]
                clear cx eq wq
                go_wp2
                go_meet
                exact ⟨congrArg Value.bool HQ.out.symm, rfl⟩
              | true =>
                rw [z3] at c4
                cases y3 : (p.k != 3) with
                | true =>
                  have HQ : Hid (badA p = true) := by unfold Hid badA; simp [z0, y0, z1, y1, z2, z3, y3]
                  have cx := hasID_any p.k W1
                  rw [y0] at cx
                  go_wp2_with fail
                  refine cx.mono ?_
                  rintro e wq ⟨rfl, eq⟩
                  rw [eq]
                  clear cx eq wq
                  have cx := hasN_any p.k W1
                  rw [y1] at cx
                  go_wp2_with fail
                  refine cx.mono ?_
                  rintro e wq ⟨rfl, eq⟩
                  rw [eq]
                  clear cx eq wq
                  go_wp2
                  go_meet
                  exact ⟨congrArg Value.bool HQ.out.symm, rfl⟩
                | false =>
                  have HQ : Hid (badA p = false) := by unfold Hid badA; simp [z0, y0, z1, y1, z2, z3, y3]
                  have cx := hasID_any p.k W1
                  rw [y0] at cx
                  go_wp2_with fail
                  refine cx.mono ?_
                  rintro e wq ⟨rfl, eq⟩
                  rw [eq]
                  clear cx eq wq
                  have cx := hasN_any p.k W1
                  rw [y1] at cx
                  go_wp2_with fail
                  refine cx.mono ?_
                  rintro e wq ⟨rfl, eq⟩
                  rw [eq]
                  clear cx eq wq
                  go_wp2
                  go_meet
                  exact ⟨congrArg Value.bool HQ.out.symm, rfl⟩
            | true =>
              cases y2 : hC p.k with
              | true =>
                cases z3 : p.fin with
                | false =>
                  rw [z3] at c4
                  have HQ : Hid (badA p = false) := by unfold Hid badA; simp [z0, y0, z1, y1, z2, y2, z3]
                  have cx := hasID_any p.k W1
                  rw [y0] at cx
                  go_wp2_with fail
                  refine cx.mono ?_
                  rintro e wq ⟨rfl, eq⟩
                  rw [eq]
                  clear cx eq wq
                  have cx := hasN_any p.k W1
                  rw [y1] at cx
                  go_wp2_with fail
                  refine cx.mono ?_
                  rintro e wq ⟨rfl, eq⟩
                  rw [eq]
                  clear cx eq wq
                  have cx := hasC_any p.k W1
                  rw [y2] at cx
                  go_wp2_with fail
                  refine cx.mono ?_
                  rintro e wq ⟨rfl, eq⟩
                  rw [eq]
                  clear cx eq wq
                  go_wp2
                  go_meet
                  exact ⟨congrArg Value.bool HQ.out.symm, rfl⟩
                | true =>
                  rw [z3] at c4
                  cases y3 : (p.k != 3) with
                  | true =>
                    have HQ : Hid (badA p = true) := by unfold Hid badA; simp [z0, y0, z1, y1, z2, y2, z3, y3]
                    have cx := hasID_any p.k W1
                    rw [y0] at cx
                    go_wp2_with fail
                    refine cx.mono ?_
                    rintro e wq ⟨rfl, eq⟩
                    rw [eq]
                    clear cx eq wq
                    have cx := hasN_any p.k W1
                    rw [y1] at cx
                    go_wp2_with fail
                    refine cx.mono ?_
                    rintro e wq ⟨rfl, eq⟩
                    rw [eq]
                    clear cx eq wq
                    have cx := hasC_any p.k W1
                    rw [y2] at cx
                    go_wp2_with fail
                    refine cx.mono ?_
                    rintro e wq ⟨rfl, eq⟩
                    rw [eq]
                    clear cx eq wq
                    go_wp2
                    go_meet
                    exact ⟨congrArg Value.bool HQ.out.symm, rfl⟩
                  | false =>
                    have HQ : Hid (badA p = false) := by unfold Hid badA; simp [z0, y0, z1, y1, z2, y2, z3, y3]
                    have cx := hasID_any p.k W1
                    rw [y0] at cx
                    go_wp2_with fail
                    refine cx.mono ?_
                    rintro e wq ⟨rfl, eq⟩
                    rw [eq]
                    clear cx eq wq
                    have cx := hasN_any p.k W1
                    rw [y1] at cx
                    go_wp2_with fail
                    refine cx.mono ?_
                    rintro e wq ⟨rfl, eq⟩
                    rw [eq]
                    clear cx eq wq
                    have cx := hasC_any p.k W1
                    rw [y2] at cx
                    go_wp2_with fail
                    refine cx.mono ?_
                    rintro e wq ⟨rfl, eq⟩
                    rw [eq]
                    clear cx eq wq
                    go_wp2
                    go_meet
                    exact ⟨congrArg Value.bool HQ.out.symm, rfl⟩
              | false =>
                have HQ : Hid (badA p = true) := by unfold Hid badA; simp [z0, y0, z1, y1, z2, y2]
                have cx := hasID_any p.k W1
                rw [y0] at cx
                go_wp2_with fail
                refine cx.mono ?_
                rintro e wq ⟨rfl, eq⟩
                rw [eq]
                clear cx eq wq
                have cx := hasN_any p.k W1
                rw [y1] at cx
                go_wp2_with fail
                refine cx.mono ?_
                rintro e wq ⟨rfl, eq⟩
                rw [eq]
                clear cx eq wq
                have cx := hasC_any p.k W1
                rw [y2] at cx
                go_wp2_with fail
                refine cx.mono ?_
                rintro e wq ⟨rfl, eq⟩
                rw [eq]
                clear cx eq wq
                go_wp2
                go_meet
                exact ⟨congrArg Value.bool HQ.out.symm, rfl⟩
          | false =>
            have HQ : Hid (badA p = true) := by unfold Hid badA; simp [z0, y0, z1, y1]
            have cx := hasID_any p.k W1
            rw [y0] at cx
            go_wp2_with fail
            refine cx.mono ?_
            rintro e wq ⟨rfl, eq⟩
            rw [eq]
            clear cx eq wq
            have cx := hasN_any p.k W1
            rw [y1] at cx
            go_wp2_with fail
            refine cx.mono ?_
            rintro e wq ⟨rfl, eq⟩
            rw [eq]
            clear cx eq wq
            go_wp2
            go_meet
            exact ⟨congrArg Value.bool HQ.out.symm, rfl⟩
      | false =>
        have HQ : Hid (badA p = true) := by unfold Hid badA; simp [z0, y0]
        have cx := hasID_any p.k W1
        rw [y0] at cx
        go_wp2_with fail
        refine cx.mono ?_
        rintro e wq ⟨rfl, eq⟩
        rw [eq]
        clear cx eq wq
        go_wp2
        go_meet
        exact ⟨congrArg Value.bool HQ.out.symm, rfl⟩
  case rest =>
    obtain ⟨rfl, ew⟩ := hcut
    rw [ew]
    clear ew
    cases hA : badA p with
    | true =>
      have HR : Hid (chkM p = 4) := chk_a HK.out hA
      clear c17 hA
      go_wp2
      go_ret
      exact ⟨by rw [HR.out]; rfl, HB1.out⟩
    | false =>
      have HA : Hid (badA p = false) := hA
      clear hA
      go_upto_region 6 with fail
      go_cut [50] (fun s50 wx => s50 = .bool (badC p) ∧ wx = W1)
      case first =>
        clear c17 HA
        cases z0 : (!p.tx.toList.isEmpty) with
        | false =>
          cases z1 : (!(p.nc == zn)) with
          | false =>
            by_cases hz2 : 0 < p.sp.length
            · have z2 : decide (0 < (p.sp.length : Int)) = true := decide_eq_true (by omega)
              have z3 : decide (0 < p.sp.length) = true := decide_eq_true hz2
              cases y2 : (p.k != 2) with
              | true =>
                have HQ : Hid (badC p = true) := by unfold Hid badC; rw [z0, z1, z2, y2]; rfl
                go_wp2_with (first | (refine BigFrame.wpList_want (by rfl) fun KK hKK => wp_load_mid 22 _ rfl w.heap.size 6 rfl (p.nc.map (Value.int .u8)) _ HCN.out Tryz.underlying22 rfl HNI.out (hKK _ _ (Hid.out ?_))))
                unfold Hid
                go_wp2_with (refine BigFrame.wpList_want (by rfl) fun KK hKK => wp_neqN _ _ _ rfl p.nc zn HNL.out HZL.out rfl rfl (hKK _ _ (Hid.out ?_)))
                unfold Hid
                go_wp2
                go_meet
                exact ⟨congrArg Value.bool HQ.out.symm, rfl⟩
              | false =>
                have HQ : Hid (badC p = false) := by unfold Hid badC; rw [z0, z1, z2, y2]; rfl
                go_wp2_with (first | (refine BigFrame.wpList_want (by rfl) fun KK hKK => wp_load_mid 22 _ rfl w.heap.size 6 rfl (p.nc.map (Value.int .u8)) _ HCN.out Tryz.underlying22 rfl HNI.out (hKK _ _ (Hid.out ?_))))
                unfold Hid
                go_wp2_with (refine BigFrame.wpList_want (by rfl) fun KK hKK => wp_neqN _ _ _ rfl p.nc zn HNL.out HZL.out rfl rfl (hKK _ _ (Hid.out ?_)))
                unfold Hid
                go_wp2
                go_meet
                exact ⟨congrArg Value.bool HQ.out.symm, rfl⟩
            · have z2 : decide (0 < (p.sp.length : Int)) = false := decide_eq_false (by omega)
              have z3 : decide (0 < p.sp.length) = false := decide_eq_false hz2
              have HQ : Hid (badC p = false) := by unfold Hid badC; rw [z0, z1, z2]; rfl
              go_wp2_with (first | (refine BigFrame.wpList_want (by rfl) fun KK hKK => wp_load_mid 22 _ rfl w.heap.size 6 rfl (p.nc.map (Value.int .u8)) _ HCN.out Tryz.underlying22 rfl HNI.out (hKK _ _ (Hid.out ?_))))
              unfold Hid
              go_wp2_with (refine BigFrame.wpList_want (by rfl) fun KK hKK => wp_neqN _ _ _ rfl p.nc zn HNL.out HZL.out rfl rfl (hKK _ _ (Hid.out ?_)))
              unfold Hid
              go_wp2
              go_meet
              exact ⟨congrArg Value.bool HQ.out.symm, rfl⟩
          | true =>
            cases y1 : (p.k != 9) with
            | true =>
              have HQ : Hid (badC p = true) := by unfold Hid badC; rw [z0, z1, y1]; rfl
              go_wp2_with (first | (refine BigFrame.wpList_want (by rfl) fun KK hKK => wp_load_mid 22 _ rfl w.heap.size 6 rfl (p.nc.map (Value.int .u8)) _ HCN.out Tryz.underlying22 rfl HNI.out (hKK _ _ (Hid.out ?_))))
              unfold Hid
              go_wp2_with (refine BigFrame.wpList_want (by rfl) fun KK hKK => wp_neqN _ _ _ rfl p.nc zn HNL.out HZL.out rfl rfl (hKK _ _ (Hid.out ?_)))
              unfold Hid
              go_wp2
              go_meet
              exact ⟨congrArg Value.bool HQ.out.symm, rfl⟩
            | false =>
              by_cases hz2 : 0 < p.sp.length
              · have z2 : decide (0 < (p.sp.length : Int)) = true := decide_eq_true (by omega)
                have z3 : decide (0 < p.sp.length) = true := decide_eq_true hz2
                cases y2 : (p.k != 2) with
                | true =>
                  have HQ : Hid (badC p = true) := by unfold Hid badC; rw [z0, z1, y1, z2, y2]; rfl
                  go_wp2_with (first | (refine BigFrame.wpList_want (by rfl) fun KK hKK => wp_load_mid 22 _ rfl w.heap.size 6 rfl (p.nc.map (Value.int .u8)) _ HCN.out Tryz.underlying22 rfl HNI.out (hKK _ _ (Hid.out ?_))))
                  unfold Hid
                  go_wp2_with (refine BigFrame.wpList_want (by rfl) fun KK hKK => wp_neqN _ _ _ rfl p.nc zn HNL.out HZL.out rfl rfl (hKK _ _ (Hid.out ?_)))
                  unfold Hid
                  go_wp2
                  go_meet
                  exact ⟨congrArg Value.bool HQ.out.symm, rfl⟩
                | false =>
                  have HQ : Hid (badC p = false) := by unfold Hid badC; rw [z0, z1, y1, z2, y2]; rfl
                  go_wp2_with (first | (refine BigFrame.wpList_want (by rfl) fun KK hKK => wp_load_mid 22 _ rfl w.heap.size 6 rfl (p.nc.map (Value.int .u8)) _ HCN.out Tryz.underlying22 rfl HNI.out (hKK _ _ (Hid.out ?_))))
                  unfold Hid
                  go_wp2_with (refine BigFrame.wpList_want (by rfl) fun KK hKK => wp_neqN _ _ _ rfl p.nc zn HNL.out HZL.out rfl rfl (hKK _ _ (Hid.out ?_)))
                  unfold Hid
                  go_wp2
                  go_meet
                  exact ⟨congrArg Value.bool HQ.out.symm, rfl⟩
              · have z2 : decide (0 < (p.sp.length : Int)) = false := decide_eq_false (by omega)
                have z3 : decide (0 < p.sp.length) = false := decide_eq_false hz2
                have HQ : Hid (badC p = false) := by unfold Hid badC; rw [z0, z1, y1, z2]; rfl
                go_wp2_with (first | (refine BigFrame.wpList_want (by rfl) fun KK hKK => wp_load_mid 22 _ rfl w.heap.size 6 rfl (p.nc.map (Value.int .u8)) _ HCN.out Tryz.underlying22 rfl HNI.out (hKK _ _ (Hid.out ?_))))
                unfold Hid
                go_wp2_with (refine BigFrame.wpList_want (by rfl) fun KK hKK => wp_neqN _ _ _ rfl p.nc zn HNL.out HZL.out rfl rfl (hKK _ _ (Hid.out ?_)))
                unfold Hid
                go_wp2
                go_meet
                exact ⟨congrArg Value.bool HQ.out.symm, rfl⟩
        | true =>
          cases y0 : decide (lgM p.k < 0) with
          | true =>
            have HQ : Hid (badC p = true) := by unfold Hid badC; rw [z0, y0]; rfl
            have cx := longest_any p.k W1
            go_wp2_with fail
            refine cx.mono ?_
            rintro e wq ⟨rfl, eq⟩
            rw [eq]
            clear cx eq wq
            go_wp2
            go_meet
            exact ⟨congrArg Value.bool HQ.out.symm, rfl⟩
          | false =>
            cases z1 : (!(p.nc == zn)) with
            | false =>
              by_cases hz2 : 0 < p.sp.length
              · have z2 : decide (0 < (p.sp.length : Int)) = true := decide_eq_true (by omega)
                have z3 : decide (0 < p.sp.length) = true := decide_eq_true hz2
                cases y2 : (p.k != 2) with
                | true =>
                  have HQ : Hid (badC p = true) := by unfold Hid badC; rw [z0, y0, z1, z2, y2]; rfl
                  have cx := longest_any p.k W1
                  go_wp2_with fail
                  refine cx.mono ?_
                  rintro e wq ⟨rfl, eq⟩
                  rw [eq]
                  clear cx eq wq
                  go_wp2_with (first | (refine BigFrame.wpList_want (by rfl) fun KK hKK => wp_load_mid 22 _ rfl w.heap.size 6 rfl (p.nc.map (Value.int .u8)) _ HCN.out Tryz.underlying22 rfl HNI.out (hKK _ _ (Hid.out ?_))))
                  unfold Hid
                  go_wp2_with (refine BigFrame.wpList_want (by rfl) fun KK hKK => wp_neqN _ _ _ rfl p.nc zn HNL.out HZL.out rfl rfl (hKK _ _ (Hid.out ?_)))
                  unfold Hid
                  go_wp2
                  go_meet
                  exact ⟨congrArg Value.bool HQ.out.symm, rfl⟩
                | false =>
                  have HQ : Hid (badC p = false) := by unfold Hid badC; rw [z0, y0, z1, z2, y2]; rfl
                  have cx := longest_any p.k W1
                  go_wp2_with fail
                  refine cx.mono ?_
                  rintro e wq ⟨rfl, eq⟩
                  rw [eq]
                  clear cx eq wq
                  go_wp2_with (first | (refine BigFrame.wpList_want (by rfl) fun KK hKK => wp_load_mid 22 _ rfl w.heap.size 6 rfl (p.nc.map (Value.int .u8)) _ HCN.out Tryz.underlying22 rfl HNI.out (hKK _ _ (Hid.out ?_))))
                  unfold Hid
                  go_wp2_with (refine BigFrame.wpList_want (by rfl) fun KK hKK => wp_neqN _ _ _ rfl p.nc zn HNL.out HZL.out rfl rfl (hKK _ _ (Hid.out ?_)))
                  unfold Hid
                  go_wp2
                  go_meet
                  exact ⟨congrArg Value.bool HQ.out.symm, rfl⟩
              · have z2 : decide (0 < (p.sp.length : Int)) = false := decide_eq_false (by omega)
                have z3 : decide (0 < p.sp.length) = false := decide_eq_false hz2
                have HQ : Hid (badC p = false) := by unfold Hid badC; rw [z0, y0, z1, z2]; rfl
                have cx := longest_any p.k W1
                go_wp2_with fail
                refine cx.mono ?_
                rintro e wq ⟨rfl, eq⟩
                rw [eq]
                clear cx eq wq
                go_wp2_with (first | (refine BigFrame.wpList_want (by rfl) fun KK hKK => wp_load_mid 22 _ rfl w.heap.size 6 rfl (p.nc.map (Value.int .u8)) _ HCN.out Tryz.underlying22 rfl HNI.out (hKK _ _ (Hid.out ?_))))
                unfold Hid
                go_wp2_with (refine BigFrame.wpList_want (by rfl) fun KK hKK => wp_neqN _ _ _ rfl p.nc zn HNL.out HZL.out rfl rfl (hKK _ _ (Hid.out ?_)))
                unfold Hid
                go_wp2
                go_meet
                exact ⟨congrArg Value.bool HQ.out.symm, rfl⟩
            | true =>
              cases y1 : (p.k != 9) with
              | true =>
                have HQ : Hid (badC p = true) := by unfold Hid badC; rw [z0, y0, z1, y1]; rfl
                have cx := longest_any p.k W1
                go_wp2_with fail
                refine cx.mono ?_
                rintro e wq ⟨rfl, eq⟩
                rw [eq]
                clear cx eq wq
                go_wp2_with (first | (refine BigFrame.wpList_want (by rfl) fun KK hKK => wp_load_mid 22 _ rfl w.heap.size 6 rfl (p.nc.map (Value.int .u8)) _ HCN.out Tryz.underlying22 rfl HNI.out (hKK _ _ (Hid.out ?_))))
                unfold Hid
                go_wp2_with (refine BigFrame.wpList_want (by rfl) fun KK hKK => wp_neqN _ _ _ rfl p.nc zn HNL.out HZL.out rfl rfl (hKK _ _ (Hid.out ?_)))
                unfold Hid
                go_wp2
                go_meet
                exact ⟨congrArg Value.bool HQ.out.symm, rfl⟩
              | false =>
                by_cases hz2 : 0 < p.sp.length
                · have z2 : decide (0 < (p.sp.length : Int)) = true := decide_eq_true (by omega)
                  have z3 : decide (0 < p.sp.length) = true := decide_eq_true hz2
                  cases y2 : (p.k != 2) with
                  | true =>
                    have HQ : Hid (badC p = true) := by unfold Hid badC; rw [z0, y0, z1, y1, z2, y2]; rfl
                    have cx := longest_any p.k W1
                    go_wp2_with fail
                    refine cx.mono ?_
                    rintro e wq ⟨rfl, eq⟩
                    rw [eq]
                    clear cx eq wq
                    go_wp2_with (first | (refine BigFrame.wpList_want (by rfl) fun KK hKK => wp_load_mid 22 _ rfl w.heap.size 6 rfl (p.nc.map (Value.int .u8)) _ HCN.out Tryz.underlying22 rfl HNI.out (hKK _ _ (Hid.out ?_))))
                    unfold Hid
                    go_wp2_with (refine BigFrame.wpList_want (by rfl) fun KK hKK => wp_neqN _ _ _ rfl p.nc zn HNL.out HZL.out rfl rfl (hKK _ _ (Hid.out ?_)))
                    unfold Hid
                    go_wp2
                    go_meet
                    exact ⟨congrArg Value.bool HQ.out.symm, rfl⟩
                  | false =>
                    have HQ : Hid (badC p = false) := by unfold Hid badC; rw [z0, y0, z1, y1, z2, y2]; rfl
                    have cx := longest_any p.k W1
                    go_wp2_with fail
                    refine cx.mono ?_
                    rintro e wq ⟨rfl, eq⟩
                    rw [eq]
                    clear cx eq wq
                    go_wp2_with (first | (refine BigFrame.wpList_want (by rfl) fun KK hKK => wp_load_mid 22 _ rfl w.heap.size 6 rfl (p.nc.map (Value.int .u8)) _ HCN.out Tryz.underlying22 rfl HNI.out (hKK _ _ (Hid.out ?_))))
                    unfold Hid
                    go_wp2_with (refine BigFrame.wpList_want (by rfl) fun KK hKK => wp_neqN _ _ _ rfl p.nc zn HNL.out HZL.out rfl rfl (hKK _ _ (Hid.out ?_)))
                    unfold Hid
                    go_wp2
                    go_meet
                    exact ⟨congrArg Value.bool HQ.out.symm, rfl⟩
                · have z2 : decide (0 < (p.sp.length : Int)) = false := decide_eq_false (by omega)
                  have z3 : decide (0 < p.sp.length) = false := decide_eq_false hz2
                  have HQ : Hid (badC p = false) := by unfold Hid badC; rw [z0, y0, z1, y1, z2]; rfl
                  have cx := longest_any p.k W1
                  go_wp2_with fail
                  refine cx.mono ?_
                  rintro e wq ⟨rfl, eq⟩
                  rw [eq]
                  clear cx eq wq
                  go_wp2_with (first | (refine BigFrame.wpList_want (by rfl) fun KK hKK => wp_load_mid 22 _ rfl w.heap.size 6 rfl (p.nc.map (Value.int .u8)) _ HCN.out Tryz.underlying22 rfl HNI.out (hKK _ _ (Hid.out ?_))))
                  unfold Hid
                  go_wp2_with (refine BigFrame.wpList_want (by rfl) fun KK hKK => wp_neqN _ _ _ rfl p.nc zn HNL.out HZL.out rfl rfl (hKK _ _ (Hid.out ?_)))
                  unfold Hid
                  go_wp2
                  go_meet
                  exact ⟨congrArg Value.bool HQ.out.symm, rfl⟩
      case rest =>
        obtain ⟨rfl, ew⟩ := hcut
        rw [ew]
        clear ew
        cases hC : badC p with
        | true =>
          have HR : Hid (chkM p = 4) := chk_c HK.out hC
          clear c17 hC
          go_wp2
          go_ret
          exact ⟨by rw [HR.out]; rfl, HB1.out⟩
        | false =>
          have HC : Hid (badC p = false) := hC
          clear hC HCN HNI
          go_upto_region 8 with fail
          go_cut [79] (fun s79 wx => s79 = .bool (outB p) ∧ wx = W1)
          case first =>
            clear c17 HA HC
            cases z0 : decide (p.id < 0) with
            | true =>
              have HQ : Hid (outB p = true) := by unfold Hid outB; simp only [z0, Bool.true_or]
              go_wp2
              go_meet
              exact ⟨congrArg Value.bool HQ.out.symm, rfl⟩
            | false =>
              cases z1 : decide (1048576 < p.id) with
              | true =>
                have HQ : Hid (outB p = true) := by unfold Hid outB; simp only [z1, Bool.or_true, Bool.true_or]
                go_wp2
                go_meet
                exact ⟨congrArg Value.bool HQ.out.symm, rfl⟩
              | false =>
                cases z2 : decide (p.cd < 0) with
                | true =>
                  have HQ : Hid (outB p = true) := by unfold Hid outB; simp only [z2, Bool.or_true, Bool.true_or]
                  go_wp2
                  go_meet
                  exact ⟨congrArg Value.bool HQ.out.symm, rfl⟩
                | false =>
                  cases z3 : decide (65536 < p.cd) with
                  | true =>
                    have HQ : Hid (outB p = true) := by unfold Hid outB; simp only [z3, Bool.or_true, Bool.true_or]
                    go_wp2
                    go_meet
                    exact ⟨congrArg Value.bool HQ.out.symm, rfl⟩
                  | false =>
                    cases z4 : decide (p.n < 0) with
                    | true =>
                      have HQ : Hid (outB p = true) := by unfold Hid outB; simp only [z4, Bool.or_true, Bool.true_or]
                      go_wp2
                      go_meet
                      exact ⟨congrArg Value.bool HQ.out.symm, rfl⟩
                    | false =>
                      cases z5 : decide (1099511627776 < p.n) with
                      | true =>
                        have HQ : Hid (outB p = true) := by unfold Hid outB; simp only [z5, Bool.or_true]
                        go_wp2
                        go_meet
                        exact ⟨congrArg Value.bool HQ.out.symm, rfl⟩
                      | false =>
                        have HQ : Hid (outB p = false) := by unfold Hid outB; simp only [z0, z1, z2, z3, z4, z5]; rfl
                        go_wp2
                        go_meet
                        exact ⟨congrArg Value.bool HQ.out.symm, rfl⟩
          case rest =>
            obtain ⟨rfl, ew⟩ := hcut
            rw [ew]
            clear ew
            cases hO : outB p with
            | true =>
              have HR : Hid (chkM p = 13) := chk_o HK.out HA.out HC.out hO
              clear c17 hO
              go_wp2
              go_ret
              exact ⟨by rw [HR.out]; rfl, HB1.out⟩
            | false =>
              have HO : Hid (outB p = false) := hO
              obtain ⟨n0, n1⟩ := n_bd hO
              clear hO
              by_cases h2 : p.k = 2
              · have d2 : (p.k == 2) = true := by simpa using h2
                have HR : Hid (chkM p = chkL p.sp) := chk_s HK.out HA.out HC.out HO.out h2
                clear h2
                go_wp2_with fail
                refine c17.mono ?_
                rintro e w2 ⟨rfl, b2⟩
                have HB2 : Hid (Below w.heap.size w w2) := HB1.out.trans (b2.mono HB1.out.size)
                clear c17 b2
                go_wp2
                go_ret
                exact ⟨by rw [HR.out]; rfl, HB2.out⟩
              · have d2 : (p.k == 2) = false := by simpa using h2
                have H2 : Hid (p.k ≠ 2) := h2
                have CL : Hid (∀ W, Calls Tryz.prog 22 #[.int .u8 p.k] W fun e w' => e = .returned (.int .i64 (lgM p.k)) ∧ w' = W) := fun W => longest_any p.k W
                have HT : Hid (lgM p.k < 0 ∨ 0 ≤ lgM p.k) := (by omega : lgM p.k < 0 ∨ 0 ≤ lgM p.k)
                have HL3 : Hid (p.k = 3 → lgM p.k = 1100) := fun e => by unfold lgM; rw [if_pos e]
                clear h2 c17
                have ws : IntKind.i64.wrap (1099511627776 - p.n) = 1099511627776 - p.n := by rw [IntKind.wrap_i64]; omega
                obtain ⟨L, hL⟩ : ∃ L, L = lgM p.k := ⟨_, rfl⟩
                have HL : Hid (L = lgM p.k) := hL
                rw [← hL] at CL HT HL3
                clear hL
                by_cases hl : 0 ≤ L
                · have e0 : decide (0 ≤ L) = true := decide_eq_true hl
                  by_cases ht : L < (p.tx.size : Int)
                  · have e1 : decide (L < (p.tx.size : Int)) = true := decide_eq_true ht
                    have HR : Hid (chkM p = 5) := chk_l HK.out HA.out HC.out HO.out H2.out (by rw [← HL.out]; exact hl) (by rw [← HL.out]; exact ht)
                    clear HT HL3 hl ht
                    go_wp2_with fail
                    go_quiet ((go_at_call 22; exact Calls.quiet_of_same (CL.out _)))
                    have BD : Hid (Below w.heap.size w (W1.drewN nq)) := HB1.out.trans ((drw W1 nq).mono HB1.out.size)
                    generalize W1.drewN nq = DW at *
                    go_wp2
                    go_ret
                    exact ⟨by rw [HR.out]; rfl, BD.out⟩
                  · have e1 : decide (L < (p.tx.size : Int)) = false := decide_eq_false ht
                    by_cases h3 : p.k = 3
                    · have d3 : (p.k == 3) = true := by simpa using h3
                      have hL3 := HL3.out h3
                      by_cases hr : 1099511627776 - p.n < (p.tx.size : Int)
                      · have e2 : decide (1099511627776 - p.n < (p.tx.size : Int)) = true := decide_eq_true hr
                        have HR : Hid (chkM p = 13) := chk_r HK.out HA.out HC.out HO.out h3 (by omega) hr
                        clear HT HL3 hl ht h3 hL3 hr
                        go_wp2_with fail
                        go_quiet ((go_at_call 22; exact Calls.quiet_of_same (CL.out _)))
                        have BD : Hid (Below w.heap.size w (W1.drewN nq)) := HB1.out.trans ((drw W1 nq).mono HB1.out.size)
                        have k2 : (W1.drewN nq).cell? ⟨w.heap.size, 2, none⟩ = some (.int .i64 p.n) := ((drw W1 nq).cell (World.block_lt_of_cell? _ _ c2)).trans c2
                        have k5 : (W1.drewN nq).cell? ⟨w.heap.size, 5, none⟩ = some (.string p.tx) := ((drw W1 nq).cell (World.block_lt_of_cell? _ _ c5)).trans c5
                        generalize W1.drewN nq = DW at *
                        go_wp2
                        go_ret
                        exact ⟨by rw [HR.out]; rfl, BD.out⟩
                      · have e2 : decide (1099511627776 - p.n < (p.tx.size : Int)) = false := decide_eq_false hr
                        have HR : Hid (chkM p = 0) := chk_z HK.out HA.out HC.out HO.out H2.out (.inr (by rw [← HL.out]; exact ht)) (fun _ => hr)
                        clear HT HL3 hl ht h3 hL3 hr
                        go_wp2_with fail
                        go_quiet ((go_at_call 22; exact Calls.quiet_of_same (CL.out _)))
                        have BD : Hid (Below w.heap.size w (W1.drewN nq)) := HB1.out.trans ((drw W1 nq).mono HB1.out.size)
                        have k2 : (W1.drewN nq).cell? ⟨w.heap.size, 2, none⟩ = some (.int .i64 p.n) := ((drw W1 nq).cell (World.block_lt_of_cell? _ _ c2)).trans c2
                        have k5 : (W1.drewN nq).cell? ⟨w.heap.size, 5, none⟩ = some (.string p.tx) := ((drw W1 nq).cell (World.block_lt_of_cell? _ _ c5)).trans c5
                        generalize W1.drewN nq = DW at *
                        go_wp2
                        go_ret
                        exact ⟨by rw [HR.out]; rfl, BD.out⟩
                    · have d3 : (p.k == 3) = false := by simpa using h3
                      have HR : Hid (chkM p = 0) := chk_z HK.out HA.out HC.out HO.out H2.out (.inr (by rw [← HL.out]; exact ht)) (fun e => absurd e h3)
                      clear HT HL3 hl ht h3
                      go_wp2_with fail
                      go_quiet ((go_at_call 22; exact Calls.quiet_of_same (CL.out _)))
                      have BD : Hid (Below w.heap.size w (W1.drewN nq)) := HB1.out.trans ((drw W1 nq).mono HB1.out.size)
                      generalize W1.drewN nq = DW at *
                      go_wp2
                      go_ret
                      exact ⟨by rw [HR.out]; rfl, BD.out⟩
                · have e0 : decide (0 ≤ L) = false := decide_eq_false hl
                  have d3 : (p.k == 3) = false := by
                    have : p.k ≠ 3 := fun e => by have := HL3.out e; omega
                    simpa using this
                  have HR : Hid (chkM p = 0) := chk_z HK.out HA.out HC.out HO.out H2.out (.inl (by rw [← HL.out]; omega)) (fun e => by have := HL3.out e; omega)
                  clear HT HL3 hl
                  go_wp2_with fail
                  go_quiet ((go_at_call 22; exact Calls.quiet_of_same (CL.out _)))
                  have BD : Hid (Below w.heap.size w (W1.drewN nq)) := HB1.out.trans ((drw W1 nq).mono HB1.out.size)
                  generalize W1.drewN nq = DW at *
                  go_wp2
                  go_ret
                  exact ⟨by rw [HR.out]; rfl, BD.out⟩
end Go.Proofs.YtmplpdjkhdaniaaGreatDoor
namespace Go.Proofs.YtmplpdjkhdaniaaGreatDoor
open Go.RowKit Go.Shelf
set_option maxRecDepth 100000

theorem vbytes {X Y : List Int} (hx : ∀ i, 0 ≤ X.getD i 0 ∧ X.getD i 0 < 256) (hy : ∀ i, 0 ≤ Y.getD i 0 ∧ Y.getD i 0 < 256) : ∀ i, 0 ≤ (X ++ Y).getD i 0 ∧ (X ++ Y).getD i 0 < 256 := fun i => by
  rcases Nat.lt_or_ge i X.length with h | h
  · have := hx i
    simpa [List.getD, List.getElem?_append_left h] using this
  · have := hy (i - X.length)
    simpa [List.getD, List.getElem?_append_right h] using this
theorem wp_append_sl {w : World} {o : Oper} {a : Act} {KK : Act → World → Prop} {Q : Exit → Act → World → Prop} (s x : Operand)
    (ho : o.op = .call { callee := .builtin .append, args := #[s, x], argTypes := #[34, 34] })
    (base : Nat) (v : Value) (n : Nat) (xs : List Value) (hs : a.eval s = v) (hown : w.ownsRow base 5 1 v n xs)
    (src : Value) (Z : List Int) (hx : a.eval x = src) (hsl : Sl w src Z) (hbig : n + Z.length ≤ 200000000000000) (hbase : base ≤ w.heap.size)
    (h : ∀ v' w', w'.ownsRow base 5 1 v' (n + Z.length) (xs ++ Z.map (Value.int .u8)) → w.grownBy w' v.ownBlock → KK (a.put o.dst v') w') : o.wp Tryz.prog a w KK Q := by
  obtain ⟨i0, hi, hz0, hz1, hz2⟩ := info_parts info5'
  obtain ⟨ad, cap, rfl, h1, h2, h3, h4⟩ := hsl
  cases ad with
  | none =>
    obtain rfl := h3 rfl
    obtain rfl : Z = [] := List.length_eq_zero_iff.1 (by omega)
    have hrun := run_append_owned_none (P := Tryz.prog) (w := w) base 34 o.type 5 i0 1 Tryz.underlying34 hi v n xs hown
    have hx' : a.eval x = .slice none 0 0 := hx
    unfold Oper.wp
    simp [execOp, ho, resolve, invoke, builtin, hs, hx', hrun, Result.andThen]
    exact h v w (by simpa using hown) ⟨rfl, rfl, rfl, Nat.le_refl _, fun _ _ _ => rfl⟩
  | some y =>
    exact wp_append_own_wide w s x 34 ho base 5 i0 (.int .u8 0) 1 1 Tryz.underlying34 hi hz0 hz1 hz2 rfl (by decide) v n xs hs hown y Z.length cap (Z.map (Value.int .u8)) hx (by rw [List.length_map, Nat.mul_one]) (news_row h4) (ints_one Z) (by unfold maxLen; omega) (by omega) hbase
      (fun v' w' ho' hg _ => h v' w' ho' hg)
theorem one_own (w : World) (z : Int) : (w.alloc (.cells #[.int .u8 z] 5)).ownsRow w.heap.size 5 1 (.slice (some ⟨w.heap.size, 0, none⟩) 1 1) 1 ([z].map (Value.int .u8)) :=
  ⟨by simp, .inr ⟨w.heap.size, 1, #[.int .u8 z], rfl, Nat.le_refl _, heap_alloc_new _ _, by simp, by unfold maxLen; omega, by simp, by simp⟩⟩
theorem vnumB (n : Int) : ∀ i, 0 ≤ (Fi.numB n).getD i 0 ∧ (Fi.numB n).getD i 0 < 256 := by
  unfold Fi.numB
  split
  · intro i; simp
  · next h =>
    obtain ⟨W, hW, hW0, hI, h1, h2, hn⟩ := Fi.pos_lim _ h
    rw [hW]
    exact Fi.pb_bytes n W hI h1 h2
theorem vtextB (s : ByteArray) : ∀ i, 0 ≤ (Fi.textB s).getD i 0 ∧ (Fi.textB s).getD i 0 < 256 := vbytes (vnumB _) (Fi.sb_bytes s)
theorem dnum_any (n : Int) (w : World) : Calls Tryz.prog 19 #[.int .i64 n] w fun r w' => ∃ v, r = .returned v ∧ Sl w' v (Fi.numB n) ∧ Below w.heap.size w w' :=
  (Fi.rnumB_any n w).mono fun _ _ ⟨v, e, o, b⟩ => ⟨v, e, sl_owned o (vnumB n), b⟩
theorem dtext_any (s : ByteArray) (w : World) (hs : s.size ≤ 140737488351232) : Calls Tryz.prog 23 #[.string s] w fun r w' => ∃ v, r = .returned v ∧ Sl w' v (Fi.textB s) ∧ Below w.heap.size w w' :=
  (Fi.rtextB_any s w hs).mono fun _ _ ⟨v, e, o, b⟩ => ⟨v, e, sl_owned o (vtextB s), b⟩
/-- A row of bytes grows. -/
theorem wp_append_ow {w : World} {o : Oper} {a : Act} {KK : Act → World → Prop} {Q : Exit → Act → World → Prop} (s x : Operand)
    (ho : o.op = .call { callee := .builtin .append, args := #[s, x], argTypes := #[34, 34] })
    (B : Nat) (v : Value) (X : List Int) (hs : a.eval s = v) (hown : Ow w B v X) (src : Value) (Z : List Int) (hx : a.eval x = src) (hsl : Sl w src Z) (hbig : X.length + Z.length ≤ 200000000000000) (hbase : B ≤ w.heap.size)
    (h : ∀ v' w', Ow w' B v' (X ++ Z) → w.grownBy w' v.ownBlock → KK (a.put o.dst v') w') : o.wp Tryz.prog a w KK Q :=
  wp_append_sl s x ho B v X.length (X.map (Value.int .u8)) hs hown.1 src Z hx hsl hbig hbase fun v' w' o' g => h v' w' ⟨by rw [List.length_append, List.map_append]; exact o', vbytes hown.2 hsl.bytes⟩ g
theorem wpList_append_ow {w : World} {ops : Array Oper} {rest : List Oper} {o : Oper} {a : Act} {Q : Exit → Act → World → Prop} (hgd : o.guard = none) (s x : Operand)
    (ho : o.op = .call { callee := .builtin .append, args := #[s, x], argTypes := #[34, 34] })
    (B : Nat) (v : Value) (X : List Int) (hs : a.eval s = v) (hown : Ow w B v X) (src : Value) (Z : List Int) (hx : a.eval x = src) (hsl : Sl w src Z) (hbig : X.length + Z.length ≤ 200000000000000) (hbase : B ≤ w.heap.size)
    (h : ∀ v' w', Ow w' B v' (X ++ Z) → w.grownBy w' v.ownBlock → wpList Tryz.prog ops Q rest (a.put o.dst v') w') : wpList Tryz.prog ops Q (o :: rest) a w :=
  wpList_plain hgd fun _ hK => wp_append_ow s x ho B v X hs hown src Z hx hsl hbig hbase fun v' w' h1 h2 => hK _ _ (h v' w' h1 h2)
theorem Ow.shp {w : World} {B : Nat} {v : Value} {X : List Int} (h : Ow w B v X) : ∃ a n c, v = .slice a n c ∧ n = X.length := by
  obtain ⟨a, c, e⟩ := h.shape
  exact ⟨a, _, c, e, rfl⟩
theorem dnumO_any (n : Int) (w : World) : Calls Tryz.prog 19 #[.int .i64 n] w fun r w' => ∃ v, r = .returned v ∧ Ow w' w.heap.size v (nB n) ∧ Below w.heap.size w w' :=
  (Fi.rnumB_any n w).mono fun _ _ ⟨v, e, o, b⟩ => ⟨v, e, ⟨o, vnumB n⟩, b⟩
theorem prs_pre {l : List Sp} (h64 : l.length ≤ 64) (j : Nat) (hj : j + 1 ≤ l.length) : (prs l (j + 1)).flatten.length ≤ 1032 := by
  have e := congrArg List.length (prs_flat l j hj)
  rw [List.length_append] at e
  have := putB_len h64
  omega
theorem prs_one {l : List Sp} {m : Nat} (h : l.length = m + 1) : (prs l 1).flatten = nB (atS l m).2 ++ nB (m : Int) ++ nB ((atS l m).2 - (atS l m).1) := by
  show ([nB (atS l (l.length - 1)).2, nB ((l.length - 1 : Nat) : Int)] ++ prt l (l.length - (0 + 1))).flatten = _
  unfold prt
  rw [h, if_neg (by omega)]
  simp
theorem prs_next {l : List Sp} {m j i : Nat} (h : l.length = m + 1) (hj : j + i + 1 = m) : (prs l (j + 1 + 1)).flatten = (prs l (j + 1)).flatten ++ nB ((atS l (i + 1)).1 - (atS l i).2 - 2) ++ nB ((atS l i).2 - (atS l i).1) := by
  show (prs l (j + 1) ++ prt l (l.length - (j + 1 + 1))).flatten = _
  have e : l.length - (j + 1 + 1) = i := by omega
  unfold prt
  rw [e, if_pos (by omega)]
  simp
set_option maxHeartbeats 8000000 in
theorem rputS_any (w : World) (sv : Value) (l : List Sp) (hu : SSp w sv l) (hc : chkL l = 0) :
    Calls Tryz.prog 24 #[sv] w fun e w' => ∃ v, e = .returned (.tuple #[v, .int .i64 0]) ∧ Sl w' v (putB l) ∧ Below w.heap.size w w' := by
  obtain ⟨hcn, hne, h64⟩ := chkL_ok hc
  have hlp := List.length_pos_iff.2 hne
  have cc := rcheck_any w sv l hu (by omega)
  rw [hc] at cc
  obtain ⟨a, c, rfl, -⟩ := id hu.shape
  obtain ⟨b, off, rfl, -⟩ := hu.at 0 hlp
  obtain ⟨m, hm⟩ : ∃ m, l.length = m + 1 := ⟨l.length - 1, by omega⟩
  have FR : Hid (∀ k, k < m + 1 → ∀ W, From w W → W.cell? ⟨b, off + k * 2, none⟩ = some (.int .i64 (atS l k).1) ∧ W.cell? ⟨b, off + k * 2 + 1, none⟩ = some (.int .i64 (atS l k).2)) := fun k hk W hb => by
    obtain ⟨b', off', e, q⟩ := (hu.kept hb).at k (by omega)
    cases e
    exact ⟨(spC q).1, (spC q).2⟩
  have HBD : Hid (∀ i, i < m + 1 → 0 ≤ (atS l i).1 ∧ (atS l i).1 ≤ (atS l i).2 ∧ (atS l i).2 ≤ 1099511627776) := fun i hi => by
    have := hcn.1 _ (atS_mem l i (by omega))
    unfold Okk at this
    exact this
  have HRS : Hid (∀ i, i < m → (atS l i).2 + 2 ≤ (atS l (i + 1)).1) := fun i hi => by
    have := hcn.rise (show i < i + 1 by omega) (show i + 1 < l.length by omega)
    omega
  have HF0 : Hid ((prs l 1).flatten = nB (atS l m).2 ++ nB (m : Int) ++ nB ((atS l m).2 - (atS l m).1)) := prs_one hm
  have HFS : Hid (∀ j i, j + i + 1 = m → (prs l (j + 1 + 1)).flatten = (prs l (j + 1)).flatten ++ nB ((atS l (i + 1)).1 - (atS l i).2 - 2) ++ nB ((atS l i).2 - (atS l i).1)) := fun j i hj => prs_next hm hj
  have HFE : Hid ((prs l (m + 1)).flatten = putB l) := by
    have := prs_all hne
    rwa [hm] at this
  have HFL : Hid (∀ j, j ≤ m → (prs l (j + 1)).flatten.length ≤ 1032) := fun j hj => prs_pre h64 j (by omega)
  have HN8 : Hid (∀ n : Int, (nB n).length ≤ 8) := numB_len8
  have CN : Hid (∀ n W, Calls Tryz.prog 19 #[.int .i64 n] W fun r w' => ∃ v, r = .returned v ∧ Ow w' W.heap.size v (nB n) ∧ Below W.heap.size W w') := dnumO_any
  have HM : Hid (m ≤ 63) := (by omega : m ≤ 63)
  rw [hm] at cc ⊢
  clear hu hc hcn hne h64 hlp hm
  generalize putB l = PB at *
  generalize hP : (fun j => (prs l (j + 1)).flatten) = F at *
  have HP : Hid (∀ j, (prs l (j + 1)).flatten = F j) := fun j => by rw [← hP]
  clear hP
  simp only [HP.out] at HFS HFL
  have hF0 := HP.out 0
  have hFm := HP.out m
  rw [Nat.zero_add] at hF0
  rw [hF0] at HF0
  rw [hFm] at HFE
  clear HP hF0 hFm
  generalize hA : atS l = Av at *
  clear hA
  obtain ⟨f, t, hx⟩ : ∃ f t, Av m = (f, t) := ⟨_, _, rfl⟩
  have HX : Hid (Av m = (f, t)) := hx
  clear hx
  have mw0 : IntKind.i64.wrap (m : Int) = (m : Int) := by have := HM.out; rw [IntKind.wrap_i64]; omega
  have mw : IntKind.i64.wrap ((m : Int) + 1 - 1) = (m : Int) := by have := HM.out; rw [IntKind.wrap_i64]; omega
  have mw2 : IntKind.i64.wrap (((m + 1 : Nat) : Int) - 1) = (m : Int) := by have := HM.out; rw [IntKind.wrap_i64]; omega
  go_enter Tryz.func24, Tryz.ntmps24
  go_wp2_with fail
  refine cc.mono ?_
  rintro e w1 ⟨rfl, b1⟩
  have HB1 : Hid (Below w.heap.size w w1) := b1
  clear cc b1
  obtain ⟨k0, k1⟩ := FR.out m (by omega) w1 HB1.out
  rw [HX.out] at k0 k1
  simp only at k0 k1
  have lt1 : (m : Int) < ((m + 1 : Nat) : Int) := by omega
  have lt2 : (m : Int) < (m : Int) + 1 := by omega
  have ge1 : (0 : Int) ≤ (m : Int) := by omega
  have cn := CN.out t w1
  go_wp2_with fail
  refine cn.mono ?_
  rintro e w2 ⟨v2, rfl, o2, b2⟩
  have HB2 : Hid (Below w.heap.size w w2) := HB1.out.trans (b2.mono HB1.out.size)
  have HO2 : Hid (Ow w2 w.heap.size v2 (nB t)) := o2.mono HB1.out.size
  obtain ⟨a2, c2, rfl⟩ := o2.shape
  have cn := CN.out (m : Int) w2
  clear b2 o2 k0 k1
  generalize hl2 : (nB t).length = L2 at *
  have HL2 : Hid ((nB t).length = L2) := hl2
  clear hl2
  go_wp2_with fail
  refine cn.mono ?_
  rintro e w3 ⟨v3, rfl, o3, b3⟩
  have HB3 : Hid (Below w.heap.size w w3) := HB2.out.trans (b3.mono HB2.out.size)
  have HO3 : Hid (Ow w3 w.heap.size (.slice a2 L2 c2) (nB t)) := HO2.out.below b3
  have HS3 : Hid (Sl w3 v3 (nB (m : Int))) := o3.sl
  obtain ⟨a3, c3, rfl⟩ := o3.shape
  clear cn b3 o3
  go_wp2_with (at_builtin; refine wpList_append_ow rfl _ _ rfl w.heap.size _ (nB t) rfl HO3.out _ (nB (m : Int)) rfl HS3.out (by have := HN8.out t; have := HN8.out (m : Int); omega) HB3.out.size (Hid.out ?_))
  unfold Hid
  intro v4 w4 o4 g4
  have HB4 : Hid (Below w.heap.size w w4) := HB3.out.grown g4 HB3.out.size (own_base HO3.out.1)
  have HO4 : Hid (Ow w4 w.heap.size v4 (nB t ++ nB (m : Int))) := o4
  obtain ⟨a4, c4, rfl⟩ := o4.shape
  clear o4 g4 HS3 HO3 HO2 HB3
  generalize hl4 : (nB t ++ nB (m : Int)).length = L4 at *
  have HL4 : Hid ((nB t ++ nB (m : Int)).length = L4) := hl4
  have HL4b : Hid ((nB t ++ nB (m : Int)).length ≤ 16) := by unfold Hid; rw [List.length_append]; have := HN8.out t; have := HN8.out (m : Int); omega
  clear hl4
  go_upto_region 6 with fail
  go_cut [6] (fun s6 wx => Ow wx w.heap.size s6 (F 0) ∧ Below w.heap.size w wx)
  case first =>
    have tb := HBD.out m (by omega)
    rw [HX.out] at tb
    simp only at tb
    have wr6 : IntKind.i64.wrap (t - f) = t - f := by rw [IntKind.wrap_i64]; omega
    have HFR6 : Hid (∀ W, From w W → W.cell? ⟨b, off + m * 2, none⟩ = some (.int .i64 f) ∧ W.cell? ⟨b, off + m * 2 + 1, none⟩ = some (.int .i64 t)) := fun W hb => by
      have := FR.out m (by omega) W hb
      rwa [HX.out] at this
    have HF6 : Hid (F 0 = nB t ++ nB (m : Int) ++ nB (t - f)) := by
      have := HF0.out
      rwa [HX.out] at this
    clear tb HF0 HFS HFE HFL HBD HRS
    refine wp_region_held_drew (S := From w) (by kernel_rfl) (Below.drew (HB4.out)) (fun _ => ?_)
    refine wpAnyH_name (fun u0 hu0 => ?_)
    have bu0 : Below w.heap.size w u0 := by rw [hu0.out]; exact Below.drew (HB4.out)
    have OXu0 : Ow u0 w.heap.size (.slice a4 L4 c4) (nB t ++ nB (m : Int)) := by rw [hu0.out]; exact HO4.out.below ((Below.refl _ _).drew)
    refine wpAnyH_take (i := 0) (oi := { dst := some 25, op := Op.move (Operand.tmp 6), type := 34, pos := "ref.go:124", after := #[], guard := none }) (v := ?vq1) rfl (by kernel_rfl) (by kernel_rfl) (by kernel_rfl) (fun _ _ _ h => h) (Or.inl ⟨by rfl, ?yq1⟩) bu0 ?rq1
    case yq1 => (intro w hSw; go_simp; try with_reducible rfl)
    try simp only [Act.put, List.setIfInBounds_toArray, List.set_cons_zero, List.set_cons_succ]
    refine wpAnyH_take (i := 1) (oi := { dst := some 26, op := Op.move (Operand.tmp 0), type := 23, pos := "ref.go:124", after := #[], guard := none }) (v := ?vq2) rfl (by kernel_rfl) (by kernel_rfl) (by kernel_rfl) (fun _ _ _ h => h) (Or.inl ⟨by rfl, ?yq2⟩) bu0 ?rq2
    case yq2 => (intro w hSw; go_simp; try with_reducible rfl)
    try simp only [Act.put, List.setIfInBounds_toArray, List.set_cons_zero, List.set_cons_succ]
    refine wpAnyH_take (i := 2) (oi := { dst := some 27, op := Op.move (Operand.tmp 5), type := 3, pos := "ref.go:124", after := #[], guard := none }) (v := ?vq3) rfl (by kernel_rfl) (by kernel_rfl) (by kernel_rfl) (fun _ _ _ h => h) (Or.inl ⟨by rfl, ?yq3⟩) bu0 ?rq3
    case yq3 => (intro w hSw; go_simp; try with_reducible rfl)
    try simp only [Act.put, List.setIfInBounds_toArray, List.set_cons_zero, List.set_cons_succ]
    refine wpAnyH_take (i := 3) (oi := { dst := some 28, op := Op.indexAddr 23 (Operand.tmp 26) (Operand.tmp 27), type := 0, pos := "ref.go:124", after := #[{ on := 1, ground := Ground.data }, { on := 2, ground := Ground.data }], guard := none }) (v := ?vq4) rfl (by kernel_rfl) (by kernel_rfl) (by kernel_rfl) (fun _ _ _ h => h) (Or.inl ⟨by rfl, ?yq4⟩) bu0 ?rq4
    case yq4 => (intro w hSw; go_simp; try with_reducible rfl)
    try simp only [Act.put, List.setIfInBounds_toArray, List.set_cons_zero, List.set_cons_succ]
    refine wpAnyH_take (i := 4) (oi := { dst := some 29, op := Op.fieldAddr 89 (Operand.tmp 28) 1, type := 0, pos := "ref.go:124", after := #[{ on := 3, ground := Ground.data }], guard := none }) (v := ?vq5) rfl (by kernel_rfl) (by kernel_rfl) (by kernel_rfl) (fun _ _ _ h => h) (Or.inl ⟨by rfl, ?yq5⟩) bu0 ?rq5
    case yq5 => (intro w hSw; go_simp; try with_reducible rfl)
    try simp only [Act.put, List.setIfInBounds_toArray, List.set_cons_zero, List.set_cons_succ]
    refine wpAnyH_take (i := 5) (oi := { dst := some 30, op := Op.load 3 (Operand.tmp 29), type := 3, pos := "ref.go:124", after := #[{ on := 4, ground := Ground.data }], guard := none }) (v := .int .i64 t) rfl (by kernel_rfl) (by kernel_rfl) (by kernel_rfl) (fun _ _ _ h => h) (Or.inl ⟨by rfl, ?yq6⟩) bu0 ?rq6
    case yq6 => (intro w hSw; obtain ⟨k0, k1⟩ := HFR6.out w hSw; go_simp; try with_reducible rfl)
    try simp only [Act.put, List.setIfInBounds_toArray, List.set_cons_zero, List.set_cons_succ]
    refine wpAnyH_take (i := 6) (oi := { dst := some 31, op := Op.move (Operand.tmp 0), type := 23, pos := "ref.go:124", after := #[], guard := none }) (v := ?vq7) rfl (by kernel_rfl) (by kernel_rfl) (by kernel_rfl) (fun _ _ _ h => h) (Or.inl ⟨by rfl, ?yq7⟩) bu0 ?rq7
    case yq7 => (intro w hSw; go_simp; try with_reducible rfl)
    try simp only [Act.put, List.setIfInBounds_toArray, List.set_cons_zero, List.set_cons_succ]
    refine wpAnyH_take (i := 7) (oi := { dst := some 32, op := Op.move (Operand.tmp 5), type := 3, pos := "ref.go:124", after := #[], guard := none }) (v := ?vq8) rfl (by kernel_rfl) (by kernel_rfl) (by kernel_rfl) (fun _ _ _ h => h) (Or.inl ⟨by rfl, ?yq8⟩) bu0 ?rq8
    case yq8 => (intro w hSw; go_simp; try with_reducible rfl)
    try simp only [Act.put, List.setIfInBounds_toArray, List.set_cons_zero, List.set_cons_succ]
    refine wpAnyH_take (i := 8) (oi := { dst := some 33, op := Op.indexAddr 23 (Operand.tmp 31) (Operand.tmp 32), type := 0, pos := "ref.go:124", after := #[{ on := 6, ground := Ground.data }, { on := 7, ground := Ground.data }], guard := none }) (v := ?vq9) rfl (by kernel_rfl) (by kernel_rfl) (by kernel_rfl) (fun _ _ _ h => h) (Or.inl ⟨by rfl, ?yq9⟩) bu0 ?rq9
    case yq9 => (intro w hSw; go_simp; try with_reducible rfl)
    try simp only [Act.put, List.setIfInBounds_toArray, List.set_cons_zero, List.set_cons_succ]
    refine wpAnyH_take (i := 9) (oi := { dst := some 34, op := Op.fieldAddr 89 (Operand.tmp 33) 0, type := 0, pos := "ref.go:124", after := #[{ on := 8, ground := Ground.data }], guard := none }) (v := ?vq10) rfl (by kernel_rfl) (by kernel_rfl) (by kernel_rfl) (fun _ _ _ h => h) (Or.inl ⟨by rfl, ?yq10⟩) bu0 ?rq10
    case yq10 => (intro w hSw; go_simp; try with_reducible rfl)
    try simp only [Act.put, List.setIfInBounds_toArray, List.set_cons_zero, List.set_cons_succ]
    refine wpAnyH_take (i := 10) (oi := { dst := some 35, op := Op.load 3 (Operand.tmp 34), type := 3, pos := "ref.go:124", after := #[{ on := 9, ground := Ground.data }], guard := none }) (v := .int .i64 f) rfl (by kernel_rfl) (by kernel_rfl) (by kernel_rfl) (fun _ _ _ h => h) (Or.inl ⟨by rfl, ?yq11⟩) bu0 ?rq11
    case yq11 => (intro w hSw; obtain ⟨k0, k1⟩ := HFR6.out w hSw; go_simp; try with_reducible rfl)
    try simp only [Act.put, List.setIfInBounds_toArray, List.set_cons_zero, List.set_cons_succ]
    refine wpAnyH_take (i := 11) (oi := { dst := some 36, op := Op.binOp BinOp.sub 3 (Operand.tmp 30) (Operand.tmp 35) 3, type := 3, pos := "ref.go:124", after := #[{ on := 5, ground := Ground.data }, { on := 10, ground := Ground.data }], guard := none }) (v := .int .i64 (t - f)) rfl (by kernel_rfl) (by kernel_rfl) (by kernel_rfl) (fun _ _ _ h => h) (Or.inl ⟨by rfl, ?yq12⟩) bu0 ?rq12
    case yq12 => (intro w hSw; go_simp; try with_reducible rfl)
    try simp only [Act.put, List.setIfInBounds_toArray, List.set_cons_zero, List.set_cons_succ]
    refine wpAnyH_ready (rs := [12]) (by kernel_rfl) (by simp) ?_
    refine AllReadyH.cons (o := { dst := some 37, op := Op.call { callee := Callee.value (Operand.func 19), args := #[Operand.tmp 36], argTypes := #[3] }, type := 34, pos := "ref.go:124", after := #[{ on := 11, ground := Ground.data }], guard := none }) rfl (fun KK hKK => ?_) ?_
    · go_simp
      refine (CN.out (t - f) _).mono ?_
      rintro e u13' ⟨v9, rfl, ou13, bu13'⟩
      obtain ⟨na, nc, rfl⟩ := ou13.shape
      (try go_wp2_with fail)
      refine hKK.out _ _ (bu0.trans (Below.mono (bu13') bu0.size)) (fun _ => ?_)
      clear hKK KK
      try simp only [Act.put, List.setIfInBounds_toArray, List.set_cons_zero, List.set_cons_succ]
      refine wpAnyH_name (fun u13 hu13 => ?_)
      have bu13 : Below w.heap.size w u13 := by rw [hu13.out]; exact (bu0.trans (Below.mono (bu13') bu0.size))
      have SZu13 : Sl u13 (.slice na (nB (t - f)).length nc) (nB (t - f)) := by rw [hu13.out]; exact ou13.sl
      have OXu13 := OXu0.below bu13'
      rw [← hu13.out] at OXu13
      refine wpAnyH_ready (rs := [13]) (by kernel_rfl) (by simp) ?_
      refine AllReadyH.cons (o := { dst := some 38, op := Op.call { callee := Callee.builtin Builtin.append, args := #[Operand.tmp 25, Operand.tmp 37], argTypes := #[34, 34] }, type := 34, pos := "ref.go:124", after := #[{ on := 0, ground := Ground.data }, { on := 12, ground := Ground.data }, { on := 12, ground := Ground.chain }], guard := none }) rfl (fun KK hKK => ?_) ?_
      · refine wp_append_ow _ _ rfl w.heap.size _ (nB t ++ nB (m : Int)) rfl OXu13 _ (nB (t - f)) rfl SZu13 (by have := HL4b.out; have := HN8.out (t - f); omega) bu13.size ?_
        intro v8 u14' o8 g8
        refine hKK.out _ _ (bu13.grown g8 bu13.size (own_base OXu13.1)) (fun _ => ?_)
        clear hKK KK
        try simp only [Act.put, List.setIfInBounds_toArray, List.set_cons_zero, List.set_cons_succ]
        refine wpAnyH_name (fun u14 hu14 => ?_)
        have bu14 : Below w.heap.size w u14 := by rw [hu14.out]; exact (bu13.grown g8 bu13.size (own_base OXu13.1))
        have OYu14 : Ow u14 w.heap.size v8 ((nB t ++ nB (m : Int)) ++ (nB (t - f))) := by rw [hu14.out]; exact o8
        clear o8 g8
        obtain ⟨ya, yn, yc, rfl, -⟩ := OYu14.shp
        refine wpAnyH_take (i := 14) (oi := { dst := some 6, op := Op.assign (Operand.tmp 38), type := 34, pos := "ref.go:124", after := #[{ on := 13, ground := Ground.data }, { on := 13, ground := Ground.chain }, { on := 0, ground := Ground.phase }, { on := 1, ground := Ground.phase }, { on := 2, ground := Ground.phase }, { on := 3, ground := Ground.phase }, { on := 4, ground := Ground.phase }, { on := 5, ground := Ground.phase }, { on := 6, ground := Ground.phase }, { on := 7, ground := Ground.phase }, { on := 8, ground := Ground.phase }, { on := 9, ground := Ground.phase }, { on := 10, ground := Ground.phase }, { on := 11, ground := Ground.phase }, { on := 12, ground := Ground.phase }, { on := 13, ground := Ground.phase }], guard := none }) (v := ?vq15) rfl (by kernel_rfl) (by kernel_rfl) (by kernel_rfl) (fun _ _ _ h => h) (Or.inl ⟨by rfl, ?yq15⟩) bu14 ?rq15
        case yq15 => (intro w hSw; go_simp; try with_reducible rfl)
        try simp only [Act.put, List.setIfInBounds_toArray, List.set_cons_zero, List.set_cons_succ]
        refine wpAnyH_done (by kernel_rfl) ?_ _
        have HZ : Hid (Ow u14 w.heap.size (.slice ya yn yc) (F 0) ∧ Below w.heap.size w u14) := ⟨by rw [HF6.out]; exact OYu14, bu14⟩
        clear CN
        go_wp2
        go_meet
        exact HZ.out
      exact AllReadyH.nil
    exact AllReadyH.nil
  case rest =>
    obtain ⟨oc, bc⟩ := hcut
    have OC : Hid (Ow wc w.heap.size u6 (F 0)) := oc
    have BC : Hid (Below w.heap.size w wc) := bc
    have mw3 : IntKind.i64.wrap ((m : Int) - 1) = (m : Int) - 1 := by have := HM.out; rw [IntKind.wrap_i64]; omega
    clear oc bc HB1 HB2 HB4 HO4 HL4 HL4b HL2 HF0 mw mw2 mw0
    go_wp2
    go_loopw [6, 7] (fun u6 u7 wr => ∃ j : Nat, j ≤ m ∧ u7 = .int .i64 ((m : Int) - 1 - (j : Int)) ∧ Ow wr w.heap.size u6 (F j) ∧ Below w.heap.size w wr) (fun _ u7 _ => (intOf u7 + 1).toNat)
    case atStart => exact ⟨0, by omega, by go_num, OC.out, BC.out⟩
    case round =>
      obtain ⟨j, hj, rfl, oj, bel⟩ := hrel
      have OJ : Hid (Ow wr w.heap.size u6 (F j)) := oj
      have HB : Hid (Below w.heap.size w wr) := bel
      clear OC BC oj bel mw3
      by_cases hjm : j < m
      · obtain ⟨i, hi⟩ : ∃ i : Nat, j + i + 1 = m := ⟨m - 1 - j, by omega⟩
        have ei : (m : Int) - 1 - (j : Int) = (i : Int) := by omega
        have ge2 : (0 : Int) ≤ (i : Int) := by omega
        have HI : Hid (j + i + 1 = m) := hi
        have HE : Hid ((m : Int) - 1 - (j : Int) = (i : Int)) := ei
        rw [ei]
        obtain ⟨f, t, hx⟩ : ∃ f t, Av i = (f, t) := ⟨_, _, rfl⟩
        obtain ⟨f', t', hx'⟩ : ∃ f t, Av (i + 1) = (f, t) := ⟨_, _, rfl⟩
        have HFJ : Hid (F (j + 1) = F j ++ nB (f' - t - 2) ++ nB (t - f)) := by
          have := HFS.out j i hi
          rwa [hx, hx'] at this
        have tb := HBD.out i (by omega)
        have tb' := HBD.out (i + 1) (by omega)
        have tr := HRS.out i (by omega)
        rw [hx] at tb tr
        rw [hx'] at tb' tr
        simp only at tb tb' tr
        have FA : Hid (∀ W, From w W → W.cell? ⟨b, off + i * 2, none⟩ = some (.int .i64 f) ∧ W.cell? ⟨b, off + i * 2 + 1, none⟩ = some (.int .i64 t) ∧ W.cell? ⟨b, off + (i + 1) * 2, none⟩ = some (.int .i64 f')) := fun W hb => by
          have h1 := FR.out i (by omega) W hb
          have h2 := FR.out (i + 1) (by omega) W hb
          rw [hx] at h1
          rw [hx'] at h2
          exact ⟨h1.1, h1.2, h2.1⟩
        have HLJ : Hid ((F j).length ≤ 1032) := HFL.out j (by omega)
        have w1' : IntKind.i64.wrap ((i : Int) + 1) = (i : Int) + 1 := by have := HM.out; rw [IntKind.wrap_i64]; omega
        have w2' : IntKind.i64.wrap (f' - t) = f' - t := by rw [IntKind.wrap_i64]; omega
        have w3' : IntKind.i64.wrap (f' - t - 2) = f' - t - 2 := by rw [IntKind.wrap_i64]; omega
        have w4' : IntKind.i64.wrap (t - f) = t - f := by rw [IntKind.wrap_i64]; omega
        have HW9 : Hid (wrap64 ((i : Int) - 1) = (i : Int) - 1) := by have := HM.out; unfold Hid wrap64; omega
        have lt5 : (i : Int) < ((m + 1 : Nat) : Int) := by omega
        have lt6 : (i : Int) + 1 < ((m + 1 : Nat) : Int) := by omega
        have lt7 : (i : Int) < (m : Int) + 1 := by omega
        have lt8 : (i : Int) + 1 < (m : Int) + 1 := by omega
        have ge3 : (0 : Int) ≤ (i : Int) + 1 := by omega
        clear tb tb' tr hx hx' FR HBD HRS hi ei
        obtain ⟨aj, LJ, cj, rfl, -⟩ := OJ.out.shp
        go_upto_region 10 with fail
        refine wp_region_held_drew (S := From w) (by kernel_rfl) (Below.drew (HB.out)) (fun _ => ?_)
        refine wpAnyH_name (fun u0 hu0 => ?_)
        have bu0 : Below w.heap.size w u0 := by rw [hu0.out]; exact Below.drew (HB.out)
        have OXu0 : Ow u0 w.heap.size (.slice aj LJ cj) (F j) := by rw [hu0.out]; exact OJ.out.below ((Below.refl _ _).drew)
        refine wpAnyH_take (i := 0) (oi := { dst := some 45, op := Op.move (Operand.tmp 6), type := 34, pos := "ref.go:126", after := #[], guard := none }) (v := ?vr1) rfl (by kernel_rfl) (by kernel_rfl) (by kernel_rfl) (fun _ _ _ h => h) (Or.inl ⟨by rfl, ?yr1⟩) bu0 ?rr1
        case yr1 => (intro w hSw; go_simp; try with_reducible rfl)
        try simp only [Act.put, List.setIfInBounds_toArray, List.set_cons_zero, List.set_cons_succ]
        refine wpAnyH_take (i := 1) (oi := { dst := some 46, op := Op.move (Operand.tmp 0), type := 23, pos := "ref.go:126", after := #[], guard := none }) (v := ?vr2) rfl (by kernel_rfl) (by kernel_rfl) (by kernel_rfl) (fun _ _ _ h => h) (Or.inl ⟨by rfl, ?yr2⟩) bu0 ?rr2
        case yr2 => (intro w hSw; go_simp; try with_reducible rfl)
        try simp only [Act.put, List.setIfInBounds_toArray, List.set_cons_zero, List.set_cons_succ]
        refine wpAnyH_take (i := 2) (oi := { dst := some 47, op := Op.move (Operand.tmp 7), type := 3, pos := "ref.go:126", after := #[], guard := none }) (v := ?vr3) rfl (by kernel_rfl) (by kernel_rfl) (by kernel_rfl) (fun _ _ _ h => h) (Or.inl ⟨by rfl, ?yr3⟩) bu0 ?rr3
        case yr3 => (intro w hSw; go_simp; try with_reducible rfl)
        try simp only [Act.put, List.setIfInBounds_toArray, List.set_cons_zero, List.set_cons_succ]
        refine wpAnyH_take (i := 3) (oi := { dst := some 48, op := Op.binOp BinOp.add 3 (Operand.tmp 47) (Operand.const (Value.int IntKind.i64 1)) 3, type := 3, pos := "ref.go:126", after := #[{ on := 2, ground := Ground.data }], guard := none }) (v := .int .i64 ((i : Int) + 1)) rfl (by kernel_rfl) (by kernel_rfl) (by kernel_rfl) (fun _ _ _ h => h) (Or.inl ⟨by rfl, ?yr4⟩) bu0 ?rr4
        case yr4 => (intro w hSw; go_simp; try with_reducible rfl)
        try simp only [Act.put, List.setIfInBounds_toArray, List.set_cons_zero, List.set_cons_succ]
        refine wpAnyH_take (i := 4) (oi := { dst := some 49, op := Op.indexAddr 23 (Operand.tmp 46) (Operand.tmp 48), type := 0, pos := "ref.go:126", after := #[{ on := 1, ground := Ground.data }, { on := 3, ground := Ground.data }], guard := none }) (v := ?vr5) rfl (by kernel_rfl) (by kernel_rfl) (by kernel_rfl) (fun _ _ _ h => h) (Or.inl ⟨by rfl, ?yr5⟩) bu0 ?rr5
        case yr5 => (intro w hSw; go_simp; try with_reducible rfl)
        try simp only [Act.put, List.setIfInBounds_toArray, List.set_cons_zero, List.set_cons_succ]
        refine wpAnyH_take (i := 5) (oi := { dst := some 50, op := Op.fieldAddr 89 (Operand.tmp 49) 0, type := 0, pos := "ref.go:126", after := #[{ on := 4, ground := Ground.data }], guard := none }) (v := ?vr6) rfl (by kernel_rfl) (by kernel_rfl) (by kernel_rfl) (fun _ _ _ h => h) (Or.inl ⟨by rfl, ?yr6⟩) bu0 ?rr6
        case yr6 => (intro w hSw; go_simp; try with_reducible rfl)
        try simp only [Act.put, List.setIfInBounds_toArray, List.set_cons_zero, List.set_cons_succ]
        refine wpAnyH_take (i := 6) (oi := { dst := some 51, op := Op.load 3 (Operand.tmp 50), type := 3, pos := "ref.go:126", after := #[{ on := 5, ground := Ground.data }], guard := none }) (v := .int .i64 f') rfl (by kernel_rfl) (by kernel_rfl) (by kernel_rfl) (fun _ _ _ h => h) (Or.inl ⟨by rfl, ?yr7⟩) bu0 ?rr7
        case yr7 => (intro w hSw; obtain ⟨k0, k1, k2⟩ := FA.out w hSw; go_simp; try with_reducible rfl)
        try simp only [Act.put, List.setIfInBounds_toArray, List.set_cons_zero, List.set_cons_succ]
        refine wpAnyH_take (i := 7) (oi := { dst := some 52, op := Op.move (Operand.tmp 0), type := 23, pos := "ref.go:126", after := #[], guard := none }) (v := ?vr8) rfl (by kernel_rfl) (by kernel_rfl) (by kernel_rfl) (fun _ _ _ h => h) (Or.inl ⟨by rfl, ?yr8⟩) bu0 ?rr8
        case yr8 => (intro w hSw; go_simp; try with_reducible rfl)
        try simp only [Act.put, List.setIfInBounds_toArray, List.set_cons_zero, List.set_cons_succ]
        refine wpAnyH_take (i := 8) (oi := { dst := some 53, op := Op.move (Operand.tmp 7), type := 3, pos := "ref.go:126", after := #[], guard := none }) (v := ?vr9) rfl (by kernel_rfl) (by kernel_rfl) (by kernel_rfl) (fun _ _ _ h => h) (Or.inl ⟨by rfl, ?yr9⟩) bu0 ?rr9
        case yr9 => (intro w hSw; go_simp; try with_reducible rfl)
        try simp only [Act.put, List.setIfInBounds_toArray, List.set_cons_zero, List.set_cons_succ]
        refine wpAnyH_take (i := 9) (oi := { dst := some 54, op := Op.indexAddr 23 (Operand.tmp 52) (Operand.tmp 53), type := 0, pos := "ref.go:126", after := #[{ on := 7, ground := Ground.data }, { on := 8, ground := Ground.data }], guard := none }) (v := ?vr10) rfl (by kernel_rfl) (by kernel_rfl) (by kernel_rfl) (fun _ _ _ h => h) (Or.inl ⟨by rfl, ?yr10⟩) bu0 ?rr10
        case yr10 => (intro w hSw; go_simp; try with_reducible rfl)
        try simp only [Act.put, List.setIfInBounds_toArray, List.set_cons_zero, List.set_cons_succ]
        refine wpAnyH_take (i := 10) (oi := { dst := some 55, op := Op.fieldAddr 89 (Operand.tmp 54) 1, type := 0, pos := "ref.go:126", after := #[{ on := 9, ground := Ground.data }], guard := none }) (v := ?vr11) rfl (by kernel_rfl) (by kernel_rfl) (by kernel_rfl) (fun _ _ _ h => h) (Or.inl ⟨by rfl, ?yr11⟩) bu0 ?rr11
        case yr11 => (intro w hSw; go_simp; try with_reducible rfl)
        try simp only [Act.put, List.setIfInBounds_toArray, List.set_cons_zero, List.set_cons_succ]
        refine wpAnyH_take (i := 11) (oi := { dst := some 56, op := Op.load 3 (Operand.tmp 55), type := 3, pos := "ref.go:126", after := #[{ on := 10, ground := Ground.data }], guard := none }) (v := .int .i64 t) rfl (by kernel_rfl) (by kernel_rfl) (by kernel_rfl) (fun _ _ _ h => h) (Or.inl ⟨by rfl, ?yr12⟩) bu0 ?rr12
        case yr12 => (intro w hSw; obtain ⟨k0, k1, k2⟩ := FA.out w hSw; go_simp; try with_reducible rfl)
        try simp only [Act.put, List.setIfInBounds_toArray, List.set_cons_zero, List.set_cons_succ]
        refine wpAnyH_take (i := 12) (oi := { dst := some 57, op := Op.binOp BinOp.sub 3 (Operand.tmp 51) (Operand.tmp 56) 3, type := 3, pos := "ref.go:126", after := #[{ on := 6, ground := Ground.data }, { on := 11, ground := Ground.data }], guard := none }) (v := .int .i64 (f' - t)) rfl (by kernel_rfl) (by kernel_rfl) (by kernel_rfl) (fun _ _ _ h => h) (Or.inl ⟨by rfl, ?yr13⟩) bu0 ?rr13
        case yr13 => (intro w hSw; go_simp; try with_reducible rfl)
        try simp only [Act.put, List.setIfInBounds_toArray, List.set_cons_zero, List.set_cons_succ]
        refine wpAnyH_take (i := 13) (oi := { dst := some 58, op := Op.binOp BinOp.sub 3 (Operand.tmp 57) (Operand.const (Value.int IntKind.i64 2)) 3, type := 3, pos := "ref.go:126", after := #[{ on := 12, ground := Ground.data }], guard := none }) (v := .int .i64 (f' - t - 2)) rfl (by kernel_rfl) (by kernel_rfl) (by kernel_rfl) (fun _ _ _ h => h) (Or.inl ⟨by rfl, ?yr14⟩) bu0 ?rr14
        case yr14 => (intro w hSw; go_simp; try with_reducible rfl)
        try simp only [Act.put, List.setIfInBounds_toArray, List.set_cons_zero, List.set_cons_succ]
        refine wpAnyH_ready (rs := [14]) (by kernel_rfl) (by simp) ?_
        refine AllReadyH.cons (o := { dst := some 59, op := Op.call { callee := Callee.value (Operand.func 19), args := #[Operand.tmp 58], argTypes := #[3] }, type := 34, pos := "ref.go:126", after := #[{ on := 13, ground := Ground.data }], guard := none }) rfl (fun KK hKK => ?_) ?_
        · go_simp
          refine (CN.out (f' - t - 2) _).mono ?_
          rintro e u15' ⟨v9, rfl, ou15, bu15'⟩
          obtain ⟨na, nc, rfl⟩ := ou15.shape
          (try go_wp2_with fail)
          refine hKK.out _ _ (bu0.trans (Below.mono (bu15') bu0.size)) (fun _ => ?_)
          clear hKK KK
          try simp only [Act.put, List.setIfInBounds_toArray, List.set_cons_zero, List.set_cons_succ]
          refine wpAnyH_name (fun u15 hu15 => ?_)
          have bu15 : Below w.heap.size w u15 := by rw [hu15.out]; exact (bu0.trans (Below.mono (bu15') bu0.size))
          have SZu15 : Sl u15 (.slice na (nB (f' - t - 2)).length nc) (nB (f' - t - 2)) := by rw [hu15.out]; exact ou15.sl
          have OXu15 := OXu0.below bu15'
          rw [← hu15.out] at OXu15
          refine wpAnyH_ready (rs := [15]) (by kernel_rfl) (by simp) ?_
          refine AllReadyH.cons (o := { dst := some 60, op := Op.call { callee := Callee.builtin Builtin.append, args := #[Operand.tmp 45, Operand.tmp 59], argTypes := #[34, 34] }, type := 34, pos := "ref.go:126", after := #[{ on := 0, ground := Ground.data }, { on := 14, ground := Ground.data }, { on := 14, ground := Ground.chain }], guard := none }) rfl (fun KK hKK => ?_) ?_
          · refine wp_append_ow _ _ rfl w.heap.size _ (F j) rfl OXu15 _ (nB (f' - t - 2)) rfl SZu15 (by have := HLJ.out; have := HN8.out (f' - t - 2); omega) bu15.size ?_
            intro v8 u16' o8 g8
            refine hKK.out _ _ (bu15.grown g8 bu15.size (own_base OXu15.1)) (fun _ => ?_)
            clear hKK KK
            try simp only [Act.put, List.setIfInBounds_toArray, List.set_cons_zero, List.set_cons_succ]
            refine wpAnyH_name (fun u16 hu16 => ?_)
            have bu16 : Below w.heap.size w u16 := by rw [hu16.out]; exact (bu15.grown g8 bu15.size (own_base OXu15.1))
            have OYu16 : Ow u16 w.heap.size v8 ((F j) ++ (nB (f' - t - 2))) := by rw [hu16.out]; exact o8
            clear o8 g8
            obtain ⟨ya, yn, yc, rfl, -⟩ := OYu16.shp
            refine wpAnyH_take (i := 16) (oi := { dst := some 6, op := Op.assign (Operand.tmp 60), type := 34, pos := "ref.go:126", after := #[{ on := 15, ground := Ground.data }, { on := 15, ground := Ground.chain }, { on := 0, ground := Ground.phase }, { on := 1, ground := Ground.phase }, { on := 2, ground := Ground.phase }, { on := 3, ground := Ground.phase }, { on := 4, ground := Ground.phase }, { on := 5, ground := Ground.phase }, { on := 6, ground := Ground.phase }, { on := 7, ground := Ground.phase }, { on := 8, ground := Ground.phase }, { on := 9, ground := Ground.phase }, { on := 10, ground := Ground.phase }, { on := 11, ground := Ground.phase }, { on := 12, ground := Ground.phase }, { on := 13, ground := Ground.phase }, { on := 14, ground := Ground.phase }, { on := 15, ground := Ground.phase }], guard := none }) (v := ?vr17) rfl (by kernel_rfl) (by kernel_rfl) (by kernel_rfl) (fun _ _ _ h => h) (Or.inl ⟨by rfl, ?yr17⟩) bu16 ?rr17
            case yr17 => (intro w hSw; go_simp; try with_reducible rfl)
            try simp only [Act.put, List.setIfInBounds_toArray, List.set_cons_zero, List.set_cons_succ]
            refine wpAnyH_done (by kernel_rfl) ?_ _
            have HB5 : Hid (Below w.heap.size w u16) := bu16
            have HO5 : Hid (Ow u16 w.heap.size (.slice ya yn yc) (F j ++ nB (f' - t - 2))) := OYu16
            have HLK : Hid ((F j ++ nB (f' - t - 2)).length ≤ 1040) := by unfold Hid; rw [List.length_append]; have := HLJ.out; have := HN8.out (f' - t - 2); omega
            clear OYu16
            obtain ⟨WS, rfl⟩ : ∃ WS, WS = u16 := ⟨_, rfl⟩
            go_upto_region 11 with fail
            refine wp_region_held_drew (S := From w) (by kernel_rfl) (Below.drew (HB5.out)) (fun _ => ?_)
            refine wpAnyH_name (fun u0 hu0 => ?_)
            have bu0 : Below w.heap.size w u0 := by rw [hu0.out]; exact Below.drew (HB5.out)
            have OXs0 : Ow u0 w.heap.size (.slice ya yn yc) (F j ++ nB (f' - t - 2)) := by rw [hu0.out]; exact HO5.out.below ((Below.refl _ _).drew)
            have OXu0 := OXs0
            refine wpAnyH_take (i := 0) (oi := { dst := some 61, op := Op.move (Operand.tmp 6), type := 34, pos := "ref.go:127", after := #[], guard := none }) (v := ?vs1) rfl (by kernel_rfl) (by kernel_rfl) (by kernel_rfl) (fun _ _ _ h => h) (Or.inl ⟨by rfl, ?ys1⟩) bu0 ?rs1
            case ys1 => (intro w hSw; go_simp; try with_reducible rfl)
            try simp only [Act.put, List.setIfInBounds_toArray, List.set_cons_zero, List.set_cons_succ]
            refine wpAnyH_take (i := 1) (oi := { dst := some 62, op := Op.move (Operand.tmp 0), type := 23, pos := "ref.go:127", after := #[], guard := none }) (v := ?vs2) rfl (by kernel_rfl) (by kernel_rfl) (by kernel_rfl) (fun _ _ _ h => h) (Or.inl ⟨by rfl, ?ys2⟩) bu0 ?rs2
            case ys2 => (intro w hSw; go_simp; try with_reducible rfl)
            try simp only [Act.put, List.setIfInBounds_toArray, List.set_cons_zero, List.set_cons_succ]
            refine wpAnyH_take (i := 2) (oi := { dst := some 63, op := Op.move (Operand.tmp 7), type := 3, pos := "ref.go:127", after := #[], guard := none }) (v := ?vs3) rfl (by kernel_rfl) (by kernel_rfl) (by kernel_rfl) (fun _ _ _ h => h) (Or.inl ⟨by rfl, ?ys3⟩) bu0 ?rs3
            case ys3 => (intro w hSw; go_simp; try with_reducible rfl)
            try simp only [Act.put, List.setIfInBounds_toArray, List.set_cons_zero, List.set_cons_succ]
            refine wpAnyH_take (i := 3) (oi := { dst := some 64, op := Op.indexAddr 23 (Operand.tmp 62) (Operand.tmp 63), type := 0, pos := "ref.go:127", after := #[{ on := 1, ground := Ground.data }, { on := 2, ground := Ground.data }], guard := none }) (v := ?vs4) rfl (by kernel_rfl) (by kernel_rfl) (by kernel_rfl) (fun _ _ _ h => h) (Or.inl ⟨by rfl, ?ys4⟩) bu0 ?rs4
            case ys4 => (intro w hSw; go_simp; try with_reducible rfl)
            try simp only [Act.put, List.setIfInBounds_toArray, List.set_cons_zero, List.set_cons_succ]
            refine wpAnyH_take (i := 4) (oi := { dst := some 65, op := Op.fieldAddr 89 (Operand.tmp 64) 1, type := 0, pos := "ref.go:127", after := #[{ on := 3, ground := Ground.data }], guard := none }) (v := ?vs5) rfl (by kernel_rfl) (by kernel_rfl) (by kernel_rfl) (fun _ _ _ h => h) (Or.inl ⟨by rfl, ?ys5⟩) bu0 ?rs5
            case ys5 => (intro w hSw; go_simp; try with_reducible rfl)
            try simp only [Act.put, List.setIfInBounds_toArray, List.set_cons_zero, List.set_cons_succ]
            refine wpAnyH_take (i := 5) (oi := { dst := some 66, op := Op.load 3 (Operand.tmp 65), type := 3, pos := "ref.go:127", after := #[{ on := 4, ground := Ground.data }], guard := none }) (v := .int .i64 t) rfl (by kernel_rfl) (by kernel_rfl) (by kernel_rfl) (fun _ _ _ h => h) (Or.inl ⟨by rfl, ?ys6⟩) bu0 ?rs6
            case ys6 => (intro w hSw; obtain ⟨k0, k1, k2⟩ := FA.out w hSw; go_simp; try with_reducible rfl)
            try simp only [Act.put, List.setIfInBounds_toArray, List.set_cons_zero, List.set_cons_succ]
            refine wpAnyH_take (i := 6) (oi := { dst := some 67, op := Op.move (Operand.tmp 0), type := 23, pos := "ref.go:127", after := #[], guard := none }) (v := ?vs7) rfl (by kernel_rfl) (by kernel_rfl) (by kernel_rfl) (fun _ _ _ h => h) (Or.inl ⟨by rfl, ?ys7⟩) bu0 ?rs7
            case ys7 => (intro w hSw; go_simp; try with_reducible rfl)
            try simp only [Act.put, List.setIfInBounds_toArray, List.set_cons_zero, List.set_cons_succ]
            refine wpAnyH_take (i := 7) (oi := { dst := some 68, op := Op.move (Operand.tmp 7), type := 3, pos := "ref.go:127", after := #[], guard := none }) (v := ?vs8) rfl (by kernel_rfl) (by kernel_rfl) (by kernel_rfl) (fun _ _ _ h => h) (Or.inl ⟨by rfl, ?ys8⟩) bu0 ?rs8
            case ys8 => (intro w hSw; go_simp; try with_reducible rfl)
            try simp only [Act.put, List.setIfInBounds_toArray, List.set_cons_zero, List.set_cons_succ]
            refine wpAnyH_take (i := 8) (oi := { dst := some 69, op := Op.indexAddr 23 (Operand.tmp 67) (Operand.tmp 68), type := 0, pos := "ref.go:127", after := #[{ on := 6, ground := Ground.data }, { on := 7, ground := Ground.data }], guard := none }) (v := ?vs9) rfl (by kernel_rfl) (by kernel_rfl) (by kernel_rfl) (fun _ _ _ h => h) (Or.inl ⟨by rfl, ?ys9⟩) bu0 ?rs9
            case ys9 => (intro w hSw; go_simp; try with_reducible rfl)
            try simp only [Act.put, List.setIfInBounds_toArray, List.set_cons_zero, List.set_cons_succ]
            refine wpAnyH_take (i := 9) (oi := { dst := some 70, op := Op.fieldAddr 89 (Operand.tmp 69) 0, type := 0, pos := "ref.go:127", after := #[{ on := 8, ground := Ground.data }], guard := none }) (v := ?vs10) rfl (by kernel_rfl) (by kernel_rfl) (by kernel_rfl) (fun _ _ _ h => h) (Or.inl ⟨by rfl, ?ys10⟩) bu0 ?rs10
            case ys10 => (intro w hSw; go_simp; try with_reducible rfl)
            try simp only [Act.put, List.setIfInBounds_toArray, List.set_cons_zero, List.set_cons_succ]
            refine wpAnyH_take (i := 10) (oi := { dst := some 71, op := Op.load 3 (Operand.tmp 70), type := 3, pos := "ref.go:127", after := #[{ on := 9, ground := Ground.data }], guard := none }) (v := .int .i64 f) rfl (by kernel_rfl) (by kernel_rfl) (by kernel_rfl) (fun _ _ _ h => h) (Or.inl ⟨by rfl, ?ys11⟩) bu0 ?rs11
            case ys11 => (intro w hSw; obtain ⟨k0, k1, k2⟩ := FA.out w hSw; go_simp; try with_reducible rfl)
            try simp only [Act.put, List.setIfInBounds_toArray, List.set_cons_zero, List.set_cons_succ]
            refine wpAnyH_take (i := 11) (oi := { dst := some 72, op := Op.binOp BinOp.sub 3 (Operand.tmp 66) (Operand.tmp 71) 3, type := 3, pos := "ref.go:127", after := #[{ on := 5, ground := Ground.data }, { on := 10, ground := Ground.data }], guard := none }) (v := .int .i64 (t - f)) rfl (by kernel_rfl) (by kernel_rfl) (by kernel_rfl) (fun _ _ _ h => h) (Or.inl ⟨by rfl, ?ys12⟩) bu0 ?rs12
            case ys12 => (intro w hSw; go_simp; try with_reducible rfl)
            try simp only [Act.put, List.setIfInBounds_toArray, List.set_cons_zero, List.set_cons_succ]
            refine wpAnyH_ready (rs := [12]) (by kernel_rfl) (by simp) ?_
            refine AllReadyH.cons (o := { dst := some 73, op := Op.call { callee := Callee.value (Operand.func 19), args := #[Operand.tmp 72], argTypes := #[3] }, type := 34, pos := "ref.go:127", after := #[{ on := 11, ground := Ground.data }], guard := none }) rfl (fun KK hKK => ?_) ?_
            · go_simp
              refine (CN.out (t - f) _).mono ?_
              rintro e u13' ⟨v9, rfl, ou13, bu13'⟩
              obtain ⟨na, nc, rfl⟩ := ou13.shape
              (try go_wp2_with fail)
              refine hKK.out _ _ (bu0.trans (Below.mono (bu13') bu0.size)) (fun _ => ?_)
              clear hKK KK
              try simp only [Act.put, List.setIfInBounds_toArray, List.set_cons_zero, List.set_cons_succ]
              refine wpAnyH_name (fun u13 hu13 => ?_)
              have bu13 : Below w.heap.size w u13 := by rw [hu13.out]; exact (bu0.trans (Below.mono (bu13') bu0.size))
              have SZu13 : Sl u13 (.slice na (nB (t - f)).length nc) (nB (t - f)) := by rw [hu13.out]; exact ou13.sl
              have OXu13 := OXu0.below bu13'
              rw [← hu13.out] at OXu13
              refine wpAnyH_ready (rs := [13]) (by kernel_rfl) (by simp) ?_
              refine AllReadyH.cons (o := { dst := some 74, op := Op.call { callee := Callee.builtin Builtin.append, args := #[Operand.tmp 61, Operand.tmp 73], argTypes := #[34, 34] }, type := 34, pos := "ref.go:127", after := #[{ on := 0, ground := Ground.data }, { on := 12, ground := Ground.data }, { on := 12, ground := Ground.chain }], guard := none }) rfl (fun KK hKK => ?_) ?_
              · refine wp_append_ow _ _ rfl w.heap.size _ (F j ++ nB (f' - t - 2)) rfl OXu13 _ (nB (t - f)) rfl SZu13 (by have := HLK.out; have := HN8.out (t - f); omega) bu13.size ?_
                intro v8 u14' o8 g8
                refine hKK.out _ _ (bu13.grown g8 bu13.size (own_base OXu13.1)) (fun _ => ?_)
                clear hKK KK
                try simp only [Act.put, List.setIfInBounds_toArray, List.set_cons_zero, List.set_cons_succ]
                refine wpAnyH_name (fun u14 hu14 => ?_)
                have bu14 : Below w.heap.size w u14 := by rw [hu14.out]; exact (bu13.grown g8 bu13.size (own_base OXu13.1))
                have OYu14 : Ow u14 w.heap.size v8 ((F j ++ nB (f' - t - 2)) ++ (nB (t - f))) := by rw [hu14.out]; exact o8
                clear o8 g8
                obtain ⟨ya, yn, yc, rfl, -⟩ := OYu14.shp
                refine wpAnyH_take (i := 14) (oi := { dst := some 6, op := Op.assign (Operand.tmp 74), type := 34, pos := "ref.go:127", after := #[{ on := 13, ground := Ground.data }, { on := 13, ground := Ground.chain }, { on := 0, ground := Ground.phase }, { on := 1, ground := Ground.phase }, { on := 2, ground := Ground.phase }, { on := 3, ground := Ground.phase }, { on := 4, ground := Ground.phase }, { on := 5, ground := Ground.phase }, { on := 6, ground := Ground.phase }, { on := 7, ground := Ground.phase }, { on := 8, ground := Ground.phase }, { on := 9, ground := Ground.phase }, { on := 10, ground := Ground.phase }, { on := 11, ground := Ground.phase }, { on := 12, ground := Ground.phase }, { on := 13, ground := Ground.phase }], guard := none }) (v := ?vs15) rfl (by kernel_rfl) (by kernel_rfl) (by kernel_rfl) (fun _ _ _ h => h) (Or.inl ⟨by rfl, ?ys15⟩) bu14 ?rs15
                case ys15 => (intro w hSw; go_simp; try with_reducible rfl)
                try simp only [Act.put, List.setIfInBounds_toArray, List.set_cons_zero, List.set_cons_succ]
                refine wpAnyH_done (by kernel_rfl) ?_ _
                have HZ : Hid (Ow u14 w.heap.size (.slice ya yn yc) (F (j + 1)) ∧ Below w.heap.size w u14) := ⟨by rw [HFJ.out]; exact OYu14, bu14⟩
                clear CN FA HO5
                go_wp2
                have w9 := HW9.out
                go_roundw
                case rel => exact ⟨j + 1, by have := HI.out; omega, by have := HE.out; rw [w9]; go_num, HZ.out.1, HZ.out.2⟩
                case measure => have := HI.out; have w9 := HW9.out; simp [intOf, w9]; try omega
              exact AllReadyH.nil
            exact AllReadyH.nil
          exact AllReadyH.nil
        exact AllReadyH.nil
      · obtain rfl : j = m := by omega
        have ei : (j : Int) - 1 - (j : Int) = -1 := by omega
        have lt2 : ¬ (0 : Int) ≤ (-1 : Int) := by omega
        rw [ei]
        have HS : Hid (Sl wr u6 PB) := by unfold Hid; rw [← HFE.out]; exact OJ.out.sl
        obtain ⟨aj, cj, rfl⟩ := OJ.out.shape
        clear OJ HFS HFE HFL FR HBD HRS
        generalize (F j).length = LJ at *
        go_wp2
        exact bodyPost_ret (results_tmp2 rfl _ _ _) rfl ⟨_, rfl, HS.out, HB.out⟩
end Go.Proofs.YtmplpdjkhdaniaaGreatDoor
