/-
  What lastTo, asks, IndexFunc, ContainsFunc, sampleOf answer.
-/
import Derived.Test.YtamjbmbflllbfaaLi
namespace Go.Proofs.Ytamjbmbflllbfaa
open Go.RowKit Go.Shelf
set_option maxRecDepth 100000

theorem lastTo_any (w : World) (v : Value) (l : List Sp) (hv : SSp w v l) (hl : l ≠ []) (hn : l.length ≤ 1000) :
    Calls Try.prog 35 #[v] w fun e w' => e = .returned (.int .i64 (lstT l)) ∧ ∃ m, w' = w.drewN m := by
  have hp := List.length_pos_iff.2 hl
  obtain ⟨a, c, rfl, -⟩ := hv.shape
  obtain ⟨bb, off, rfl, hr⟩ := hv.at (l.length - 1) (by omega)
  obtain ⟨k0, k1⟩ := spC hr
  have x2 : IntKind.i64.wrap ((l.length : Int) - 1) = ((l.length - 1 : Nat) : Int) := by rw [IntKind.wrap_i64]; omega
  have x3 : (l.length : Int) - 1 = ((l.length - 1 : Nat) : Int) := by omega
  have x4 : ((l.length - 1 : Nat) : Int) < (l.length : Int) := by omega
  have HR : Hid (lstT l = (atS l (l.length - 1)).2) := rfl
  clear hv hr hl
  generalize lstT l = R at *
  generalize atS l (l.length - 1) = x at *
  generalize l.length = n9 at *
  go_enter Try.func35, Try.ntmps35
  first
  | (go_wp2
     go_ret
     exact ⟨by rw [HR.out]; rfl, 0, rfl⟩)
  | (go_wp2_with fail
     go_quiet (fail)
     go_wp2
     go_ret
     exact ⟨by rw [HR.out]; rfl, _, rfl⟩)
set_option maxHeartbeats 1000000 in
theorem asks_any (w : World) (p : Pk) : Calls Try.prog 39 #[p.v] w fun e w' => e = .returned (.bool p.a) ∧ Below w.heap.size w w' := by
  have HB : Hid (Below w.heap.size w (w.alloc (.cells #[.int .i64 p.n, .int .i64 p.t, .int .i64 p.z, .bool p.a] 48))) := al_b _ _
  go_enter Try.func39, Try.ntmps39
  go_wp2
  go_ret
  exact ⟨rfl, HB.out⟩
/-- Where one that asks stands, or -1. -/
def idxI (l : List Pk) : Int := if oldI l < l.length then (oldI l : Int) else -1
set_option maxHeartbeats 2000000 in
theorem idx_any (w : World) (v : Value) (l : List Pk) (hv : PS w v l) (hn : l.length ≤ 100000) :
    Calls Try.prog 38 #[v, .func (.func 39) #[] #[]] w fun e w' => e = .returned (.int .i64 (idxI l)) ∧ Below w.heap.size w w' := by
  obtain ⟨a, c, rfl, -⟩ := hv.shape
  have HAT : Hid (∀ j, j < l.length → ∀ W, Below w.heap.size w W → ∃ b off, a = some ⟨b, off, none⟩ ∧ PC W b (off + j * 4) (atP l j)) := fun j hj W hb => (hv.kept hb).at j hj
  have HYES : Hid (∀ i, i < l.length → (atP l i).a = true → (∀ k, k < i → (atP l k).a = false) → idxI l = i) := fun i hi h1 h2 => by
    unfold idxI
    rw [oldI_is hi h1 h2, if_pos hi]
  have HNO : Hid ((∀ k, k < l.length → (atP l k).a = false) → idxI l = -1) := fun h => by
    unfold idxI
    rw [oldI_none h, if_neg (by omega)]
  clear hv
  generalize idxI l = R at *
  obtain ⟨n9, hn9⟩ : ∃ n9, n9 = l.length := ⟨_, rfl⟩
  rw [← hn9] at HAT HYES HNO hn ⊢
  clear hn9
  go_enter Try.func38, Try.ntmps38
  go_wp2
  go_loopw [8] (fun u wr => ∃ i : Nat, i ≤ n9 ∧ u = .int .i64 i ∧ (∀ k, k < i → (atP l k).a = false) ∧ Below w.heap.size w wr) (fun u _ => n9 - (intOf u).toNat)
  case atStart => exact ⟨0, by omega, rfl, fun k hk => by omega, Below.refl _ _⟩
  case round =>
    obtain ⟨i, hi, rfl, hk, bel⟩ := hrel
    have HB : Hid (Below w.heap.size w wr) := bel
    have HK : Hid (∀ k, k < i → (atP l k).a = false) := hk
    clear bel hk
    by_cases hin : i < n9
    · have lt2 : (i : Int) < (n9 : Int) := by omega
      obtain ⟨b, off, rfl, c0, c1, c2, c3⟩ := HAT.out i hin wr HB.out
      have HYY : Hid ((atP l i).a = true → R = i) := fun h => HYES.out i hin h HK.out
      have HNN : Hid ((atP l i).a = false → ∀ k, k < i + 1 → (atP l k).a = false) := fun h k hk => by
        rcases Nat.lt_or_ge k i with h' | h'
        · exact HK.out k h'
        · rw [show k = i by omega]; exact h
      have ca := asks_any wr (atP l i)
      have l0 : (0 : Int) ≤ (i : Int) := by omega
      generalize atP l i = p at *
      cases hp : p.a with
      | true =>
        rw [hp] at ca
        have HR : Hid (R = i) := HYY.out hp
        clear HYY HNN hp
        go_wp2_with fail
        refine ca.mono ?_
        rintro e w2 ⟨rfl, b2⟩
        have B2 : Hid (Below w.heap.size w w2) := HB.out.trans (b2.mono HB.out.size)
        clear ca b2
        go_wp2
        go_ret
        exact ⟨by rw [HR.out]; rfl, B2.out⟩
      | false =>
        rw [hp] at ca
        have HKN : Hid (∀ k, k < i + 1 → (atP l k).a = false) := HNN.out hp
        clear HYY HNN hp
        go_wp2_with fail
        refine ca.mono ?_
        rintro e w2 ⟨rfl, b2⟩
        have B2 : Hid (Below w.heap.size w w2) := HB.out.trans (b2.mono HB.out.size)
        clear ca b2
        go_wp2
        go_roundw
        case rel => exact ⟨i + 1, by omega, by go_num, HKN.out, B2.out⟩
        case measure => simp [intOf]; omega
    · obtain rfl : i = n9 := by omega
      have lt2 : ¬ (i : Int) < (i : Int) := by omega
      have HR : Hid (R = -1) := HNO.out HK.out
      go_wp2
      go_ret
      exact ⟨by rw [HR.out]; rfl, HB.out⟩
set_option maxHeartbeats 1000000 in
theorem contains_any (w : World) (v : Value) (l : List Pk) (hv : PS w v l) (hn : l.length ≤ 100000) :
    Calls Try.prog 48 #[v, .func (.func 39) #[] #[]] w fun e w' => e = .returned (.bool (l.any (·.a))) ∧ Below w.heap.size w w' := by
  have ci := idx_any w v l hv hn
  obtain ⟨a, c, rfl, -⟩ := hv.shape
  have HE : Hid (l.any (·.a) = decide (0 ≤ idxI l)) := by
    unfold Hid idxI
    rw [oldI_any]
    split
    · next h => rw [decide_eq_true h, decide_eq_true (by omega)]
    · next h => rw [decide_eq_false h, decide_eq_false (by omega)]
  clear hv
  generalize l.any (·.a) = R at *
  generalize idxI l = k at *
  generalize l.length = n9 at *
  go_enter Try.func48, Try.ntmps48
  go_wp2_with fail
  refine ci.mono ?_
  rintro e w2 ⟨rfl, b2⟩
  have B2 : Hid (Below w.heap.size w w2) := b2
  clear ci b2
  go_wp2
  go_ret
  exact ⟨by rw [HE.out]; rfl, B2.out⟩
set_option maxHeartbeats 2000000 in
theorem sampleOf_any (w : World) (v : Value) (l : List Pk) (to_ now : Int) (hv : PS w v l) (hn : l.length ≤ 1024) (h0 : 0 ≤ now) (h1 : now ≤ 1099511627776) (hb : ∀ p ∈ l, 0 ≤ p.t ∧ p.t ≤ 1099511627776) :
    Calls Try.prog 36 #[v, .int .i64 to_, .int .i64 now] w fun e w' => e = .returned (.tuple #[.int .i64 (smp l to_ now).1, .bool (smp l to_ now).2]) ∧ Below w.heap.size w w' := by
  have cc := contains_any w v l hv (by omega)
  obtain ⟨a, c, rfl, -⟩ := id hv.shape
  cases ha : l.any (·.a) with
  | false =>
    rw [ha] at cc
    have e : smp l to_ now = (0, false) := by unfold smp; rw [ha, if_neg (fun h => by cases h.1)]
    rw [e]
    clear hv hb e ha
    generalize l.length = n9 at *
    go_enter Try.func36, Try.ntmps36
    go_wp2_with fail
    refine cc.mono ?_
    rintro e w2 ⟨rfl, b2⟩
    have B2 : Hid (Below w.heap.size w w2) := b2
    clear cc b2
    go_wp2
    exact bodyPost_ret (results_tmp2 rfl _ _ _) rfl ⟨rfl, B2.out⟩
  | true =>
    rw [ha] at cc
    have hp : 0 < l.length := by
      rcases Nat.eq_zero_or_pos l.length with h | h
      · rw [List.length_eq_zero_iff.1 h] at ha; cases ha
      · exact h
    have HAT : Hid (∀ W, Below w.heap.size w W → ∃ b off, a = some ⟨b, off, none⟩ ∧ PC W b (off + (l.length - 1) * 4) (atP l (l.length - 1))) := fun W hb => (hv.kept hb).at _ (by omega)
    obtain ⟨y0, y1⟩ := hb _ (atP_mem l (l.length - 1) (by omega))
    have HS : Hid (smp l to_ now = if (atP l (l.length - 1)).n = to_ then (now - (atP l (l.length - 1)).t, true) else (0, false)) := by
      unfold Hid smp
      rw [ha]
      simp
    have x2 : IntKind.i64.wrap ((l.length : Int) - 1) = ((l.length - 1 : Nat) : Int) := by rw [IntKind.wrap_i64]; omega
    have x3 : (l.length : Int) - 1 = ((l.length - 1 : Nat) : Int) := by omega
    have x4 : ((l.length - 1 : Nat) : Int) < (l.length : Int) := by omega
    have x5 : IntKind.i64.wrap (now - (atP l (l.length - 1)).t) = now - (atP l (l.length - 1)).t := by rw [IntKind.wrap_i64]; omega
    clear hv hb ha
    generalize smp l to_ now = S at *
    generalize atP l (l.length - 1) = p at *
    obtain ⟨n9, hn9⟩ : ∃ n9, n9 = l.length := ⟨_, rfl⟩
    rw [← hn9] at cc hp HAT x2 x3 x4 hn ⊢
    clear hn9
    by_cases he : p.n = to_
    · have HS2 : Hid (S = (now - p.t, true)) := by unfold Hid; rw [HS.out, if_pos he]
      clear HS
      go_enter Try.func36, Try.ntmps36
      go_wp2_with fail
      refine cc.mono ?_
      rintro e w2 ⟨rfl, b2⟩
      have B2 : Hid (Below w.heap.size w w2) := b2
      obtain ⟨b, off, rfl, c0, c1, c2, c3⟩ := HAT.out w2 b2
      have t1 : (p.n != to_) = false := by simp [he]
      clear cc b2
      go_wp2
      exact bodyPost_ret (results_tmp2 rfl _ _ _) rfl ⟨by rw [HS2.out]; rfl, B2.out⟩
    · have HS2 : Hid (S = (0, false)) := by unfold Hid; rw [HS.out, if_neg he]
      clear HS
      go_enter Try.func36, Try.ntmps36
      go_wp2_with fail
      refine cc.mono ?_
      rintro e w2 ⟨rfl, b2⟩
      have B2 : Hid (Below w.heap.size w w2) := b2
      obtain ⟨b, off, rfl, c0, c1, c2, c3⟩ := HAT.out w2 b2
      have t1 : (p.n != to_) = true := by simp [he]
      clear cc b2
      go_wp2
      exact bodyPost_ret (results_tmp2 rfl _ _ _) rfl ⟨by rw [HS2.out]; rfl, B2.out⟩
end Go.Proofs.Ytamjbmbflllbfaa
