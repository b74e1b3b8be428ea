/-
  Of packets sent one behind the other one came, plainly.
-/
import Derived.Test.YtamjbmbflllbfaaFr
namespace Go.Proofs.Ytamjbmbflllbfaa
open Go.RowKit
set_option maxRecDepth 100000

theorem filt_all {f : Pk → Bool} {l : List Pk} (h : ∀ p ∈ l, f p = true) : l.filter f = l := List.filter_eq_self.2 h
theorem filt_nil {f : Pk → Bool} {l : List Pk} (h : ∀ p ∈ l, f p = false) : l.filter f = [] := List.filter_eq_nil_iff.2 fun p hp => by rw [h p hp]; exact Bool.false_ne_true
theorem fly_iv (t z : Int) (a : Nat) : ∀ m, fly (iv t z a m) = z * (m : Int)
  | 0 => by simp [iv, fly]
  | m + 1 => by
    rw [iv_app, fly_app, fly_iv t z a m, iv_one]
    simp only [fly, if_true]
    rw [show ((m + 1 : Nat) : Int) = (m : Int) + 1 by omega, Int.mul_add]
    omega
theorem chk_one {k : Int} (h0 : 0 ≤ k) (h1 : k ≤ 1099511627776) : chkL [(k, k)] = 0 := by
  unfold chkL
  rw [if_neg (by simp), if_neg]
  rintro (e | e)
  · cases e
  · exact e (setL_canon (Canon.one (by unfold Okk; simp only; omega)))
theorem lst_one (k : Int) : lstT [(k, k)] = k := rfl
theorem in_one (k n : Int) : inS [(k, k)] n = decide (n = k) := by
  unfold inS
  rw [Bool.eq_iff_iff]
  simp only [List.any_cons, List.any_nil, Bool.or_false, Bool.and_eq_true, decide_eq_true_eq]
  omega
/-- The parts: far below, just below, above. -/
structure P3 (n k : Nat) (t : Int) : Prop where
  c0 : comE (stT 5 10 n) [((k : Int), (k : Int))] 5 = 0
  ag : ackG (stT 5 10 n) [((k : Int), (k : Int))] 5 = [⟨(k : Int), 5, 10, true⟩]
  ar : ackR (stT 5 10 n) [((k : Int), (k : Int))] 5 = (0, true)
  an : ackN (stT 5 10 n) [((k : Int), (k : Int))] 5 = ⟨iv 5 10 0 (k - 2) ++ (iv 5 10 (k - 2) (k - (k - 2)) ++ iv 5 10 (k + 1) (n - 1 - k)), (n : Int) - 1, 5, (k : Int)⟩
  l1 : lostP ⟨iv 5 10 0 (k - 2) ++ (iv 5 10 (k - 2) (k - (k - 2)) ++ iv 5 10 (k + 1) (n - 1 - k)), (n : Int) - 1, 5, (k : Int)⟩ 5 t = iv 5 10 0 (k - 2)
  s1 : lostL ⟨iv 5 10 0 (k - 2) ++ (iv 5 10 (k - 2) (k - (k - 2)) ++ iv 5 10 (k + 1) (n - 1 - k)), (n : Int) - 1, 5, (k : Int)⟩ 5 t = ⟨iv 5 10 (k - 2) (k - (k - 2)) ++ iv 5 10 (k + 1) (n - 1 - k), (n : Int) - 1, 5, (k : Int)⟩
  l2 : lostP ⟨iv 5 10 (k - 2) (k - (k - 2)) ++ iv 5 10 (k + 1) (n - 1 - k), (n : Int) - 1, 5, (k : Int)⟩ (4 + t) t = []
  s2 : lostL ⟨iv 5 10 (k - 2) (k - (k - 2)) ++ iv 5 10 (k + 1) (n - 1 - k), (n : Int) - 1, 5, (k : Int)⟩ (4 + t) t = ⟨iv 5 10 (k - 2) (k - (k - 2)) ++ iv 5 10 (k + 1) (n - 1 - k), (n : Int) - 1, 5, (k : Int)⟩
  l3 : lostP ⟨iv 5 10 (k - 2) (k - (k - 2)) ++ iv 5 10 (k + 1) (n - 1 - k), (n : Int) - 1, 5, (k : Int)⟩ (5 + t) t = iv 5 10 (k - 2) (k - (k - 2))
  s3 : lostL ⟨iv 5 10 (k - 2) (k - (k - 2)) ++ iv 5 10 (k + 1) (n - 1 - k), (n : Int) - 1, 5, (k : Int)⟩ (5 + t) t = ⟨iv 5 10 (k + 1) (n - 1 - k), (n : Int) - 1, 5, (k : Int)⟩
theorem lost_yes {s : Lg} {now late : Int} (h : (tm now && tm late) = true) : lostP s now late = s.o.filter (lstF s.g now late) ∧ lostL s now late = ⟨s.o.filter (fun p => !lstF s.g now late p), s.n, s.t, s.g⟩ := by
  unfold lostP lostL tkL
  rw [h]
  exact ⟨rfl, rfl⟩
theorem p3 {n k : Nat} {t : Int} (hk : k < n) (hn : n ≤ 60) (t0 : 1 ≤ t) (t1 : t ≤ 1000) : P3 n k t := by
  have e0 : iv 5 10 0 n = iv 5 10 0 (k - 2) ++ (iv 5 10 (k - 2) (k - (k - 2)) ++ ([⟨(k : Int), 5, 10, true⟩] ++ iv 5 10 (k + 1) (n - 1 - k))) := by
    rw [show n = (k - 2) + ((k - (k - 2)) + (1 + (n - 1 - k))) by omega, iv_app, iv_app, iv_app, iv_one]
    simp only [Nat.zero_add]
    rw [show k - 2 + (k - (k - 2)) = k by omega, show k - 2 + (k - (k - 2) + (1 + (n - 1 - k))) - 1 - k = n - 1 - k by omega]
  have A : ∀ p ∈ iv 5 10 0 (k - 2), p.n + 3 ≤ (k : Int) ∧ p.t = 5 := fun p hp => by have := iv_mem hp; omega
  have Bm : ∀ p ∈ iv 5 10 (k - 2) (k - (k - 2)), (k : Int) - 2 ≤ p.n ∧ p.n < (k : Int) ∧ p.t = 5 := fun p hp => by have := iv_mem hp; omega
  have D : ∀ p ∈ iv 5 10 (k + 1) (n - 1 - k), (k : Int) < p.n ∧ p.t = 5 := fun p hp => by have := iv_mem hp; omega
  have hc : comE (stT 5 10 n) [((k : Int), (k : Int))] 5 = 0 := by
    unfold comE
    rw [if_neg (fun e => e (chk_one (by omega) (by omega))), lst_one, if_neg (by show ¬ (n : Int) - 1 < (k : Int); omega), if_neg]
    show ¬ (5 < (if n = 0 then 0 else (5 : Int)) ∨ 1099511627776 < (5 : Int))
    rw [if_neg (by omega)]
    omega
  have hg : gotP (stT 5 10 n) [((k : Int), (k : Int))] = [⟨(k : Int), 5, 10, true⟩] := by
    unfold gotP
    show (iv 5 10 0 n).filter _ = _
    rw [e0, List.filter_append, List.filter_append, List.filter_append, filt_nil (l := iv 5 10 0 (k - 2)), filt_nil (l := iv 5 10 (k - 2) (k - (k - 2))), filt_nil (l := iv 5 10 (k + 1) (n - 1 - k)), filt_all (l := [_])]
    · simp
    · intro p hp; rw [List.mem_singleton.1 hp, in_one]; simp
    · intro p hp; rw [in_one]; have := D p hp; exact decide_eq_false (by omega)
    · intro p hp; rw [in_one]; have := Bm p hp; exact decide_eq_false (by omega)
    · intro p hp; rw [in_one]; have := A p hp; exact decide_eq_false (by omega)
  have ht : tm 5 = true := by decide
  have ht1 : tm t = true := tm_iff.2 (by omega)
  have ht2 : tm (4 + t) = true := tm_iff.2 (by omega)
  have ht3 : tm (5 + t) = true := tm_iff.2 (by omega)
  have LF : ∀ now (p : Pk), lstF (k : Int) now t p = (decide (p.n ≤ (k : Int) - 3) || (decide (p.n < (k : Int)) && decide (p.t ≤ now - t))) := fun _ _ => rfl
  refine ⟨hc, ?_, ?_, ?_, ?_, ?_, ?_, ?_, ?_, ?_⟩
  · unfold ackG; rw [if_pos hc, hg]
  · unfold ackR
    rw [if_pos hc]
    unfold ackS
    rw [hg, lst_one, if_pos (show (stT 5 10 n).g < (k : Int) by show (-1 : Int) < k; omega)]
    unfold smp
    rw [if_pos ⟨rfl, rfl⟩]
    rfl
  · unfold ackN
    rw [if_pos hc]
    unfold ackL
    rw [lst_one]
    show (⟨(iv 5 10 0 n).filter _, (n : Int) - 1, (if n = 0 then 0 else (5 : Int)), max (-1) (k : Int)⟩ : Lg) = _
    rw [if_neg (by omega), Int.max_eq_right (by omega), e0, List.filter_append, List.filter_append, List.filter_append, filt_all (l := iv 5 10 0 (k - 2)), filt_all (l := iv 5 10 (k - 2) (k - (k - 2))), filt_all (l := iv 5 10 (k + 1) (n - 1 - k)), filt_nil (l := [_])]
    · simp
    · intro p hp; rw [List.mem_singleton.1 hp, in_one]; simp
    · intro p hp; rw [in_one]; have := D p hp; rw [decide_eq_false (show ¬ p.n = (k : Int) by omega)]; rfl
    · intro p hp; rw [in_one]; have := Bm p hp; rw [decide_eq_false (show ¬ p.n = (k : Int) by omega)]; rfl
    · intro p hp; rw [in_one]; have := A p hp; rw [decide_eq_false (show ¬ p.n = (k : Int) by omega)]; rfl
  · rw [(lost_yes (by rw [ht, ht1]; rfl)).1, List.filter_append, List.filter_append, filt_all (l := iv 5 10 0 (k - 2)), filt_nil (l := iv 5 10 (k - 2) (k - (k - 2))), filt_nil (l := iv 5 10 (k + 1) (n - 1 - k))]
    · simp
    · intro p hp; have := D p hp; rw [LF, decide_eq_false (show ¬ p.n ≤ (k : Int) - 3 by omega), decide_eq_false (show ¬ p.n < (k : Int) by omega)]; rfl
    · intro p hp; have := Bm p hp; rw [LF, decide_eq_false (show ¬ p.n ≤ (k : Int) - 3 by omega), decide_eq_false (show ¬ p.t ≤ 5 - t by omega)]; simp
    · intro p hp; have := A p hp; rw [LF, decide_eq_true (show p.n ≤ (k : Int) - 3 by omega)]; rfl
  · rw [(lost_yes (by rw [ht, ht1]; rfl)).2, List.filter_append, List.filter_append, filt_nil (l := iv 5 10 0 (k - 2)), filt_all (l := iv 5 10 (k - 2) (k - (k - 2))), filt_all (l := iv 5 10 (k + 1) (n - 1 - k))]
    · simp
    · intro p hp; have := D p hp; rw [LF, decide_eq_false (show ¬ p.n ≤ (k : Int) - 3 by omega), decide_eq_false (show ¬ p.n < (k : Int) by omega)]; rfl
    · intro p hp; have := Bm p hp; rw [LF, decide_eq_false (show ¬ p.n ≤ (k : Int) - 3 by omega), decide_eq_false (show ¬ p.t ≤ 5 - t by omega)]; simp
    · intro p hp; have := A p hp; rw [LF, decide_eq_true (show p.n ≤ (k : Int) - 3 by omega)]; rfl
  · rw [(lost_yes (by rw [ht2, ht1]; rfl)).1, List.filter_append, filt_nil (l := iv 5 10 (k - 2) (k - (k - 2))), filt_nil (l := iv 5 10 (k + 1) (n - 1 - k))]
    · rfl
    · intro p hp; have := D p hp; rw [LF, decide_eq_false (show ¬ p.n ≤ (k : Int) - 3 by omega), decide_eq_false (show ¬ p.n < (k : Int) by omega)]; rfl
    · intro p hp; have := Bm p hp; rw [LF, decide_eq_false (show ¬ p.n ≤ (k : Int) - 3 by omega), decide_eq_false (show ¬ p.t ≤ 4 + t - t by omega)]; simp
  · rw [(lost_yes (by rw [ht2, ht1]; rfl)).2, List.filter_append, filt_all (l := iv 5 10 (k - 2) (k - (k - 2))), filt_all (l := iv 5 10 (k + 1) (n - 1 - k))]
    · intro p hp; have := D p hp; rw [LF, decide_eq_false (show ¬ p.n ≤ (k : Int) - 3 by omega), decide_eq_false (show ¬ p.n < (k : Int) by omega)]; rfl
    · intro p hp; have := Bm p hp; rw [LF, decide_eq_false (show ¬ p.n ≤ (k : Int) - 3 by omega), decide_eq_false (show ¬ p.t ≤ 4 + t - t by omega)]; simp
  · rw [(lost_yes (by rw [ht3, ht1]; rfl)).1, List.filter_append, filt_all (l := iv 5 10 (k - 2) (k - (k - 2))), filt_nil (l := iv 5 10 (k + 1) (n - 1 - k))]
    · simp
    · intro p hp; have := D p hp; rw [LF, decide_eq_false (show ¬ p.n ≤ (k : Int) - 3 by omega), decide_eq_false (show ¬ p.n < (k : Int) by omega)]; rfl
    · intro p hp; have := Bm p hp; rw [LF, decide_eq_true (show p.n < (k : Int) by omega), decide_eq_true (show p.t ≤ 5 + t - t by omega)]; simp
  · rw [(lost_yes (by rw [ht3, ht1]; rfl)).2, List.filter_append, filt_nil (l := iv 5 10 (k - 2) (k - (k - 2))), filt_all (l := iv 5 10 (k + 1) (n - 1 - k))]
    · simp
    · intro p hp; have := D p hp; rw [LF, decide_eq_false (show ¬ p.n ≤ (k : Int) - 3 by omega), decide_eq_false (show ¬ p.n < (k : Int) by omega)]; rfl
    · intro p hp; have := Bm p hp; rw [LF, decide_eq_true (show p.n < (k : Int) by omega), decide_eq_true (show p.t ≤ 5 + t - t by omega)]; simp
end Go.Proofs.Ytamjbmbflllbfaa
