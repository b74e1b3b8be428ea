/-
  What the document's Check, Kept, Join and Less answer.
-/
import Derived.Test.YtcenchnmibdebaaDoorRs
namespace Go.Proofs.YtcenchnmibdebaaDoor
open Go.RowKit
set_option maxRecDepth 100000

set_option maxHeartbeats 1000000 in
theorem rpcheck_any (s : ByteArray) (w : World) (hs : s.size ≤ maxLen) :
    Calls Tryd.prog 36 #[.string s] w fun e w' => e = .returned (.int .i64 (chk (dl s))) ∧ Below w.heap.size w w' := by
  by_cases h1 : 128 < s.size
  · have hr : Hid (chk (dl s) = 5) := chk_long _ h1
    have h1' : 128 < (s.size : Int) := by omega
    generalize chk (dl s) = r at *
    go_enter Tryd.func36, Tryd.ntmps36
    go_wp2
    go_ret
    exact ⟨by rw [hr.out]; rfl, Below.refl _ _⟩
  have h1' : ¬ 128 < (s.size : Int) := by omega
  have c := rsplit_any s w (by omega)
  have HL : Hid ((sps s).length = (spl (dl s)).length) := sps_len s
  have HN : Hid (∀ (w : World) (j : Nat), Calls Tryd.prog 55 #[.string ((sps s).getD j ⟨#[]⟩)] w fun e w' => e = .returned (.bool (nameB ((spl (dl s)).getD j []))) ∧ w' = w) := fun w j => by
    have := rname_any ((sps s).getD j ⟨#[]⟩) w (by have := sps_size s j; omega)
    rwa [sps_get] at this
  have HBAD : Hid (∀ j, j < (spl (dl s)).length → nameB ((spl (dl s)).getD j []) = false → chk (dl s) = 6) := fun j hj hn => chk_bad _ (by rw [dl_len]; omega) j hj hn
  have HGOOD : Hid ((spl (dl s)).length ≠ 0 → (∀ j, j < (spl (dl s)).length → nameB ((spl (dl s)).getD j []) = true) → chk (dl s) = if 8 < (spl (dl s)).length then 5 else 0) := chk_good _ (by rw [dl_len]; omega)
  have HNIL : Hid ((spl (dl s)).length = 0 → chk (dl s) = 6) := fun h => by
    have h2 := (spl_nil_iff (dl s)).1 (List.length_eq_zero_iff.1 h)
    rw [h2]
    rfl
  have hlen := spl_len (dl s)
  rw [dl_len] at hlen
  generalize chk (dl s) = r at *
  generalize sps s = xs at *
  obtain ⟨NB, hNB⟩ : ∃ NB : Nat → Bool, NB = fun j => nameB ((spl (dl s)).getD j []) := ⟨_, rfl⟩
  have HN : Hid (∀ (w : World) (j : Nat), Calls Tryd.prog 55 #[.string (xs.getD j ⟨#[]⟩)] w fun e w' => e = .returned (.bool (NB j)) ∧ w' = w) := by rw [hNB]; exact HN.out
  have HBAD : Hid (∀ j, j < (spl (dl s)).length → NB j = false → r = 6) := by rw [hNB]; exact HBAD.out
  have HGOOD : Hid ((spl (dl s)).length ≠ 0 → (∀ j, j < (spl (dl s)).length → NB j = true) → r = if 8 < (spl (dl s)).length then 5 else 0) := by rw [hNB]; exact HGOOD.out
  clear hNB
  generalize (spl (dl s)).length = n at *
  go_enter Tryd.func36, Tryd.ntmps36
  go_wp2_with fail
  refine c.mono ?_
  rintro e w1 ⟨v, rfl, ss, b1⟩
  clear c
  have HS : Hid (SS w1 v xs) := ss
  have HB : Hid (Below w.heap.size w w1) := b1
  obtain ⟨a, cp, rfl, hcp⟩ := ss.shape
  rw [HL.out] at HS hcp ⊢
  clear ss b1
  go_wp2_with fail
  go_loop [4] (fun q => ∃ j : Nat, j ≤ n ∧ q = .int .i64 j ∧ ∀ k, k < j → NB k = true) (fun q => n - (intOf q).toNat)
  case atStart => exact ⟨0, by omega, rfl, fun k hk => by omega⟩
  case round =>
    obtain ⟨j, hj, rfl, ok⟩ := hrel
    have OK : Hid (∀ k, k < j → NB k = true) := ok
    clear ok
    by_cases hlt : j < n
    · have lt2 : (j : Int) < (n : Int) := by omega
      obtain ⟨b, off, rfl, hc⟩ := HS.out.at j (by rw [HL.out]; exact hlt)
      have c := HN.out w1 j
      have NK : Hid (NB j = true → ∀ k, k < j + 1 → NB k = true) := fun h k hk => by
        rcases Nat.lt_or_ge k j with h' | h'
        · exact OK.out k h'
        · rw [show k = j by omega]; exact h
      have HF2 : Hid (NB j = false → r = 6) := HBAD.out j hlt
      have q1 : IntKind.i64.wrap ((j : Int) + 1) = ((j + 1 : Nat) : Int) := by simp [IntKind.wrap, IntKind.bits, IntKind.signed]; omega
      generalize xs.getD j ⟨#[]⟩ = x at *
      cases hb : NB j with
      | true =>
        have NK2 : Hid (∀ k, k < j + 1 → NB k = true) := NK.out hb
        rw [hb] at c
        clear NK hb HF2 OK
        go_wp2_with (go_at_call 55; refine c.mono ?_; rintro e w' ⟨rfl, rfl⟩)
        exact ⟨⟨j + 1, by omega, by go_num, NK2.out⟩, by simp [intOf]; omega⟩
      | false =>
        have hr : Hid (r = 6) := HF2.out hb
        rw [hb] at c
        clear NK hb HF2 OK
        go_wp2_with (go_at_call 55; refine c.mono ?_; rintro e w' ⟨rfl, rfl⟩)
        go_ret
        exact ⟨by rw [hr.out]; rfl, HB.out⟩
    · obtain rfl : j = n := by omega
      by_cases h0 : j = 0
      · have hr : Hid (r = 6) := HNIL.out h0
        subst h0
        clear HNIL HBAD HGOOD OK
        go_wp2
        go_ret
        exact ⟨by rw [hr.out]; rfl, HB.out⟩
      have h0' : ((j : Int) == 0) = false := by simp; omega
      have hr : Hid (r = if 8 < j then 5 else 0) := HGOOD.out h0 OK.out
      clear HGOOD HBAD OK HNIL
      by_cases h8 : 8 < j
      · have hr2 : Hid (r = 5) := by unfold Hid; rw [hr.out, if_pos h8]
        have h8' : 8 < (j : Int) := by omega
        clear hr
        go_wp2
        go_ret
        exact ⟨by rw [hr2.out]; rfl, HB.out⟩
      · have hr2 : Hid (r = 0) := by unfold Hid; rw [hr.out, if_neg h8]
        have h8' : ¬ 8 < (j : Int) := by omega
        clear hr
        go_wp2
        go_ret
        exact ⟨by rw [hr2.out]; rfl, HB.out⟩
theorem last_suffix (l : List UInt8) (h : l ≠ []) : [126].isSuffixOf l = decide (((l.getD (l.length - 1) 0).toNat : Int) = 126) := by
  have tn : ∀ c : UInt8, ((c.toNat : Nat) : Int) = 126 ↔ c = 126 := fun c => by
    constructor
    · intro h
      have : c.toNat = 126 := by omega
      exact UInt8.toNat_inj.1 this
    · intro h
      subst h
      rfl
  rcases List.eq_nil_or_concat l with rfl | ⟨t, x, rfl⟩
  · exact absurd rfl h
  · rw [List.concat_eq_append, List.length_append]
    have e : (t ++ [x]).getD (t.length + [x].length - 1) 0 = x := by simp [List.getD]
    rw [e, Bool.eq_iff_iff, List.isSuffixOf_iff_suffix]
    simp only [decide_eq_true_eq, tn]
    constructor
    · rintro ⟨t2, ht2⟩
      have := List.append_inj_right' ht2 rfl
      simpa using this.symm
    · rintro rfl
      exact ⟨t, rfl⟩
end Go.Proofs.YtcenchnmibdebaaDoor
