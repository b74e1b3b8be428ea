/-
  What path.Check and Kept answer.
-/
import Derived.Test.YtcenchnmibdebaaDoorSp
namespace Go.Proofs.YtcenchnmibdebaaDoor
open Go.RowKit
set_option maxRecDepth 100000

theorem SS.at {w : World} {a : Option Addr} {n c : Nat} {xs : List ByteArray} (h : SS w (.slice a n c) xs) (j : Nat) (hj : j < xs.length) :
    ∃ b off, a = some ⟨b, off, none⟩ ∧ w.cell? ⟨b, off + j, none⟩ = some (.string (xs.getD j ⟨#[]⟩)) := by
  obtain ⟨a', c', h1, h2, h3⟩ := h
  cases h1
  rcases h3 with h3 | ⟨b, off, h4, h5⟩
  · subst h3; simp at hj
  · exact ⟨b, off, h4, h5 j _ (by simp [List.getD, hj])⟩
theorem SS.shape {w : World} {v : Value} {xs : List ByteArray} (h : SS w v xs) : ∃ a c, v = .slice a xs.length c ∧ xs.length ≤ c := by
  obtain ⟨a, c, h1, h2, _⟩ := h
  exact ⟨a, c, h1, h2⟩
theorem sps_get (s : ByteArray) (j : Nat) : dl ((sps s).getD j ⟨#[]⟩) = (spl (dl s)).getD j [] := by
  unfold sps
  by_cases h : j < (spl (dl s)).length
  · simp only [List.getD, List.getElem?_map, List.getElem?_eq_getElem h, Option.map_some, Option.getD_some]
    exact dl_mk _
  · have h1 : (spl (dl s))[j]? = none := List.getElem?_eq_none (by omega)
    simp [List.getD, h1]
theorem parts_size (l : List UInt8) : ∀ x ∈ parts l, x.length ≤ l.length := by
  induction l with
  | nil => intro x hx; simp [parts] at hx; simp [hx]
  | cons c r ih =>
    intro x hx
    by_cases hc : c = 47
    · subst hc
      rw [parts_slash] at hx
      rcases List.mem_cons.1 hx with rfl | hx
      · simp
      · have := ih x hx; simp only [List.length_cons]; omega
    · cases hp : parts r with
      | nil => exact absurd hp (parts_ne r)
      | cons y ys =>
        rw [parts_other c r y ys hc hp] at hx
        rcases List.mem_cons.1 hx with rfl | hx
        · have := ih y (by rw [hp]; simp); simp only [List.length_cons]; omega
        · have := ih x (by rw [hp]; simp [hx]); simp only [List.length_cons]; omega
theorem spl_size (l : List UInt8) : ∀ x ∈ spl l, x.length ≤ l.length := by
  unfold spl
  split
  · intro x hx; cases hx
  · exact parts_size l
theorem sps_size (s : ByteArray) (j : Nat) : ((sps s).getD j ⟨#[]⟩).size ≤ s.size := by
  rw [← dl_len, ← dl_len, sps_get]
  by_cases h : j < (spl (dl s)).length
  · have := spl_size (dl s) _ (List.getElem_mem h)
    simpa [List.getD, h] using this
  · simp [List.getD, List.getElem?_eq_none (show (spl (dl s)).length ≤ j by omega)]
theorem chk_long (l : List UInt8) (h : 128 < l.length) : chk l = 5 := by unfold chk; rw [if_pos h]
theorem chk_nil : chk [] = 6 := rfl
theorem chk_bad (l : List UInt8) (h : ¬ 128 < l.length) (j : Nat) (hj : j < (spl l).length) (hn : nameB ((spl l).getD j []) = false) : chk l = 6 := by
  unfold chk
  rw [if_neg h]
  split
  · rfl
  · rw [if_pos]
    cases ha : (spl l).all nameB with
    | false => rfl
    | true =>
      rw [List.all_eq_true] at ha
      have := ha _ (List.getElem_mem hj)
      simp [List.getD, hj] at hn
      rw [hn] at this
      cases this
theorem all_names (L : List (List UInt8)) (h : ∀ j, j < L.length → nameB (L.getD j []) = true) : L.all nameB = true := by
  rw [List.all_eq_true]
  intro x hx
  obtain ⟨j, hj, rfl⟩ := List.getElem_of_mem hx
  have := h j hj
  simpa [List.getD, hj] using this
theorem chk_good (l : List UInt8) (h : ¬ 128 < l.length) (h0 : (spl l).length ≠ 0) (hn : ∀ j, j < (spl l).length → nameB ((spl l).getD j []) = true) : chk l = if 8 < (spl l).length then 5 else 0 := by
  unfold chk
  rw [if_neg h, if_neg (fun e => h0 (by rw [e]; rfl)), all_names _ hn, if_neg (by simp)]

set_option maxHeartbeats 1000000 in
theorem check_any (s : ByteArray) (w : World) (hm : Mx w) (hs : s.size ≤ maxLen) :
    Calls Tryd.prog 42 #[.string s] w fun e w' => e = .returned (.int .i64 (chk (dl s))) ∧ Below w.heap.size w w' := by
  by_cases h1 : 128 < s.size
  · have hr : Hid (chk (dl s) = 5) := chk_long _ h1
    have h1' : 128 < (s.size : Int) := by omega
    generalize chk (dl s) = r at *
    go_enter Tryd.func42, Tryd.ntmps42
    go_wp2
    go_ret
    exact ⟨by rw [hr.out]; rfl, Below.refl _ _⟩
  have h1' : ¬ 128 < (s.size : Int) := by omega
  have c := split_any s w hm (by omega)
  have HL : Hid ((sps s).length = (spl (dl s)).length) := sps_len s
  have HN : Hid (∀ (w : World) (j : Nat), Calls Tryd.prog 60 #[.string ((sps s).getD j ⟨#[]⟩)] w fun e w' => e = .returned (.bool (nameB ((spl (dl s)).getD j []))) ∧ w' = w) := fun w j => by
    have := name_any ((sps s).getD j ⟨#[]⟩) w (by have := sps_size s j; omega)
    rwa [sps_get] at this
  have HBAD : Hid (∀ j, j < (spl (dl s)).length → nameB ((spl (dl s)).getD j []) = false → chk (dl s) = 6) := fun j hj hn => chk_bad _ (by rw [dl_len]; omega) j hj hn
  have HGOOD : Hid ((spl (dl s)).length ≠ 0 → (∀ j, j < (spl (dl s)).length → nameB ((spl (dl s)).getD j []) = true) → chk (dl s) = if 8 < (spl (dl s)).length then 5 else 0) := chk_good _ (by rw [dl_len]; omega)
  have HNIL : Hid ((spl (dl s)).length = 0 → chk (dl s) = 6) := fun h => by
    have h2 := (spl_nil_iff (dl s)).1 (List.length_eq_zero_iff.1 h)
    rw [h2]
    rfl
  have hlen := spl_len (dl s)
  rw [dl_len] at hlen
  generalize chk (dl s) = r at *
  generalize sps s = xs at *
  obtain ⟨NB, hNB⟩ : ∃ NB : Nat → Bool, NB = fun j => nameB ((spl (dl s)).getD j []) := ⟨_, rfl⟩
  have HN : Hid (∀ (w : World) (j : Nat), Calls Tryd.prog 60 #[.string (xs.getD j ⟨#[]⟩)] w fun e w' => e = .returned (.bool (NB j)) ∧ w' = w) := by rw [hNB]; exact HN.out
  have HBAD : Hid (∀ j, j < (spl (dl s)).length → NB j = false → r = 6) := by rw [hNB]; exact HBAD.out
  have HGOOD : Hid ((spl (dl s)).length ≠ 0 → (∀ j, j < (spl (dl s)).length → NB j = true) → r = if 8 < (spl (dl s)).length then 5 else 0) := by rw [hNB]; exact HGOOD.out
  clear hNB
  generalize (spl (dl s)).length = n at *
  go_enter Tryd.func42, Tryd.ntmps42
  go_wp2_with fail
  refine c.mono ?_
  rintro e w1 ⟨v, rfl, ss, b1⟩
  clear c
  have HS : Hid (SS w1 v xs) := ss
  have HB : Hid (Below w.heap.size w w1) := b1
  obtain ⟨a, cp, rfl, hcp⟩ := ss.shape
  rw [HL.out] at HS hcp ⊢
  clear ss b1 hm
  by_cases h0 : n = 0
  · have hr : Hid (r = 6) := HNIL.out h0
    subst h0
    clear HNIL HBAD HGOOD
    go_wp2
    go_ret
    exact ⟨by rw [hr.out]; rfl, HB.out⟩
  have h0' : ((n : Int) == 0) = false := by simp; omega
  have HGOOD2 : Hid ((∀ j, j < n → NB j = true) → r = if 8 < n then 5 else 0) := HGOOD.out h0
  clear HGOOD HNIL
  go_wp2_with fail
  go_loop [16] (fun q => ∃ j : Nat, j ≤ n ∧ q = .int .i64 j ∧ ∀ k, k < j → NB k = true) (fun q => n - (intOf q).toNat)
  case atStart => exact ⟨0, by omega, rfl, fun k hk => by omega⟩
  case round =>
    obtain ⟨j, hj, rfl, ok⟩ := hrel
    have OK : Hid (∀ k, k < j → NB k = true) := ok
    clear ok
    by_cases hlt : j < n
    · have lt2 : (j : Int) < (n : Int) := by omega
      obtain ⟨b, off, rfl, hc⟩ := HS.out.at j (by rw [HL.out]; exact hlt)
      have c := HN.out w1 j
      have NK : Hid (NB j = true → ∀ k, k < j + 1 → NB k = true) := fun h k hk => by
        rcases Nat.lt_or_ge k j with h' | h'
        · exact OK.out k h'
        · rw [show k = j by omega]; exact h
      have HF2 : Hid (NB j = false → r = 6) := HBAD.out j hlt
      have q1 : IntKind.i64.wrap ((j : Int) + 1) = ((j + 1 : Nat) : Int) := by simp [IntKind.wrap, IntKind.bits, IntKind.signed]; omega
      generalize xs.getD j ⟨#[]⟩ = x at *
      cases hb : NB j with
      | true =>
        have NK2 : Hid (∀ k, k < j + 1 → NB k = true) := NK.out hb
        rw [hb] at c
        clear NK hb HF2 OK
        go_wp2_with (go_at_call 60; refine c.mono ?_; rintro e w' ⟨rfl, rfl⟩)
        exact ⟨⟨j + 1, by omega, by go_num, NK2.out⟩, by simp [intOf]; omega⟩
      | false =>
        have hr : Hid (r = 6) := HF2.out hb
        rw [hb] at c
        clear NK hb HF2 OK
        go_wp2_with (go_at_call 60; refine c.mono ?_; rintro e w' ⟨rfl, rfl⟩)
        go_ret
        exact ⟨by rw [hr.out]; rfl, HB.out⟩
    · obtain rfl : j = n := by omega
      have hr : Hid (r = if 8 < j then 5 else 0) := HGOOD2.out OK.out
      clear HGOOD2 HBAD OK
      by_cases h8 : 8 < j
      · have hr2 : Hid (r = 5) := by unfold Hid; rw [hr.out, if_pos h8]
        have h8' : 8 < (j : Int) := by omega
        clear hr
        go_wp2
        go_ret
        exact ⟨by rw [hr2.out]; rfl, HB.out⟩
      · have hr2 : Hid (r = 0) := by unfold Hid; rw [hr.out, if_neg h8]
        have h8' : ¬ 8 < (j : Int) := by omega
        clear hr
        go_wp2
        go_ret
        exact ⟨by rw [hr2.out]; rfl, HB.out⟩
end Go.Proofs.YtcenchnmibdebaaDoor
