/-
  What Reader.Num, Text, Raw and Byte answer and leave, for whatever bytes are left and whatever error the reader bears.
-/
import Derived.Test.YthhghehnaopmhaaDoorFiTake
namespace Go.Proofs.YthhghehnaopmhaaDoor.Fi
open Go.RowKit
set_option maxRecDepth 100000

theorem Rd.fail {w : World} {g s : Nat} {xs : List Int} {e : Int} (h : Rd w g s xs e) (e' : Int) : Rd (w.setCell ⟨g, 1, none⟩ (.int .i64 e')) g s xs e' := by
  obtain ⟨a, cap, c0, c1, f0, f1, l1, l2, r, n, k, b⟩ := h
  refine ⟨a, cap, ?_, ?_, ?_, ?_, l1, l2, r.off (Off.setCell g 1 _ _) (fun x hx => by rw [(b x hx).2]; exact k), n, k, b⟩
  · rw [World.cell?_setCell_other _ _ _ _ (by intro e; cases e), c0]
  · rw [World.cell?_setCell_same _ _ _ c1]
  · simpa using f0
  · simpa using f1

/-- How far the bytes of a number that Shortest finds go. -/
theorem sh_bd (xs : List Int) (hb : ∀ i, 0 ≤ xs.getD i 0 ∧ xs.getD i 0 < 256) : 0 ≤ shN xs.length xs ∧ shN xs.length xs < 4611686018427387904 ∧ 0 ≤ shU xs.length xs ∧ shU xs.length xs ≤ xs.length := by
  unfold shN shU
  split
  · next h =>
    obtain ⟨h1, h2⟩ := h
    unfold getE at h1
    split at h1
    · simp at h1
    · next h3 =>
      have h4 : getN xs.length xs = gval xs (2 ^ gk xs - 1) := by unfold getN; rw [if_neg h3]
      have h5 : getU xs.length xs = (2 ^ gk xs : Nat) := by unfold getU; rw [if_neg h3]
      have hk : gk xs = 0 ∨ gk xs = 1 ∨ gk xs = 2 ∨ gk xs = 3 := by have := hb 0; unfold gk; omega
      have hg := gval_bd xs hb (2 ^ gk xs - 1)
      rw [h4, h5]
      rcases hk with hk | hk | hk | hk <;> rw [hk] at hg h3 ⊢ <;> simp only [Nat.reducePow, Nat.reduceSub, Int.reducePow, Int.reduceMul] at hg h3 ⊢ <;> omega
  · simp

theorem Rd.bytes {w : World} {g s : Nat} {xs : List Int} {e : Int} (h : Rd w g s xs e) : ∀ i, 0 ≤ xs.getD i 0 ∧ xs.getD i 0 < 256 := by
  obtain ⟨a, cap, c0, c1, f0, f1, l1, l2, r, n, k, b⟩ := h
  rcases r with h | ⟨_, _, _, _, _, _, _, hz⟩
  · obtain rfl := List.length_eq_zero_iff.1 h
    intro i
    simp
  · exact hz

theorem na_bd (xs : List Int) (most : Int) (hb : ∀ i, 0 ≤ xs.getD i 0 ∧ xs.getD i 0 < 256) : 0 ≤ naN xs most ∧ naN xs most < 4611686018427387904 ∧ 0 ≤ naU xs most ∧ naU xs most ≤ xs.length := by
  have h := sh_bd xs hb
  unfold naN naU
  split <;> omega

set_option maxHeartbeats 1000000 in
theorem num_any (g s : Nat) (xs : List Int) (most : Int) (w : World) (hw : Wid w) (h : Rd w g s xs 0) :
    Calls Tryd.prog 39 #[.pointer (some ⟨g, 0, none⟩), .int .i64 most] w fun r w' => r = .returned (.int .i64 (naN xs most)) ∧ Rd w' g s (xs.drop (naU xs most).toNat) (naE xs most) ∧ Off g w w' := by
  have cs := stopped_any g s xs 0 w h
  obtain ⟨u, hu⟩ : ∃ u : Nat, naU xs most = u := ⟨(naU xs most).toNat, by have := na_bd xs most h.bytes; omega⟩
  have hul : u ≤ xs.length := by have := na_bd xs most h.bytes; omega
  have ct := take_any g s u xs 0 w h hul
  have HF : Hid (∀ e', Rd (w.setCell ⟨g, 1, none⟩ (.int .i64 e')) g s xs e') := fun e' => h.fail e'
  have HE0 : Hid (naE xs most ≠ 0 → naN xs most = 0 ∧ u = 0) := fun hne => by unfold naN; unfold naU at hu; rw [if_neg hne] at hu ⊢; omega
  obtain ⟨a, cap, c0, c1, f0, f1, l1, l2, hr, _, _, ha⟩ := h
  have cn := na_any a cap xs most w hw hr
  rw [hu] at cn ⊢
  clear ha hr hu
  simp only [Int.toNat_natCast]
  generalize naN xs most = N at *
  generalize naE xs most = E at *
  by_cases hE : E = 0
  · subst hE
    go_enter Tryd.func39, Tryd.ntmps39
    go_wp2_with (first | (go_at_call 53; refine cs.mono ?_; rintro e w' ⟨rfl, rfl⟩) | (go_at_call 54; refine cn.mono ?_; rintro e w' ⟨rfl, rfl⟩) | (go_at_call 55; refine ct.mono ?_; rintro e w' ⟨rfl, h1, h2⟩))
    go_ret
    exact ⟨rfl, by assumption, by assumption⟩
  · have hne : (E != 0) = true := by simpa using hE
    obtain ⟨rfl, rfl⟩ := HE0.out hE
    clear HE0
    go_enter Tryd.func39, Tryd.ntmps39
    go_wp2_with (first | (go_at_call 53; refine cs.mono ?_; rintro e w' ⟨rfl, rfl⟩) | (go_at_call 54; refine cn.mono ?_; rintro e w' ⟨rfl, rfl⟩))
    go_ret
    exact ⟨rfl, HF.out E, Off.setCell g 1 _ _⟩

set_option maxHeartbeats 1000000 in
theorem num_stop (g s : Nat) (xs : List Int) (e most : Int) (w : World) (h : Rd w g s xs e) (he : e ≠ 0) :
    Calls Tryd.prog 39 #[.pointer (some ⟨g, 0, none⟩), .int .i64 most] w fun r w' => r = .returned (.int .i64 0) ∧ w' = w := by
  have cs := stopped_any g s xs e w h
  have hne : (e != 0) = true := by simpa using he
  clear h
  go_enter Tryd.func39, Tryd.ntmps39
  go_wp2_with (go_at_call 53; refine cs.mono ?_; rintro e w' ⟨rfl, rfl⟩)
  go_ret
  exact ⟨rfl, rfl⟩

/-- What Raw answers and leaves. -/
def raE (xs : List Int) (n : Int) : Int := if n < 0 then 2 else if (xs.length : Int) < n then 3 else 0
def raN (xs : List Int) (n : Int) : Nat := if raE xs n = 0 then n.toNat else 0

set_option maxHeartbeats 1000000 in
theorem raw_any (g s : Nat) (xs : List Int) (n : Int) (w : World) (h : Rd w g s xs 0) :
    Calls Tryd.prog 40 #[.pointer (some ⟨g, 0, none⟩), .int .i64 n] w fun r w' => r = .returned (.string (strB (xs.take (raN xs n)))) ∧ Rd w' g s (xs.drop (raN xs n)) (raE xs n) ∧ Off g w w' := by
  have cs := stopped_any g s xs 0 w h
  have HF : Hid (∀ e', Rd (w.setCell ⟨g, 1, none⟩ (.int .i64 e')) g s xs e') := fun e' => h.fail e'
  have hts := take_any g s n.toNat xs 0 w h
  unfold raN raE
  obtain ⟨a, cap, c0, c1, f0, f1, l1, l2, hr, _, _, ha⟩ := h
  clear ha hr
  by_cases hn : n < 0
  · simp only [if_pos hn]
    rw [if_neg (by decide)]
    clear hts
    go_enter Tryd.func40, Tryd.ntmps40
    go_wp2_with (go_at_call 53; refine cs.mono ?_; rintro e w' ⟨rfl, rfl⟩)
    go_ret
    exact ⟨rfl, HF.out 2, Off.setCell g 1 _ _⟩
  · simp only [if_neg hn]
    obtain ⟨m, rfl⟩ : ∃ m : Nat, n = m := ⟨n.toNat, by omega⟩
    simp only [Int.toNat_natCast] at hts ⊢
    by_cases hl : (xs.length : Int) < m
    · simp only [if_pos hl]
      rw [if_neg (by decide)]
      clear hts
      go_enter Tryd.func40, Tryd.ntmps40
      go_wp2_with (go_at_call 53; refine cs.mono ?_; rintro e w' ⟨rfl, rfl⟩)
      go_ret
      exact ⟨rfl, HF.out 3, Off.setCell g 1 _ _⟩
    · simp only [if_neg hl, if_true]
      have ct := hts (by omega)
      have hl' : m ≤ xs.length := by omega
      clear hts hl hn
      go_enter Tryd.func40, Tryd.ntmps40
      go_wp2_with (first | (go_at_call 53; refine cs.mono ?_; rintro e w' ⟨rfl, rfl⟩) | (go_at_call 55; refine ct.mono ?_; rintro e w' ⟨rfl, h1, h2⟩))
      go_ret
      exact ⟨rfl, by assumption, by assumption⟩

set_option maxHeartbeats 1000000 in
theorem raw_stop (g s : Nat) (xs : List Int) (e n : Int) (w : World) (h : Rd w g s xs e) (he : e ≠ 0) :
    Calls Tryd.prog 40 #[.pointer (some ⟨g, 0, none⟩), .int .i64 n] w fun r w' => r = .returned (.string (strB [])) ∧ w' = w := by
  have cs := stopped_any g s xs e w h
  have hne : (e != 0) = true := by simpa using he
  clear h
  go_enter Tryd.func40, Tryd.ntmps40
  go_wp2_with (go_at_call 53; refine cs.mono ?_; rintro e w' ⟨rfl, rfl⟩)
  go_ret
  exact ⟨rfl, rfl⟩

/-- What Text answers and leaves. -/
def txE (xs : List Int) (most : Int) : Int := if naE xs most = 0 then (if naU xs most + naN xs most ≤ xs.length then 0 else 3) else naE xs most
def txS (xs : List Int) (most : Int) : List Int := if txE xs most = 0 then (xs.drop (naU xs most).toNat).take (naN xs most).toNat else []
def txR (xs : List Int) (most : Int) : List Int := if txE xs most = 0 then xs.drop ((naU xs most).toNat + (naN xs most).toNat) else xs

set_option maxHeartbeats 2000000 in
theorem text_any (g s : Nat) (xs : List Int) (most : Int) (w : World) (hw : Wid w) (h : Rd w g s xs 0) :
    Calls Tryd.prog 41 #[.pointer (some ⟨g, 0, none⟩), .int .i64 most] w fun r w' => r = .returned (.string (strB (txS xs most))) ∧ Rd w' g s (txR xs most) (txE xs most) ∧ Off g w w' := by
  have cs := stopped_any g s xs 0 w h
  have bd := na_bd xs most h.bytes
  obtain ⟨u, hu⟩ : ∃ u : Nat, naU xs most = u := ⟨(naU xs most).toNat, by omega⟩
  obtain ⟨k, hk⟩ : ∃ k : Nat, naN xs most = k := ⟨(naN xs most).toNat, by omega⟩
  have hul : u ≤ xs.length := by omega
  have hk62 : k < 4611686018427387904 := by omega
  have ct := take_any g s u xs 0 w h hul
  have HF : Hid (∀ e', Rd (w.setCell ⟨g, 1, none⟩ (.int .i64 e')) g s xs e') := fun e' => h.fail e'
  obtain ⟨a, cap, c0, c1, f0, f1, l1, l2, hr, _, _, ha⟩ := h
  have cn := na_any a cap xs most w hw hr
  have hlm : xs.length ≤ 9223372036854775807 := by unfold maxLen at l2; omega
  unfold txS txR txE
  rw [hu, hk] at cn ⊢
  clear ha hr hu hk bd
  simp only [Int.toNat_natCast]
  generalize naE xs most = E at *
  by_cases hE : E = 0
  · subst hE
    by_cases hl : u + k ≤ xs.length
    · have hl' : ((u : Int) + (k : Int) ≤ (xs.length : Int)) := by omega
      simp only [if_true, if_pos hl']
      have HK : Hid (∀ w1, Rd w1 g s (xs.drop u) 0 → Calls Tryd.prog 55 #[.pointer (some ⟨g, 0, none⟩), .int .i64 k] w1 fun r w' => r = .returned (.string (strB ((xs.drop u).take k))) ∧ Rd w' g s (xs.drop (u + k)) 0 ∧ Off g w1 w') := by
        intro w1 h1
        have := take_any g s k (xs.drop u) 0 w1 h1 (by simp; omega)
        rwa [List.drop_drop] at this
      have hgt : ¬ ((k : Int) > (xs.length : Int) - (u : Int)) := by omega
      clear hl'
      go_enter Tryd.func41, Tryd.ntmps41
      go_wp2_with (first | (go_at_call 53; refine cs.mono ?_; rintro e w' ⟨rfl, rfl⟩) | (go_at_call 54; refine cn.mono ?_; rintro e w' ⟨rfl, rfl⟩) | fail)
      refine ct.mono ?_
      rintro e w1 ⟨rfl, h1, h2⟩
      have c2 := HK.out w1 h1
      clear ct c0 c1 f0 f1
      go_wp2_with (go_at_call 55; refine c2.mono ?_; rintro e w' ⟨rfl, h3, h4⟩)
      go_ret
      exact ⟨rfl, by assumption, h2.trans (by assumption)⟩
    · have hl' : ¬ ((u : Int) + (k : Int) ≤ (xs.length : Int)) := by omega
      simp only [if_true, if_neg hl']
      rw [if_neg (by decide), if_neg (by decide)]
      have hgt : (xs.length : Int) - (u : Int) < (k : Int) := by omega
      clear hl' hl ct
      go_enter Tryd.func41, Tryd.ntmps41
      go_wp2_with (first | (go_at_call 53; refine cs.mono ?_; rintro e w' ⟨rfl, rfl⟩) | (go_at_call 54; refine cn.mono ?_; rintro e w' ⟨rfl, rfl⟩))
      go_ret
      exact ⟨rfl, HF.out 3, Off.setCell g 1 _ _⟩
  · have hne : (E != 0) = true := by simpa using hE
    have heq : (E == 0) = false := by simpa using hE
    simp only [if_neg hE]
    clear ct
    go_enter Tryd.func41, Tryd.ntmps41
    go_wp2_with (first | (go_at_call 53; refine cs.mono ?_; rintro e w' ⟨rfl, rfl⟩) | (go_at_call 54; refine cn.mono ?_; rintro e w' ⟨rfl, rfl⟩))
    go_ret
    exact ⟨rfl, HF.out E, Off.setCell g 1 _ _⟩

set_option maxHeartbeats 1000000 in
theorem text_stop (g s : Nat) (xs : List Int) (e most : Int) (w : World) (h : Rd w g s xs e) (he : e ≠ 0) :
    Calls Tryd.prog 41 #[.pointer (some ⟨g, 0, none⟩), .int .i64 most] w fun r w' => r = .returned (.string (strB [])) ∧ w' = w := by
  have cs := stopped_any g s xs e w h
  have hne : (e != 0) = true := by simpa using he
  clear h
  go_enter Tryd.func41, Tryd.ntmps41
  go_wp2_with (go_at_call 53; refine cs.mono ?_; rintro e w' ⟨rfl, rfl⟩)
  go_ret
  exact ⟨rfl, rfl⟩

theorem strB_size (l : List Int) : (strB l).size = l.length := by simp [strB, ByteArray.size]

/-- What Byte answers. -/
def byV (xs : List Int) : Int := xs.getD 0 0

set_option maxHeartbeats 1000000 in
theorem byte_any (g s : Nat) (xs : List Int) (w : World) (h : Rd w g s xs 0) :
    Calls Tryd.prog 37 #[.pointer (some ⟨g, 0, none⟩)] w fun r w' => r = .returned (.int .u8 (byV xs)) ∧ Rd w' g s (xs.drop (raN xs 1)) (raE xs 1) ∧ Off g w w' := by
  have c := raw_any g s xs 1 w h
  have hb := h.bytes 0
  clear h
  cases xs with
  | nil =>
    have e1 : raN [] 1 = 0 := by decide
    have e2 : raE [] 1 = 3 := by decide
    rw [e1, e2] at c ⊢
    have hs : strB (List.take 0 []) = ByteArray.mk #[] := rfl
    rw [hs] at c
    go_enter Tryd.func37, Tryd.ntmps37
    go_wp2_with (go_at_call 40; refine c.mono ?_; rintro e w' ⟨rfl, h1, h2⟩)
    go_ret
    exact ⟨rfl, by assumption, by assumption⟩
  | cons x l =>
    have e2 : raE (x :: l) 1 = 0 := by unfold raE; rw [if_neg (by decide), if_neg (by simp; omega)]
    have e1 : raN (x :: l) 1 = 1 := by unfold raN; rw [if_pos e2]; rfl
    rw [e1, e2] at c ⊢
    have hs : strB (List.take 1 (x :: l)) = ByteArray.mk #[UInt8.ofNat x.toNat] := by simp [strB]
    rw [hs] at c
    have hx : 0 ≤ x ∧ x < 256 := by simpa using hb
    have hv : byV (x :: l) = x := rfl
    rw [hv]
    clear hb hs e1 e2 hv
    obtain ⟨k, rfl⟩ : ∃ k : Nat, x = k := ⟨x.toNat, by omega⟩
    go_enter Tryd.func37, Tryd.ntmps37
    go_wp2_with (go_at_call 40; refine c.mono ?_; rintro e w' ⟨rfl, h1, h2⟩)
    go_ret
    refine ⟨?_, by assumption, by assumption⟩
    show Ending.returned (Value.int .u8 ((UInt8.ofNat k).toNat : Int)) = _
    have : (UInt8.ofNat k).toNat = k := by rw [UInt8.toNat_ofNat']; omega
    rw [this]

set_option maxHeartbeats 1000000 in
theorem byte_stop (g s : Nat) (xs : List Int) (e : Int) (w : World) (h : Rd w g s xs e) (he : e ≠ 0) :
    Calls Tryd.prog 37 #[.pointer (some ⟨g, 0, none⟩)] w fun r w' => r = .returned (.int .u8 0) ∧ w' = w := by
  have c := raw_stop g s xs e 1 w h he
  have hs : strB [] = ByteArray.mk #[] := rfl
  rw [hs] at c
  clear h hs
  go_enter Tryd.func37, Tryd.ntmps37
  go_wp2_with (go_at_call 40; refine c.mono ?_; rintro e w' ⟨rfl, rfl⟩)
  go_ret
  exact ⟨rfl, rfl⟩
end Go.Proofs.YthhghehnaopmhaaDoor.Fi
