/-
  What Reader.Num, Text, Raw and Byte answer and leave, for whatever bytes are left and whatever error the reader bears.
-/
import Derived.Test.YtaghmoddalbepaaDoorFiTake
namespace Go.Proofs.YtaghmoddalbepaaDoor.Fi
open Go.RowKit
set_option maxRecDepth 100000

theorem Rd.fail {w : World} {g s : Nat} {xs : List Int} {e : Int} (h : Rd w g s xs e) (e' : Int) : Rd (w.setCell ⟨g, 1, none⟩ (.int .i64 e')) g s xs e' := by
  obtain ⟨a, cap, c0, c1, f0, f1, l1, l2, r, n, k, b⟩ := h
  refine ⟨a, cap, ?_, ?_, ?_, ?_, l1, l2, r.off (Off.setCell g 1 _ _) (fun x hx => by rw [(b x hx).2]; exact k), n, k, b⟩
  · rw [World.cell?_setCell_other _ _ _ _ (by intro e; cases e), c0]
  · rw [World.cell?_setCell_same _ _ _ c1]
  · simpa using f0
  · simpa using f1

/-- How far the bytes of a number that Shortest finds go. -/
theorem sh_bd (xs : List Int) (hb : ∀ i, 0 ≤ xs.getD i 0 ∧ xs.getD i 0 < 256) : 0 ≤ shN xs.length xs ∧ shN xs.length xs < 4611686018427387904 ∧ 0 ≤ shU xs.length xs ∧ shU xs.length xs ≤ xs.length := by
  unfold shN shU
  split
  · next h =>
    obtain ⟨h1, h2⟩ := h
    unfold getE at h1
    split at h1
    · simp at h1
    · next h3 =>
      have h4 : getN xs.length xs = gval xs (2 ^ gk xs - 1) := by unfold getN; rw [if_neg h3]
      have h5 : getU xs.length xs = (2 ^ gk xs : Nat) := by unfold getU; rw [if_neg h3]
      have hk : gk xs = 0 ∨ gk xs = 1 ∨ gk xs = 2 ∨ gk xs = 3 := by have := hb 0; unfold gk; omega
      have hg := gval_bd xs hb (2 ^ gk xs - 1)
      rw [h4, h5]
      rcases hk with hk | hk | hk | hk <;> rw [hk] at hg h3 ⊢ <;> simp only [Nat.reducePow, Nat.reduceSub, Int.reducePow, Int.reduceMul] at hg h3 ⊢ <;> omega
  · simp

theorem Rd.bytes {w : World} {g s : Nat} {xs : List Int} {e : Int} (h : Rd w g s xs e) : ∀ i, 0 ≤ xs.getD i 0 ∧ xs.getD i 0 < 256 := by
  obtain ⟨a, cap, c0, c1, f0, f1, l1, l2, r, n, k, b⟩ := h
  rcases r with h | ⟨_, _, _, _, _, _, _, hz⟩
  · obtain rfl := List.length_eq_zero_iff.1 h
    intro i
    simp
  · exact hz

theorem na_bd (xs : List Int) (most : Int) (hb : ∀ i, 0 ≤ xs.getD i 0 ∧ xs.getD i 0 < 256) : 0 ≤ naN xs most ∧ naN xs most < 4611686018427387904 ∧ 0 ≤ naU xs most ∧ naU xs most ≤ xs.length := by
  have h := sh_bd xs hb
  unfold naN naU
  split <;> omega

set_option maxHeartbeats 1000000 in
theorem num_any (g s : Nat) (xs : List Int) (most : Int) (w : World) (hw : Wid w) (h : Rd w g s xs 0) :
    Calls Tryd.prog 46 #[.pointer (some ⟨g, 0, none⟩), .int .i64 most] w fun r w' => r = .returned (.int .i64 (naN xs most)) ∧ Rd w' g s (xs.drop (naU xs most).toNat) (naE xs most) ∧ Off g w w' := by
  have cs := stopped_any g s xs 0 w h
  obtain ⟨u, hu⟩ : ∃ u : Nat, naU xs most = u := ⟨(naU xs most).toNat, by have := na_bd xs most h.bytes; omega⟩
  have hul : u ≤ xs.length := by have := na_bd xs most h.bytes; omega
  have ct := take_any g s u xs 0 w h hul
  have HF : Hid (∀ e', Rd (w.setCell ⟨g, 1, none⟩ (.int .i64 e')) g s xs e') := fun e' => h.fail e'
  have HE0 : Hid (naE xs most ≠ 0 → naN xs most = 0 ∧ u = 0) := fun hne => by unfold naN; unfold naU at hu; rw [if_neg hne] at hu ⊢; omega
  obtain ⟨a, cap, c0, c1, f0, f1, l1, l2, hr, _, _, ha⟩ := h
  have cn := na_any a cap xs most w hw hr
  rw [hu] at cn ⊢
  clear ha hr hu
  simp only [Int.toNat_natCast]
  generalize naN xs most = N at *
  generalize naE xs most = E at *
  by_cases hE : E = 0
  · subst hE
    go_enter Tryd.func46, Tryd.ntmps46
    go_wp2_with (first | (go_at_call 67; refine cs.mono ?_; rintro e w' ⟨rfl, rfl⟩) | (go_at_call 68; refine cn.mono ?_; rintro e w' ⟨rfl, rfl⟩) | (go_at_call 69; refine ct.mono ?_; rintro e w' ⟨rfl, h1, h2⟩))
    go_ret
    exact ⟨rfl, by assumption, by assumption⟩
  · have hne : (E != 0) = true := by simpa using hE
    obtain ⟨rfl, rfl⟩ := HE0.out hE
    clear HE0
    go_enter Tryd.func46, Tryd.ntmps46
    go_wp2_with (first | (go_at_call 67; refine cs.mono ?_; rintro e w' ⟨rfl, rfl⟩) | (go_at_call 68; refine cn.mono ?_; rintro e w' ⟨rfl, rfl⟩))
    go_ret
    exact ⟨rfl, HF.out E, Off.setCell g 1 _ _⟩

set_option maxHeartbeats 1000000 in
theorem num_stop (g s : Nat) (xs : List Int) (e most : Int) (w : World) (h : Rd w g s xs e) (he : e ≠ 0) :
    Calls Tryd.prog 46 #[.pointer (some ⟨g, 0, none⟩), .int .i64 most] w fun r w' => r = .returned (.int .i64 0) ∧ w' = w := by
  have cs := stopped_any g s xs e w h
  have hne : (e != 0) = true := by simpa using he
  clear h
  go_enter Tryd.func46, Tryd.ntmps46
  go_wp2_with (go_at_call 67; refine cs.mono ?_; rintro e w' ⟨rfl, rfl⟩)
  go_ret
  exact ⟨rfl, rfl⟩

/-- What Raw answers and leaves. -/
def raE (xs : List Int) (n : Int) : Int := if n < 0 then 2 else if (xs.length : Int) < n then 3 else 0
def raN (xs : List Int) (n : Int) : Nat := if raE xs n = 0 then n.toNat else 0

/-- What Text answers and leaves. -/
def txE (xs : List Int) (most : Int) : Int := if naE xs most = 0 then (if naU xs most + naN xs most ≤ xs.length then 0 else 3) else naE xs most
def txS (xs : List Int) (most : Int) : List Int := if txE xs most = 0 then (xs.drop (naU xs most).toNat).take (naN xs most).toNat else []
def txR (xs : List Int) (most : Int) : List Int := if txE xs most = 0 then xs.drop ((naU xs most).toNat + (naN xs most).toNat) else xs

theorem strB_size (l : List Int) : (strB l).size = l.length := by simp [strB, ByteArray.size]

/-- What Byte answers. -/
def byV (xs : List Int) : Int := xs.getD 0 0

end Go.Proofs.YtaghmoddalbepaaDoor.Fi
