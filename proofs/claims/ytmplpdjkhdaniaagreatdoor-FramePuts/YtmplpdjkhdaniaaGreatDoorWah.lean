/-
  What the methods of a field.Reader answer and leave, for whatever bytes are left and whatever error it bears: nothing but the reader itself is written. Condition: the package-level table of widths holds 1, 2, 4, 8.
  What Reader.take answers and leaves.
  What Reader.Num, Text, Raw and Byte answer and leave, for whatever bytes are left and whatever error the reader bears.
-/
import Derived.Test.YtmplpdjkhdaniaaGreatDoorWag
namespace Go.Proofs.YtmplpdjkhdaniaaGreatDoor.Fi
open Go.RowKit
set_option maxRecDepth 100000

/-- All but block g is as it was. -/
structure Off (g : Nat) (w w' : World) : Prop where
  os : w'.os = w.os
  tape : w'.tape = w.tape
  output : w'.output = w.output
  size : w'.heap.size = w.heap.size
  block : ∀ k, k ≠ g → w'.heap[k]? = w.heap[k]?

theorem Off.refl (g : Nat) (w : World) : Off g w w := ⟨rfl, rfl, rfl, rfl, fun _ _ => rfl⟩
theorem Off.trans {g : Nat} {a b c : World} (h : Off g a b) (k : Off g b c) : Off g a c :=
  ⟨k.os.trans h.os, k.tape.trans h.tape, k.output.trans h.output, k.size.trans h.size, fun i hi => (k.block i hi).trans (h.block i hi)⟩
theorem Off.setCell (g o : Nat) (w : World) (v : Value) : Off g w (w.setCell ⟨g, o, none⟩ v) :=
  ⟨rfl, rfl, rfl, by simp [World.setCell], fun k hk => Below.heap_setCell _ _ _ _ hk⟩
theorem Off.below {g B : Nat} {w w' : World} (h : Off g w w') (hB : B ≤ g) : Below B w w' :=
  ⟨h.os, h.tape, h.output, by rw [h.size]; exact Nat.le_refl _, fun k hk => h.block k (by omega)⟩
theorem Off.cell {g : Nat} {w w' : World} (h : Off g w w') {p : Addr} (hp : p.block ≠ g) : w'.cell? p = w.cell? p := World.cell?_of_block (h.block _ hp)
theorem Off.frozen {g : Nat} {w w' : World} (h : Off g w w') {p : Addr} (hp : p.block ≠ g) : w'.frozen? p = w.frozen? p := World.frozen?_of_block (h.block _ hp)
theorem Wid.off {w w' : World} {g : Nat} (h : Wid w) (hb : Off g w w') (hg : 1 < g) : Wid w' := h.below (hb.below (B := g) (Nat.le_refl _)) hg
theorem Row.off {w w' : World} {g : Nat} {a : Option Addr} {len cap : Nat} {zs : List Int} (h : Row w a len cap zs) (hb : Off g w w') (hB : ∀ b, a = some b → b.block ≠ g) : Row w' a len cap zs := by
  rcases h with h | ⟨hp, b, off, rfl, hlc, hm, hc, hz⟩
  · exact .inl h
  · exact .inr ⟨hp, b, off, rfl, hlc, hm, fun i hi => (hb.cell (p := ⟨b, off + i, none⟩) (hB ⟨b, off, none⟩ rfl)).trans (hc i hi), hz⟩

/-- A reader at block g: the bytes xs are left, in block s, its error is e. -/
def Rd (w : World) (g s : Nat) (xs : List Int) (e : Int) : Prop :=
  ∃ a cap, w.cell? ⟨g, 0, none⟩ = some (.slice a xs.length cap) ∧ w.cell? ⟨g, 1, none⟩ = some (.int .i64 e) ∧ w.frozen? ⟨g, 0, none⟩ = false ∧ w.frozen? ⟨g, 1, none⟩ = false ∧
    xs.length ≤ cap ∧ cap ≤ maxLen ∧ Row w a xs.length cap xs ∧ (a = none → cap = 0) ∧ s ≠ g ∧ ∀ x, a = some x → x.spot = none ∧ x.block = s

theorem Rd.off {w w' : World} {g s g' : Nat} {xs : List Int} {e : Int} (h : Rd w g s xs e) (hb : Off g' w w') (hg : g ≠ g') (hs : s ≠ g') : Rd w' g s xs e := by
  obtain ⟨a, cap, c0, c1, f0, f1, l1, l2, r, n, k, b⟩ := h
  exact ⟨a, cap, (hb.cell (p := ⟨g, 0, none⟩) hg).trans c0, (hb.cell (p := ⟨g, 1, none⟩) hg).trans c1, (hb.frozen (p := ⟨g, 0, none⟩) hg).trans f0, (hb.frozen (p := ⟨g, 1, none⟩) hg).trans f1, l1, l2, r.off hb (fun x hx => by rw [(b x hx).2]; exact hs), n, k, b⟩

theorem Rd.kept {w w' : World} {g s : Nat} {xs : List Int} {e : Int} (h : Rd w g s xs e) (hb : Below w.heap.size w w') : Rd w' g s xs e := by
  obtain ⟨a, cap, c0, c1, f0, f1, l1, l2, r, n, k, b⟩ := h
  have hg : g < w.heap.size := World.block_lt_of_cell? _ _ c0
  refine ⟨a, cap, (hb.cell (p := ⟨g, 0, none⟩) hg).trans c0, (hb.cell (p := ⟨g, 1, none⟩) hg).trans c1, (hb.frozen (p := ⟨g, 0, none⟩) hg).trans f0, (hb.frozen (p := ⟨g, 1, none⟩) hg).trans f1, l1, l2, ?_, n, k, b⟩
  rcases r with h | ⟨hp, b', off, rfl, hlc, hm, hc, hz⟩
  · exact .inl h
  · exact .inr ⟨hp, b', off, rfl, hlc, hm, fun i hi => (hb.cell (p := ⟨b', off + i, none⟩) (World.block_lt_of_cell? _ _ (hc i hi))).trans (hc i hi), hz⟩

/-- What numberAhead answers. -/
def naE (xs : List Int) (most : Int) : Int := if shE xs.length xs = 0 then (if shN xs.length xs ≤ most then 0 else 5) else shE xs.length xs
def naN (xs : List Int) (most : Int) : Int := if naE xs most = 0 then shN xs.length xs else 0
def naU (xs : List Int) (most : Int) : Int := if naE xs most = 0 then shU xs.length xs else 0

set_option maxHeartbeats 1000000 in
theorem na_any (a : Option Addr) (cap : Nat) (xs : List Int) (most : Int) (w : World) (hw : Wid w) (hr : Row w a xs.length cap xs) :
    Calls Tryz.prog 71 #[.slice a xs.length cap, .int .i64 most] w fun e w' => e = .returned (.tuple #[.int .i64 (naN xs most), .int .i64 (naU xs most), .int .i64 (naE xs most)]) ∧ w' = w := by
  have hs := shortest_any a xs.length cap xs w hw hr
  unfold naN naU naE
  generalize xs.length = len at *
  generalize shN len xs = n at *
  generalize shU len xs = u at *
  generalize shE len xs = g at *
  by_cases h : g = 0
  · subst h
    by_cases h2 : n ≤ most
    · simp only [if_true, if_pos h2]
      go_enter Tryz.func71, Tryz.ntmps71
      go_wp2_with (go_at_call 89; refine hs.mono ?_; rintro e w' ⟨rfl, rfl⟩)
      go_ret3
      exact ⟨rfl, rfl⟩
    · have h3 : most < n := by omega
      simp only [if_true, if_neg h2]
      rw [if_neg (by decide), if_neg (by decide)]
      go_enter Tryz.func71, Tryz.ntmps71
      go_wp2_with (go_at_call 89; refine hs.mono ?_; rintro e w' ⟨rfl, rfl⟩)
      go_ret3
      exact ⟨rfl, rfl⟩
  · have h' : (g == 0) = false := by simpa using h
    simp only [if_neg h]
    go_enter Tryz.func71, Tryz.ntmps71
    go_wp2_with (go_at_call 89; refine hs.mono ?_; rintro e w' ⟨rfl, rfl⟩)
    go_ret3
    exact ⟨rfl, rfl⟩

set_option maxHeartbeats 1000000 in
theorem err_any (g s : Nat) (xs : List Int) (e : Int) (w : World) (h : Rd w g s xs e) :
    Calls Tryz.prog 52 #[.pointer (some ⟨g, 0, none⟩)] w fun r w' => r = .returned (.int .i64 e) ∧ w' = w := by
  obtain ⟨a, cap, c0, c1, f0, f1, l1, l2, hr, _, _, ha⟩ := h
  clear ha hr
  go_enter Tryz.func52, Tryz.ntmps52
  go_wp2
  go_ret
  exact ⟨rfl, rfl⟩

set_option maxHeartbeats 1000000 in
theorem left_any (g s : Nat) (xs : List Int) (e : Int) (w : World) (h : Rd w g s xs e) :
    Calls Tryz.prog 57 #[.pointer (some ⟨g, 0, none⟩)] w fun r w' => r = .returned (.int .i64 xs.length) ∧ w' = w := by
  obtain ⟨a, cap, c0, c1, f0, f1, l1, l2, hr, _, _, ha⟩ := h
  clear ha hr
  go_enter Tryz.func57, Tryz.ntmps57
  go_wp2
  go_ret
  exact ⟨rfl, rfl⟩

set_option maxHeartbeats 1000000 in
theorem stopped_any (g s : Nat) (xs : List Int) (e : Int) (w : World) (h : Rd w g s xs e) :
    Calls Tryz.prog 70 #[.pointer (some ⟨g, 0, none⟩)] w fun r w' => r = .returned (.bool (e != 0)) ∧ w' = w := by
  have c := err_any g s xs e w h
  go_enter Tryz.func70, Tryz.ntmps70
  go_wp2_with (go_at_call 52; refine c.mono ?_; rintro e w' ⟨rfl, rfl⟩)
  go_ret
  exact ⟨rfl, rfl⟩

end Go.Proofs.YtmplpdjkhdaniaaGreatDoor.Fi
namespace Go.Proofs.YtmplpdjkhdaniaaGreatDoor.Fi
open Go.RowKit
set_option maxRecDepth 100000

theorem bytes_drop (xs : List Int) (m : Nat) (hx : ∀ i, 0 ≤ xs.getD i 0 ∧ xs.getD i 0 < 256) : ∀ i, 0 ≤ (xs.drop m).getD i 0 ∧ (xs.drop m).getD i 0 < 256 := by
  intro i
  have := hx (m + i)
  simpa [List.getD, List.getElem?_drop] using this

theorem Row.drop {w : World} {b off len cap : Nat} {xs : List Int} (h : Row w (some ⟨b, off, none⟩) len cap xs) (n : Nat) (hn : n ≤ len) : Row w (some ⟨b, off + n, none⟩) (len - n) (cap - n) (xs.drop n) := by
  rcases h with h | ⟨hp, b', off', e, hlc, hm, hc, hz⟩
  · exact .inl (by omega)
  · cases e
    rcases Nat.eq_zero_or_pos (len - n) with h0 | h0
    · exact .inl h0
    · refine .inr ⟨h0, b, off + n, rfl, by omega, by omega, fun i hi => ?_, bytes_drop xs n hz⟩
      rw [show off + n + i = off + (n + i) by omega, hc (n + i) (by omega)]
      simp [List.getD, List.getElem?_drop]

set_option maxHeartbeats 1000000 in
theorem take_any (g s n : Nat) (xs : List Int) (e : Int) (w : World) (h : Rd w g s xs e) (hn : n ≤ xs.length) :
    Calls Tryz.prog 72 #[.pointer (some ⟨g, 0, none⟩), .int .i64 n] w fun r w' => r = .returned (.string (strB (xs.take n))) ∧ Rd w' g s (xs.drop n) e ∧ Off g w w' := by
  obtain ⟨a, cap, c0, c1, f0, f1, l1, l2, hr, ha0, hsg, ha⟩ := h
  have cv := conv_any a n cap xs w hn (hr.cut n hn)
  have hl : (xs.drop n).length = xs.length - n := List.length_drop ..
  have key : ∀ a', (a' = none → cap - n = 0) → (∀ x, a' = some x → x.spot = none ∧ x.block = s) → Row w a' (xs.length - n) (cap - n) (xs.drop n) → Rd (w.setCell ⟨g, 0, none⟩ (.slice a' (xs.length - n) (cap - n))) g s (xs.drop n) e := by
    intro a' h1 h2 h3
    refine ⟨a', cap - n, ?_, ?_, ?_, ?_, by omega, by omega, ?_, h1, hsg, h2⟩
    · rw [World.cell?_setCell_same _ _ _ c0, hl]
    · rw [World.cell?_setCell_other _ _ _ _ (by intro e; cases e), c1]
    · simpa using f0
    · simpa using f1
    · rw [hl]; exact h3.off (Off.setCell g 0 w _) (fun b hb => by rw [(h2 b hb).2]; exact hsg)
  unfold maxLen at l2
  have K : Hid (∀ a', (a' = none → cap - n = 0) → (∀ x, a' = some x → x.spot = none ∧ x.block = s) → Row w a' (xs.length - n) (cap - n) (xs.drop n) → Rd (w.setCell ⟨g, 0, none⟩ (.slice a' (xs.length - n) (cap - n))) g s (xs.drop n) e) := key
  clear key hl
  cases a with
  | none =>
    obtain rfl : cap = 0 := ha0 rfl
    obtain rfl : n = 0 := by omega
    obtain rfl : xs = [] := List.length_eq_zero_iff.1 (by omega)
    go_enter Tryz.func72, Tryz.ntmps72
    go_wp2
    go_ret
    exact ⟨rfl, by simpa using K.out none (by simp) (by simp) (.inl (by simp)), Off.setCell g 0 w _⟩
  | some x =>
    obtain ⟨b, off, spot⟩ := x
    obtain ⟨hs, hb⟩ := ha _ rfl
    simp only at hs hb
    subst hs
    subst hb
    have HR := hr.drop n hn
    generalize xs.length = len at *
    by_cases hc : cap = n
    · subst hc
      obtain rfl : cap = len := by omega
      go_enter Tryz.func72, Tryz.ntmps72
      go_wp2
      go_ret
      refine ⟨rfl, ?_, Off.setCell g 0 w _⟩
      have := K.out (some ⟨b, off, none⟩) (fun hx => by cases hx) (fun x hx => by cases hx; exact ⟨rfl, rfl⟩) (.inl (by omega))
      simpa using this
    · go_enter Tryz.func72, Tryz.ntmps72
      go_wp2
      go_ret
      exact ⟨rfl, K.out _ (fun hx => by cases hx) (fun x hx => by cases hx; exact ⟨rfl, rfl⟩) HR, Off.setCell g 0 w _⟩
end Go.Proofs.YtmplpdjkhdaniaaGreatDoor.Fi
namespace Go.Proofs.YtmplpdjkhdaniaaGreatDoor.Fi
open Go.RowKit
set_option maxRecDepth 100000

theorem Rd.fail {w : World} {g s : Nat} {xs : List Int} {e : Int} (h : Rd w g s xs e) (e' : Int) : Rd (w.setCell ⟨g, 1, none⟩ (.int .i64 e')) g s xs e' := by
  obtain ⟨a, cap, c0, c1, f0, f1, l1, l2, r, n, k, b⟩ := h
  refine ⟨a, cap, ?_, ?_, ?_, ?_, l1, l2, r.off (Off.setCell g 1 _ _) (fun x hx => by rw [(b x hx).2]; exact k), n, k, b⟩
  · rw [World.cell?_setCell_other _ _ _ _ (by intro e; cases e), c0]
  · rw [World.cell?_setCell_same _ _ _ c1]
  · simpa using f0
  · simpa using f1

/-- How far the bytes of a number that Shortest finds go. -/
theorem sh_bd (xs : List Int) (hb : ∀ i, 0 ≤ xs.getD i 0 ∧ xs.getD i 0 < 256) : 0 ≤ shN xs.length xs ∧ shN xs.length xs < 4611686018427387904 ∧ 0 ≤ shU xs.length xs ∧ shU xs.length xs ≤ xs.length := by
  unfold shN shU
  split
  · next h =>
    obtain ⟨h1, h2⟩ := h
    unfold getE at h1
    split at h1
    · simp at h1
    · next h3 =>
      have h4 : getN xs.length xs = gval xs (2 ^ gk xs - 1) := by unfold getN; rw [if_neg h3]
      have h5 : getU xs.length xs = (2 ^ gk xs : Nat) := by unfold getU; rw [if_neg h3]
      have hk : gk xs = 0 ∨ gk xs = 1 ∨ gk xs = 2 ∨ gk xs = 3 := by have := hb 0; unfold gk; omega
      have hg := gval_bd xs hb (2 ^ gk xs - 1)
      rw [h4, h5]
      rcases hk with hk | hk | hk | hk <;> rw [hk] at hg h3 ⊢ <;> simp only [Nat.reducePow, Nat.reduceSub, Int.reducePow, Int.reduceMul] at hg h3 ⊢ <;> omega
  · simp

theorem Rd.bytes {w : World} {g s : Nat} {xs : List Int} {e : Int} (h : Rd w g s xs e) : ∀ i, 0 ≤ xs.getD i 0 ∧ xs.getD i 0 < 256 := by
  obtain ⟨a, cap, c0, c1, f0, f1, l1, l2, r, n, k, b⟩ := h
  rcases r with h | ⟨_, _, _, _, _, _, _, hz⟩
  · obtain rfl := List.length_eq_zero_iff.1 h
    intro i
    simp
  · exact hz

theorem na_bd (xs : List Int) (most : Int) (hb : ∀ i, 0 ≤ xs.getD i 0 ∧ xs.getD i 0 < 256) : 0 ≤ naN xs most ∧ naN xs most < 4611686018427387904 ∧ 0 ≤ naU xs most ∧ naU xs most ≤ xs.length := by
  have h := sh_bd xs hb
  unfold naN naU
  split <;> omega

set_option maxHeartbeats 1000000 in
theorem num_any (g s : Nat) (xs : List Int) (most : Int) (w : World) (hw : Wid w) (h : Rd w g s xs 0) :
    Calls Tryz.prog 53 #[.pointer (some ⟨g, 0, none⟩), .int .i64 most] w fun r w' => r = .returned (.int .i64 (naN xs most)) ∧ Rd w' g s (xs.drop (naU xs most).toNat) (naE xs most) ∧ Off g w w' := by
  have cs := stopped_any g s xs 0 w h
  obtain ⟨u, hu⟩ : ∃ u : Nat, naU xs most = u := ⟨(naU xs most).toNat, by have := na_bd xs most h.bytes; omega⟩
  have hul : u ≤ xs.length := by have := na_bd xs most h.bytes; omega
  have ct := take_any g s u xs 0 w h hul
  have HF : Hid (∀ e', Rd (w.setCell ⟨g, 1, none⟩ (.int .i64 e')) g s xs e') := fun e' => h.fail e'
  have HE0 : Hid (naE xs most ≠ 0 → naN xs most = 0 ∧ u = 0) := fun hne => by unfold naN; unfold naU at hu; rw [if_neg hne] at hu ⊢; omega
  obtain ⟨a, cap, c0, c1, f0, f1, l1, l2, hr, _, _, ha⟩ := h
  have cn := na_any a cap xs most w hw hr
  rw [hu] at cn ⊢
  clear ha hr hu
  simp only [Int.toNat_natCast]
  generalize naN xs most = N at *
  generalize naE xs most = E at *
  by_cases hE : E = 0
  · subst hE
    go_enter Tryz.func53, Tryz.ntmps53
    go_wp2_with (first | (go_at_call 70; refine cs.mono ?_; rintro e w' ⟨rfl, rfl⟩) | (go_at_call 71; refine cn.mono ?_; rintro e w' ⟨rfl, rfl⟩) | (go_at_call 72; refine ct.mono ?_; rintro e w' ⟨rfl, h1, h2⟩))
    go_ret
    exact ⟨rfl, by assumption, by assumption⟩
  · have hne : (E != 0) = true := by simpa using hE
    obtain ⟨rfl, rfl⟩ := HE0.out hE
    clear HE0
    go_enter Tryz.func53, Tryz.ntmps53
    go_wp2_with (first | (go_at_call 70; refine cs.mono ?_; rintro e w' ⟨rfl, rfl⟩) | (go_at_call 71; refine cn.mono ?_; rintro e w' ⟨rfl, rfl⟩))
    go_ret
    exact ⟨rfl, HF.out E, Off.setCell g 1 _ _⟩

set_option maxHeartbeats 1000000 in
theorem num_stop (g s : Nat) (xs : List Int) (e most : Int) (w : World) (h : Rd w g s xs e) (he : e ≠ 0) :
    Calls Tryz.prog 53 #[.pointer (some ⟨g, 0, none⟩), .int .i64 most] w fun r w' => r = .returned (.int .i64 0) ∧ w' = w := by
  have cs := stopped_any g s xs e w h
  have hne : (e != 0) = true := by simpa using he
  clear h
  go_enter Tryz.func53, Tryz.ntmps53
  go_wp2_with (go_at_call 70; refine cs.mono ?_; rintro e w' ⟨rfl, rfl⟩)
  go_ret
  exact ⟨rfl, rfl⟩

/-- What Raw answers and leaves. -/
def raE (xs : List Int) (n : Int) : Int := if n < 0 then 2 else if (xs.length : Int) < n then 3 else 0
def raN (xs : List Int) (n : Int) : Nat := if raE xs n = 0 then n.toNat else 0

set_option maxHeartbeats 1000000 in
theorem raw_any (g s : Nat) (xs : List Int) (n : Int) (w : World) (h : Rd w g s xs 0) :
    Calls Tryz.prog 54 #[.pointer (some ⟨g, 0, none⟩), .int .i64 n] w fun r w' => r = .returned (.string (strB (xs.take (raN xs n)))) ∧ Rd w' g s (xs.drop (raN xs n)) (raE xs n) ∧ Off g w w' := by
  have cs := stopped_any g s xs 0 w h
  have HF : Hid (∀ e', Rd (w.setCell ⟨g, 1, none⟩ (.int .i64 e')) g s xs e') := fun e' => h.fail e'
  have hts := take_any g s n.toNat xs 0 w h
  unfold raN raE
  obtain ⟨a, cap, c0, c1, f0, f1, l1, l2, hr, _, _, ha⟩ := h
  clear ha hr
  by_cases hn : n < 0
  · simp only [if_pos hn]
    rw [if_neg (by decide)]
    clear hts
    go_enter Tryz.func54, Tryz.ntmps54
    go_wp2_with (go_at_call 70; refine cs.mono ?_; rintro e w' ⟨rfl, rfl⟩)
    go_ret
    exact ⟨rfl, HF.out 2, Off.setCell g 1 _ _⟩
  · simp only [if_neg hn]
    obtain ⟨m, rfl⟩ : ∃ m : Nat, n = m := ⟨n.toNat, by omega⟩
    simp only [Int.toNat_natCast] at hts ⊢
    by_cases hl : (xs.length : Int) < m
    · simp only [if_pos hl]
      rw [if_neg (by decide)]
      clear hts
      go_enter Tryz.func54, Tryz.ntmps54
      go_wp2_with (go_at_call 70; refine cs.mono ?_; rintro e w' ⟨rfl, rfl⟩)
      go_ret
      exact ⟨rfl, HF.out 3, Off.setCell g 1 _ _⟩
    · simp only [if_neg hl, if_true]
      have ct := hts (by omega)
      have hl' : m ≤ xs.length := by omega
      clear hts hl hn
      go_enter Tryz.func54, Tryz.ntmps54
      go_wp2_with (first | (go_at_call 70; refine cs.mono ?_; rintro e w' ⟨rfl, rfl⟩) | (go_at_call 72; refine ct.mono ?_; rintro e w' ⟨rfl, h1, h2⟩))
      go_ret
      exact ⟨rfl, by assumption, by assumption⟩

set_option maxHeartbeats 1000000 in
theorem raw_stop (g s : Nat) (xs : List Int) (e n : Int) (w : World) (h : Rd w g s xs e) (he : e ≠ 0) :
    Calls Tryz.prog 54 #[.pointer (some ⟨g, 0, none⟩), .int .i64 n] w fun r w' => r = .returned (.string (strB [])) ∧ w' = w := by
  have cs := stopped_any g s xs e w h
  have hne : (e != 0) = true := by simpa using he
  clear h
  go_enter Tryz.func54, Tryz.ntmps54
  go_wp2_with (go_at_call 70; refine cs.mono ?_; rintro e w' ⟨rfl, rfl⟩)
  go_ret
  exact ⟨rfl, rfl⟩

/-- What Text answers and leaves. -/
def txE (xs : List Int) (most : Int) : Int := if naE xs most = 0 then (if naU xs most + naN xs most ≤ xs.length then 0 else 3) else naE xs most
def txS (xs : List Int) (most : Int) : List Int := if txE xs most = 0 then (xs.drop (naU xs most).toNat).take (naN xs most).toNat else []
def txR (xs : List Int) (most : Int) : List Int := if txE xs most = 0 then xs.drop ((naU xs most).toNat + (naN xs most).toNat) else xs

set_option maxHeartbeats 2000000 in
theorem text_any (g s : Nat) (xs : List Int) (most : Int) (w : World) (hw : Wid w) (h : Rd w g s xs 0) :
    Calls Tryz.prog 55 #[.pointer (some ⟨g, 0, none⟩), .int .i64 most] w fun r w' => r = .returned (.string (strB (txS xs most))) ∧ Rd w' g s (txR xs most) (txE xs most) ∧ Off g w w' := by
  have cs := stopped_any g s xs 0 w h
  have bd := na_bd xs most h.bytes
  obtain ⟨u, hu⟩ : ∃ u : Nat, naU xs most = u := ⟨(naU xs most).toNat, by omega⟩
  obtain ⟨k, hk⟩ : ∃ k : Nat, naN xs most = k := ⟨(naN xs most).toNat, by omega⟩
  have hul : u ≤ xs.length := by omega
  have hk62 : k < 4611686018427387904 := by omega
  have ct := take_any g s u xs 0 w h hul
  have HF : Hid (∀ e', Rd (w.setCell ⟨g, 1, none⟩ (.int .i64 e')) g s xs e') := fun e' => h.fail e'
  obtain ⟨a, cap, c0, c1, f0, f1, l1, l2, hr, _, _, ha⟩ := h
  have cn := na_any a cap xs most w hw hr
  have hlm : xs.length ≤ 9223372036854775807 := by unfold maxLen at l2; omega
  unfold txS txR txE
  rw [hu, hk] at cn ⊢
  clear ha hr hu hk bd
  simp only [Int.toNat_natCast]
  generalize naE xs most = E at *
  by_cases hE : E = 0
  · subst hE
    by_cases hl : u + k ≤ xs.length
    · have hl' : ((u : Int) + (k : Int) ≤ (xs.length : Int)) := by omega
      simp only [if_true, if_pos hl']
      have HK : Hid (∀ w1, Rd w1 g s (xs.drop u) 0 → Calls Tryz.prog 72 #[.pointer (some ⟨g, 0, none⟩), .int .i64 k] w1 fun r w' => r = .returned (.string (strB ((xs.drop u).take k))) ∧ Rd w' g s (xs.drop (u + k)) 0 ∧ Off g w1 w') := by
        intro w1 h1
        have := take_any g s k (xs.drop u) 0 w1 h1 (by simp; omega)
        rwa [List.drop_drop] at this
      have hgt : ¬ ((k : Int) > (xs.length : Int) - (u : Int)) := by omega
      clear hl'
      go_enter Tryz.func55, Tryz.ntmps55
      go_wp2_with (first | (go_at_call 70; refine cs.mono ?_; rintro e w' ⟨rfl, rfl⟩) | (go_at_call 71; refine cn.mono ?_; rintro e w' ⟨rfl, rfl⟩) | fail)
      refine ct.mono ?_
      rintro e w1 ⟨rfl, h1, h2⟩
      have c2 := HK.out w1 h1
      clear ct c0 c1 f0 f1
      go_wp2_with (go_at_call 72; refine c2.mono ?_; rintro e w' ⟨rfl, h3, h4⟩)
      go_ret
      exact ⟨rfl, by assumption, h2.trans (by assumption)⟩
    · have hl' : ¬ ((u : Int) + (k : Int) ≤ (xs.length : Int)) := by omega
      simp only [if_true, if_neg hl']
      rw [if_neg (by decide), if_neg (by decide)]
      have hgt : (xs.length : Int) - (u : Int) < (k : Int) := by omega
      clear hl' hl ct
      go_enter Tryz.func55, Tryz.ntmps55
      go_wp2_with (first | (go_at_call 70; refine cs.mono ?_; rintro e w' ⟨rfl, rfl⟩) | (go_at_call 71; refine cn.mono ?_; rintro e w' ⟨rfl, rfl⟩))
      go_ret
      exact ⟨rfl, HF.out 3, Off.setCell g 1 _ _⟩
  · have hne : (E != 0) = true := by simpa using hE
    have heq : (E == 0) = false := by simpa using hE
    simp only [if_neg hE]
    clear ct
    go_enter Tryz.func55, Tryz.ntmps55
    go_wp2_with (first | (go_at_call 70; refine cs.mono ?_; rintro e w' ⟨rfl, rfl⟩) | (go_at_call 71; refine cn.mono ?_; rintro e w' ⟨rfl, rfl⟩))
    go_ret
    exact ⟨rfl, HF.out E, Off.setCell g 1 _ _⟩

set_option maxHeartbeats 1000000 in
theorem text_stop (g s : Nat) (xs : List Int) (e most : Int) (w : World) (h : Rd w g s xs e) (he : e ≠ 0) :
    Calls Tryz.prog 55 #[.pointer (some ⟨g, 0, none⟩), .int .i64 most] w fun r w' => r = .returned (.string (strB [])) ∧ w' = w := by
  have cs := stopped_any g s xs e w h
  have hne : (e != 0) = true := by simpa using he
  clear h
  go_enter Tryz.func55, Tryz.ntmps55
  go_wp2_with (go_at_call 70; refine cs.mono ?_; rintro e w' ⟨rfl, rfl⟩)
  go_ret
  exact ⟨rfl, rfl⟩

theorem strB_size (l : List Int) : (strB l).size = l.length := by simp [strB, ByteArray.size]

/-- What Byte answers. -/
def byV (xs : List Int) : Int := xs.getD 0 0

set_option maxHeartbeats 1000000 in
theorem byte_any (g s : Nat) (xs : List Int) (w : World) (h : Rd w g s xs 0) :
    Calls Tryz.prog 51 #[.pointer (some ⟨g, 0, none⟩)] w fun r w' => r = .returned (.int .u8 (byV xs)) ∧ Rd w' g s (xs.drop (raN xs 1)) (raE xs 1) ∧ Off g w w' := by
  have c := raw_any g s xs 1 w h
  have hb := h.bytes 0
  clear h
  cases xs with
  | nil =>
    have e1 : raN [] 1 = 0 := by decide
    have e2 : raE [] 1 = 3 := by decide
    rw [e1, e2] at c ⊢
    have hs : strB (List.take 0 []) = ByteArray.mk #[] := rfl
    rw [hs] at c
    go_enter Tryz.func51, Tryz.ntmps51
    go_wp2_with (go_at_call 54; refine c.mono ?_; rintro e w' ⟨rfl, h1, h2⟩)
    go_ret
    exact ⟨rfl, by assumption, by assumption⟩
  | cons x l =>
    have e2 : raE (x :: l) 1 = 0 := by unfold raE; rw [if_neg (by decide), if_neg (by simp; omega)]
    have e1 : raN (x :: l) 1 = 1 := by unfold raN; rw [if_pos e2]; rfl
    rw [e1, e2] at c ⊢
    have hs : strB (List.take 1 (x :: l)) = ByteArray.mk #[UInt8.ofNat x.toNat] := by simp [strB]
    rw [hs] at c
    have hx : 0 ≤ x ∧ x < 256 := by simpa using hb
    have hv : byV (x :: l) = x := rfl
    rw [hv]
    clear hb hs e1 e2 hv
    obtain ⟨k, rfl⟩ : ∃ k : Nat, x = k := ⟨x.toNat, by omega⟩
    go_enter Tryz.func51, Tryz.ntmps51
    go_wp2_with (go_at_call 54; refine c.mono ?_; rintro e w' ⟨rfl, h1, h2⟩)
    go_ret
    refine ⟨?_, by assumption, by assumption⟩
    show Ending.returned (Value.int .u8 ((UInt8.ofNat k).toNat : Int)) = _
    have : (UInt8.ofNat k).toNat = k := by rw [UInt8.toNat_ofNat']; omega
    rw [this]

set_option maxHeartbeats 1000000 in
theorem byte_stop (g s : Nat) (xs : List Int) (e : Int) (w : World) (h : Rd w g s xs e) (he : e ≠ 0) :
    Calls Tryz.prog 51 #[.pointer (some ⟨g, 0, none⟩)] w fun r w' => r = .returned (.int .u8 0) ∧ w' = w := by
  have c := raw_stop g s xs e 1 w h he
  have hs : strB [] = ByteArray.mk #[] := rfl
  rw [hs] at c
  clear h hs
  go_enter Tryz.func51, Tryz.ntmps51
  go_wp2_with (go_at_call 54; refine c.mono ?_; rintro e w' ⟨rfl, rfl⟩)
  go_ret
  exact ⟨rfl, rfl⟩
end Go.Proofs.YtmplpdjkhdaniaaGreatDoor.Fi
