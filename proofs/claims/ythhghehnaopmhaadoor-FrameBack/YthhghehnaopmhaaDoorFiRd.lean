/-
  What the methods of a field.Reader answer and leave, for whatever bytes are left and whatever error it bears: nothing but the reader itself is written. Condition: the package-level table of widths holds 1, 2, 4, 8.
-/
import Derived.Test.YthhghehnaopmhaaDoorFiPutGet
namespace Go.Proofs.YthhghehnaopmhaaDoor.Fi
open Go.RowKit
set_option maxRecDepth 100000

/-- All but block g is as it was. -/
structure Off (g : Nat) (w w' : World) : Prop where
  os : w'.os = w.os
  tape : w'.tape = w.tape
  output : w'.output = w.output
  size : w'.heap.size = w.heap.size
  block : ∀ k, k ≠ g → w'.heap[k]? = w.heap[k]?

theorem Off.refl (g : Nat) (w : World) : Off g w w := ⟨rfl, rfl, rfl, rfl, fun _ _ => rfl⟩
theorem Off.trans {g : Nat} {a b c : World} (h : Off g a b) (k : Off g b c) : Off g a c :=
  ⟨k.os.trans h.os, k.tape.trans h.tape, k.output.trans h.output, k.size.trans h.size, fun i hi => (k.block i hi).trans (h.block i hi)⟩
theorem Off.setCell (g o : Nat) (w : World) (v : Value) : Off g w (w.setCell ⟨g, o, none⟩ v) :=
  ⟨rfl, rfl, rfl, by simp [World.setCell], fun k hk => Below.heap_setCell _ _ _ _ hk⟩
theorem Off.below {g B : Nat} {w w' : World} (h : Off g w w') (hB : B ≤ g) : Below B w w' :=
  ⟨h.os, h.tape, h.output, by rw [h.size]; exact Nat.le_refl _, fun k hk => h.block k (by omega)⟩
theorem Off.cell {g : Nat} {w w' : World} (h : Off g w w') {p : Addr} (hp : p.block ≠ g) : w'.cell? p = w.cell? p := World.cell?_of_block (h.block _ hp)
theorem Off.frozen {g : Nat} {w w' : World} (h : Off g w w') {p : Addr} (hp : p.block ≠ g) : w'.frozen? p = w.frozen? p := World.frozen?_of_block (h.block _ hp)
theorem Wid.off {w w' : World} {g : Nat} (h : Wid w) (hb : Off g w w') (hg : 1 < g) : Wid w' := h.below (hb.below (B := g) (Nat.le_refl _)) hg
theorem Row.off {w w' : World} {g : Nat} {a : Option Addr} {len cap : Nat} {zs : List Int} (h : Row w a len cap zs) (hb : Off g w w') (hB : ∀ b, a = some b → b.block ≠ g) : Row w' a len cap zs := by
  rcases h with h | ⟨hp, b, off, rfl, hlc, hm, hc, hz⟩
  · exact .inl h
  · exact .inr ⟨hp, b, off, rfl, hlc, hm, fun i hi => (hb.cell (p := ⟨b, off + i, none⟩) (hB ⟨b, off, none⟩ rfl)).trans (hc i hi), hz⟩

/-- A reader at block g: the bytes xs are left, in block s, its error is e. -/
def Rd (w : World) (g s : Nat) (xs : List Int) (e : Int) : Prop :=
  ∃ a cap, w.cell? ⟨g, 0, none⟩ = some (.slice a xs.length cap) ∧ w.cell? ⟨g, 1, none⟩ = some (.int .i64 e) ∧ w.frozen? ⟨g, 0, none⟩ = false ∧ w.frozen? ⟨g, 1, none⟩ = false ∧
    xs.length ≤ cap ∧ cap ≤ maxLen ∧ Row w a xs.length cap xs ∧ (a = none → cap = 0) ∧ s ≠ g ∧ ∀ x, a = some x → x.spot = none ∧ x.block = s

theorem Rd.off {w w' : World} {g s g' : Nat} {xs : List Int} {e : Int} (h : Rd w g s xs e) (hb : Off g' w w') (hg : g ≠ g') (hs : s ≠ g') : Rd w' g s xs e := by
  obtain ⟨a, cap, c0, c1, f0, f1, l1, l2, r, n, k, b⟩ := h
  exact ⟨a, cap, (hb.cell (p := ⟨g, 0, none⟩) hg).trans c0, (hb.cell (p := ⟨g, 1, none⟩) hg).trans c1, (hb.frozen (p := ⟨g, 0, none⟩) hg).trans f0, (hb.frozen (p := ⟨g, 1, none⟩) hg).trans f1, l1, l2, r.off hb (fun x hx => by rw [(b x hx).2]; exact hs), n, k, b⟩

theorem Rd.kept {w w' : World} {g s : Nat} {xs : List Int} {e : Int} (h : Rd w g s xs e) (hb : Below w.heap.size w w') : Rd w' g s xs e := by
  obtain ⟨a, cap, c0, c1, f0, f1, l1, l2, r, n, k, b⟩ := h
  have hg : g < w.heap.size := World.block_lt_of_cell? _ _ c0
  refine ⟨a, cap, (hb.cell (p := ⟨g, 0, none⟩) hg).trans c0, (hb.cell (p := ⟨g, 1, none⟩) hg).trans c1, (hb.frozen (p := ⟨g, 0, none⟩) hg).trans f0, (hb.frozen (p := ⟨g, 1, none⟩) hg).trans f1, l1, l2, ?_, n, k, b⟩
  rcases r with h | ⟨hp, b', off, rfl, hlc, hm, hc, hz⟩
  · exact .inl h
  · exact .inr ⟨hp, b', off, rfl, hlc, hm, fun i hi => (hb.cell (p := ⟨b', off + i, none⟩) (World.block_lt_of_cell? _ _ (hc i hi))).trans (hc i hi), hz⟩

/-- What numberAhead answers. -/
def naE (xs : List Int) (most : Int) : Int := if shE xs.length xs = 0 then (if shN xs.length xs ≤ most then 0 else 5) else shE xs.length xs
def naN (xs : List Int) (most : Int) : Int := if naE xs most = 0 then shN xs.length xs else 0
def naU (xs : List Int) (most : Int) : Int := if naE xs most = 0 then shU xs.length xs else 0

set_option maxHeartbeats 1000000 in
theorem na_any (a : Option Addr) (cap : Nat) (xs : List Int) (most : Int) (w : World) (hw : Wid w) (hr : Row w a xs.length cap xs) :
    Calls Tryd.prog 54 #[.slice a xs.length cap, .int .i64 most] w fun e w' => e = .returned (.tuple #[.int .i64 (naN xs most), .int .i64 (naU xs most), .int .i64 (naE xs most)]) ∧ w' = w := by
  have hs := shortest_any a xs.length cap xs w hw hr
  unfold naN naU naE
  generalize xs.length = len at *
  generalize shN len xs = n at *
  generalize shU len xs = u at *
  generalize shE len xs = g at *
  by_cases h : g = 0
  · subst h
    by_cases h2 : n ≤ most
    · simp only [if_true, if_pos h2]
      go_enter Tryd.func54, Tryd.ntmps54
      go_wp2_with (go_at_call 66; refine hs.mono ?_; rintro e w' ⟨rfl, rfl⟩)
      go_ret3
      exact ⟨rfl, rfl⟩
    · have h3 : most < n := by omega
      simp only [if_true, if_neg h2]
      rw [if_neg (by decide), if_neg (by decide)]
      go_enter Tryd.func54, Tryd.ntmps54
      go_wp2_with (go_at_call 66; refine hs.mono ?_; rintro e w' ⟨rfl, rfl⟩)
      go_ret3
      exact ⟨rfl, rfl⟩
  · have h' : (g == 0) = false := by simpa using h
    simp only [if_neg h]
    go_enter Tryd.func54, Tryd.ntmps54
    go_wp2_with (go_at_call 66; refine hs.mono ?_; rintro e w' ⟨rfl, rfl⟩)
    go_ret3
    exact ⟨rfl, rfl⟩

set_option maxHeartbeats 1000000 in
theorem err_any (g s : Nat) (xs : List Int) (e : Int) (w : World) (h : Rd w g s xs e) :
    Calls Tryd.prog 38 #[.pointer (some ⟨g, 0, none⟩)] w fun r w' => r = .returned (.int .i64 e) ∧ w' = w := by
  obtain ⟨a, cap, c0, c1, f0, f1, l1, l2, hr, _, _, ha⟩ := h
  clear ha hr
  go_enter Tryd.func38, Tryd.ntmps38
  go_wp2
  go_ret
  exact ⟨rfl, rfl⟩

set_option maxHeartbeats 1000000 in
theorem left_any (g s : Nat) (xs : List Int) (e : Int) (w : World) (h : Rd w g s xs e) :
    Calls Tryd.prog 43 #[.pointer (some ⟨g, 0, none⟩)] w fun r w' => r = .returned (.int .i64 xs.length) ∧ w' = w := by
  obtain ⟨a, cap, c0, c1, f0, f1, l1, l2, hr, _, _, ha⟩ := h
  clear ha hr
  go_enter Tryd.func43, Tryd.ntmps43
  go_wp2
  go_ret
  exact ⟨rfl, rfl⟩

set_option maxHeartbeats 1000000 in
theorem stopped_any (g s : Nat) (xs : List Int) (e : Int) (w : World) (h : Rd w g s xs e) :
    Calls Tryd.prog 53 #[.pointer (some ⟨g, 0, none⟩)] w fun r w' => r = .returned (.bool (e != 0)) ∧ w' = w := by
  have c := err_any g s xs e w h
  go_enter Tryd.func53, Tryd.ntmps53
  go_wp2_with (go_at_call 38; refine c.mono ?_; rintro e w' ⟨rfl, rfl⟩)
  go_ret
  exact ⟨rfl, rfl⟩

/-- What Done answers. -/
def dnE (xs : List Int) (e : Int) : Int := if e = 0 then (if 0 < xs.length then 4 else 0) else e

end Go.Proofs.YthhghehnaopmhaaDoor.Fi
