/-
  Parts, records and states, plainly.
-/
import Derived.Test.YtcenchnmibdebaaDoorPl
import Derived.Test.YtcenchnmibdebaaDoorBa
namespace Go.Proofs.YtcenchnmibdebaaDoor
open Go.RowKit
set_option maxRecDepth 100000

/-- A part: its ID, its path, its sum, its size, how far it is. -/
structure Pa where
  i : Int
  p : ByteArray
  s : List Int
  n : Int
  o : Int
/-- A record: its kind, and what a part has. -/
structure Rc where
  k : Int
  x : Pa
/-- A state. -/
structure Ste where
  l : List Pa
  n : Int
def z32 : List Int := List.replicate 32 0
theorem z32_len : z32.length = 32 := by simp [z32]
def pa0 : Pa := ⟨0, ⟨#[]⟩, z32, 0, 0⟩
def rc0 : Rc := ⟨0, pa0⟩
def st0 : Ste := ⟨[], 0⟩
def i64 (n : Int) : Prop := -9223372036854775808 ≤ n ∧ n ≤ 9223372036854775807
def Pa.ok (x : Pa) : Prop := x.s.length = 32 ∧ (∀ k, 0 ≤ x.s.getD k 0 ∧ x.s.getD k 0 < 256) ∧ i64 x.i ∧ i64 x.n ∧ i64 x.o
def Rc.ok (r : Rc) : Prop := 0 ≤ r.k ∧ r.k < 256 ∧ r.x.ok
theorem z32_bytes : ∀ k, 0 ≤ z32.getD k 0 ∧ z32.getD k 0 < 256 := byteList z32 (by decide)
theorem i64_0 : i64 0 := by unfold i64; omega
theorem pa0_ok : pa0.ok := ⟨z32_len, z32_bytes, i64_0, i64_0, i64_0⟩
theorem rc0_ok : rc0.ok := ⟨Int.le_refl 0, by show (0 : Int) < 256; omega, pa0_ok⟩
def Pa.cells (x : Pa) : List Value := .int .i64 x.i :: .string x.p :: (x.s.map (Value.int .u8) ++ [.int .i64 x.n, .int .i64 x.o])
def Rc.cells (r : Rc) : List Value := .int .u8 r.k :: r.x.cells
def Pa.val (x : Pa) : Value := .agg x.cells.toArray
def Rc.val (r : Rc) : Value := .agg r.cells.toArray
theorem Pa.len {x : Pa} (h : x.ok) : x.cells.length = 36 := by simp [Pa.cells, h.1]
theorem Rc.len {r : Rc} (h : r.ok) : r.cells.length = 37 := by simp [Rc.cells, Pa.len h.2.2]
theorem Pa.one (x : Pa) : ∀ v ∈ x.cells, v.oneCell' = true := by
  intro v hv
  simp only [Pa.cells, List.mem_cons, List.mem_append, List.mem_map, List.not_mem_nil, or_false] at hv
  rcases hv with rfl | rfl | ⟨z, _, rfl⟩ | rfl | rfl <;> rfl
theorem Rc.one (r : Rc) : ∀ v ∈ r.cells, v.oneCell' = true := by
  intro v hv
  rcases List.mem_cons.1 hv with rfl | hv
  · rfl
  · exact r.x.one v hv
theorem Pa.inj {x y : Pa} (hx : x.ok) (hy : y.ok) (h : x.cells = y.cells) : x = y := by
  obtain ⟨a1, a2, a3, a4, a5⟩ := x
  obtain ⟨b1, b2, b3, b4, b5⟩ := y
  simp only [Pa.cells, List.cons.injEq, Value.string.injEq, Value.int.injEq, true_and] at h
  obtain ⟨h1, h2, h3⟩ := h
  obtain ⟨h4, h5⟩ := List.append_inj h3 (by simp only [List.length_map]; exact hx.1.trans hy.1.symm)
  have h6 := List.map_inj_right (f := Value.int .u8) (fun a b e => by cases e; rfl) |>.1 h4
  simp at h5
  obtain ⟨h7, h8⟩ := h5
  subst h1 h2 h6 h7 h8
  rfl
theorem Rc.inj {x y : Rc} (hx : x.ok) (hy : y.ok) (h : x.cells = y.cells) : x = y := by
  obtain ⟨a, x⟩ := x
  obtain ⟨b, y⟩ := y
  simp only [Rc.cells, List.cons.injEq, Value.int.injEq, true_and] at h
  obtain ⟨h1, h2⟩ := h
  have := Pa.inj hx.2.2 hy.2.2 h2
  subst h1 this
  rfl
abbrev atP (l : List Pa) (i : Nat) : Pa := l.getD i pa0
abbrev atR (l : List Rc) (i : Nat) : Rc := l.getD i rc0
theorem atP_eq (l : List Pa) (i : Nat) (h : i < l.length) : atP l i = l[i] := by simp [atP, List.getD, h]
theorem atR_eq (l : List Rc) (i : Nat) (h : i < l.length) : atR l i = l[i] := by simp [atR, List.getD, h]
theorem atP_mem (l : List Pa) (i : Nat) (h : i < l.length) : atP l i ∈ l := by rw [atP_eq l i h]; exact List.getElem_mem h
theorem atR_mem (l : List Rc) (i : Nat) (h : i < l.length) : atR l i ∈ l := by rw [atR_eq l i h]; exact List.getElem_mem h
/-- The first part of a path. -/
def fnd (l : List Pa) (q : ByteArray) : Option Pa := l.find? fun x => decide (x.p = q)
/-- The place of the first part of an ID. -/
def plc (l : List Pa) (i : Int) : Nat := l.findIdx fun x => decide (x.i = i)
theorem fnd_hit (l : List Pa) (q : ByteArray) (j : Nat) (hj : j < l.length) (h1 : ∀ k, k < j → ¬ (atP l k).p = q) (h2 : (atP l j).p = q) : fnd l q = some (atP l j) := by
  unfold fnd
  rw [List.find?_eq_some_iff_getElem]
  refine ⟨by simpa using h2, j, hj, (atP_eq l j hj).symm, fun k hk => ?_⟩
  have := h1 k hk
  rw [atP_eq l k (by omega)] at this
  simpa using this
theorem fnd_none (l : List Pa) (q : ByteArray) (h : ∀ k, k < l.length → ¬ (atP l k).p = q) : fnd l q = none := by
  unfold fnd
  rw [List.find?_eq_none]
  intro x hx
  obtain ⟨k, hk, rfl⟩ := List.getElem_of_mem hx
  have := h k hk
  rw [atP_eq l k hk] at this
  simpa using this
theorem plc_hit (l : List Pa) (i : Int) (j : Nat) (hj : j < l.length) (h1 : ∀ k, k < j → ¬ (atP l k).i = i) (h2 : (atP l j).i = i) : plc l i = j := by
  unfold plc
  rw [List.findIdx_eq hj]
  refine ⟨by rw [← atP_eq l j hj]; simpa using h2, fun k hk => ?_⟩
  have := h1 k hk
  rw [atP_eq l k (by omega)] at this
  simpa using this
theorem plc_none (l : List Pa) (i : Int) (h : ∀ k, k < l.length → ¬ (atP l k).i = i) : plc l i = l.length := by
  unfold plc
  rw [List.findIdx_eq_length]
  intro x hx
  obtain ⟨k, hk, rfl⟩ := List.getElem_of_mem hx
  have := h k hk
  rw [atP_eq l k hk] at this
  simpa using this
theorem plc_le (l : List Pa) (i : Int) : plc l i ≤ l.length := List.findIdx_le_length
/-- What a record makes of a state; none: it may not. -/
def step (s : Ste) (r : Rc) : Option Ste :=
  if r.k = 0 then (if (fnd s.l r.x.p).isSome = true ∨ 64 ≤ s.l.length ∨ r.x.i < s.n then none else some ⟨s.l ++ [{ r.x with o := 0 }], r.x.i + 1⟩)
  else if r.k = 1 then (if plc s.l r.x.i < s.l.length ∧ (atP s.l (plc s.l r.x.i)).o ≤ r.x.o ∧ r.x.o ≤ (atP s.l (plc s.l r.x.i)).n then some ⟨s.l.set (plc s.l r.x.i) { atP s.l (plc s.l r.x.i) with o := r.x.o }, s.n⟩ else none)
  else if r.k = 2 ∨ r.k = 3 then (if plc s.l r.x.i < s.l.length then some ⟨s.l.eraseIdx (plc s.l r.x.i), s.n⟩ else none)
  else if r.k = 4 then (if r.x.i < s.n then none else some ⟨s.l, r.x.i + 1⟩)
  else none
/-- What records make, one behind the other, up to the first that is refused; how many were taken. -/
def play (s : Ste) : List Rc → Ste × Nat
  | [] => (s, 0)
  | r :: l => match step s r with
    | none => (s, 0)
    | some t => ((play t l).1, (play t l).2 + 1)
/-- The records of a part. -/
def imgP (x : Pa) : List Rc := ⟨0, { x with o := 0 }⟩ :: (if 0 < x.o then [⟨1, ⟨x.i, ⟨#[]⟩, z32, 0, x.o⟩⟩] else [])
def imgL (l : List Pa) : List Rc := (l.map imgP).flatten
def img (s : Ste) : List Rc := imgL s.l ++ (if (play st0 (imgL s.l)).1.n < s.n then [⟨4, ⟨s.n - 1, ⟨#[]⟩, z32, 0, 0⟩⟩] else [])
end Go.Proofs.YtcenchnmibdebaaDoor
