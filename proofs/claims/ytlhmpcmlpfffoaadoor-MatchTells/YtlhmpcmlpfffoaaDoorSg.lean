/-
  Sums of blocks, plainly; and as the walks read them: slices of sums, sums in a row of the call's own.
-/
import Derived.Test.YtlhmpcmlpfffoaaDoorBa
import Derived.Deep.MidRow
namespace Go.Proofs.YtlhmpcmlpfffoaaDoor
open Go.RowKit

/-- A block's sums: the weak one, the strong one. -/
structure Sg where
  k : Int
  s : List Int
/-- The zero sum. -/
def z32 : List Int := List.replicate 32 0
theorem z32_len : z32.length = 32 := by simp [z32]
theorem z32_bytes : ∀ k, 0 ≤ z32.getD k 0 ∧ z32.getD k 0 < 256 := byteList z32 (by decide)
/-- The empty sums. -/
def it0 : Sg := ⟨0, z32⟩
/-- The sums at a place. -/
abbrev atI (l : List Sg) (i : Nat) : Sg := l.getD i it0
theorem atI_eq (l : List Sg) (i : Nat) (h : i < l.length) : atI l i = l[i] := by simp [atI, List.getD, h]
theorem atI_mem (l : List Sg) (i : Nat) (h : i < l.length) : atI l i ∈ l := by rw [atI_eq l i h]; exact List.getElem_mem h
/-- What all sums of Go's are: 32 bytes, a number of 32 bits. -/
def Sg.ok (x : Sg) : Prop := x.s.length = 32 ∧ (∀ k, 0 ≤ x.s.getD k 0 ∧ x.s.getD k 0 < 256) ∧ 0 ≤ x.k ∧ x.k < 4294967296
theorem it0_ok : it0.ok := ⟨z32_len, z32_bytes, by decide, by decide⟩
/-- Their cells. -/
def Sg.cells (x : Sg) : List Value := .int .u32 x.k :: x.s.map (Value.int .u8)
def Sg.val (x : Sg) : Value := .agg x.cells.toArray
theorem Sg.len {x : Sg} (h : x.ok) : x.cells.length = 33 := by simp [Sg.cells, h.1]
theorem Sg.one (x : Sg) : ∀ v ∈ x.cells, v.oneCell' = true := by
  intro v hv
  simp only [Sg.cells, List.mem_cons, List.mem_map] at hv
  rcases hv with rfl | ⟨z, _, rfl⟩ <;> rfl
theorem Sg.inj {x y : Sg} (h : x.cells = y.cells) : x = y := by
  cases x; cases y
  simp only [Sg.cells, List.cons.injEq, Value.int.injEq, true_and] at h
  obtain ⟨h3, h4⟩ := h
  have h5 := List.map_inj_right (f := Value.int .u8) (fun a b e => by cases e; rfl) |>.1 h4
  subst h3 h5
  rfl
/-- A value that is a slice of the sums l. -/
def GS (w : World) (v : Value) (l : List Sg) : Prop :=
  ∃ a c, v = .slice a l.length c ∧ l.length ≤ c ∧ c ≤ maxLen ∧ (a = none → c = 0) ∧ (∀ x ∈ l, x.ok) ∧ (l = [] ∨ ∃ b off, a = some ⟨b, off, none⟩ ∧ ∀ i, i < l.length → w.rangeAt b (off + i * 33) (atI l i).cells)
theorem range_kept {w w' : World} {b o : Nat} {cs : List Value} (h : w.rangeAt b o cs) (hb : Below w.heap.size w w') : w'.rangeAt b o cs := fun j v hv =>
  (hb.cell (World.block_lt_of_cell? _ _ (h j v hv))).trans (h j v hv)
theorem GS.kept {w w' : World} {v : Value} {l : List Sg} (h : GS w v l) (hb : Below w.heap.size w w') : GS w' v l := by
  obtain ⟨a, c, h1, h2, h3, h4, h5, h6⟩ := h
  refine ⟨a, c, h1, h2, h3, h4, h5, ?_⟩
  rcases h6 with h6 | ⟨b, off, e, h7⟩
  · exact .inl h6
  · exact .inr ⟨b, off, e, fun i hi => range_kept (h7 i hi) hb⟩
theorem GS.shape {w : World} {v : Value} {l : List Sg} (h : GS w v l) : ∃ a c, v = .slice a l.length c ∧ l.length ≤ c ∧ c ≤ maxLen ∧ (a = none → c = 0) := by
  obtain ⟨a, c, h1, h2, h3, h4, _⟩ := h
  exact ⟨a, c, h1, h2, h3, h4⟩
theorem GS.ok {w : World} {v : Value} {l : List Sg} (h : GS w v l) : ∀ x ∈ l, x.ok := by
  obtain ⟨a, c, h1, h2, h3, h4, h5, _⟩ := h
  exact h5
theorem GS.nil (w : World) : GS w (.slice none 0 0) [] := ⟨none, 0, rfl, Nat.le_refl _, by unfold maxLen; omega, fun _ => rfl, fun x hx => by simp at hx, .inl rfl⟩
theorem Sg.at (l : List Sg) (h : ∀ x ∈ l, x.ok) (i : Nat) : (atI l i).ok := by
  by_cases hi : i < l.length
  · exact h _ (atI_mem l i hi)
  · have e : atI l i = it0 := by simp [atI, List.getD, List.getElem?_eq_none (show l.length ≤ i by omega)]
    rw [e]; exact it0_ok
/-- Sums' cells, in a slice. -/
theorem GS.at {w : World} {a : Option Addr} {n c : Nat} {l : List Sg} (h : GS w (.slice a n c) l) (i : Nat) (hi : i < l.length) :
    ∃ b off, a = some ⟨b, off, none⟩ ∧ w.rangeAt b (off + i * 33) (atI l i).cells := by
  obtain ⟨a', c', h1, h2, h3, h4, h5, h6⟩ := h
  cases h1
  rcases h6 with h6 | ⟨b, off, e, h7⟩
  · subst h6; simp at hi
  · exact ⟨b, off, e, h7 i hi⟩
/-- The first cell. -/
theorem range_head {w : World} {b o : Nat} {x : Sg} (h : w.rangeAt b o x.cells) : w.cell? ⟨b, o, none⟩ = some (.int .u32 x.k) := h 0 _ rfl
theorem range_sum {w : World} {b o : Nat} {x : Sg} (h : w.rangeAt b o x.cells) : w.rangeAt b (o + 1) (x.s.map (Value.int .u8)) := fun j v hv => by
  rw [Nat.add_assoc, Nat.add_comm 1 j]
  exact h (j + 1) v (by simpa [Sg.cells] using hv)
/-- A block that holds sums. -/
def IB (w : World) (g : Nat) (x : Sg) : Prop := w.heap[g]? = some (.cells x.cells.toArray 57 (0, 0))
theorem IB.range {w : World} {g : Nat} {x : Sg} (h : IB w g x) : w.rangeAt g 0 x.cells := fun j v hv => by
  rw [Nat.zero_add]
  unfold World.cell?
  rw [h]
  simpa using hv
theorem IB.kept {w w' : World} {g : Nat} {x : Sg} (h : IB w g x) (hb : Below w.heap.size w w') : IB w' g x := (hb.block g (Array.getElem?_eq_some_iff.1 h).1).trans h
theorem IB.below {w w' : World} {g B : Nat} {x : Sg} (h : IB w g x) (hb : Below B w w') (hg : g < B) : IB w' g x := (hb.block g hg).trans h
theorem IB.new (w : World) (x : Sg) : IB (w.alloc (.cells x.cells.toArray 57)) w.heap.size x := heap_alloc_new _ _
theorem IB.lt {w : World} {g : Nat} {x : Sg} (h : IB w g x) : g < w.heap.size := (Array.getElem?_eq_some_iff.1 h).1
/-- Bytes of a block, as a slice. -/
theorem sl_range {w : World} {b o : Nat} {A : List Int} {n c : Nat} (h : w.rangeAt b o (A.map (Value.int .u8))) (hb : ∀ k, 0 ≤ A.getD k 0 ∧ A.getD k 0 < 256) (hn : n = A.length) (hc : n ≤ c) (hm : c ≤ maxLen) : Sl w (.slice (some ⟨b, o, none⟩) n c) A := by
  subst hn
  refine ⟨_, c, rfl, hc, hm, fun e => (by cases e), ?_⟩
  rcases Nat.eq_zero_or_pos A.length with h0 | hp
  · exact .inl h0
  · refine .inr ⟨hp, b, o, rfl, hc, hm, fun i hi => ?_, hb⟩
    refine h i _ ?_
    rw [List.getElem?_map, List.getElem?_eq_getElem hi]
    simp [List.getD, List.getElem?_eq_getElem hi]
theorem infoI : (Tryd.prog.info? 57).map (fun i => (i.zero, i.size, i.bytes)) = some (some it0.val, 33, 36) := by kernel_rfl
theorem sizeI : (Tryd.prog.info? 57).map (·.size) = some 33 := by kernel_rfl
theorem sizeH : (Tryd.prog.info? 48).map (·.size) = some 32 := by kernel_rfl
/-- Sums in a row of the call's own. -/
def fla (l : List Sg) : List Value := (l.map Sg.cells).flatten
theorem fla_len : ∀ (l : List Sg), (∀ x ∈ l, x.ok) → (fla l).length = l.length * 33
  | [], _ => rfl
  | x :: l, h => by
    have ih := fla_len l fun y hy => h y (by simp [hy])
    have e : fla (x :: l) = x.cells ++ fla l := by simp [fla]
    rw [e, List.length_append, Sg.len (h x (by simp)), ih, List.length_cons]
    omega
theorem fla_app (l m : List Sg) : fla (l ++ m) = fla l ++ fla m := by simp [fla]
theorem fla_one (x : Sg) : fla [x] = x.cells := by simp [fla]
theorem fla_get : ∀ (l : List Sg) (i j : Nat) (v : Value), (∀ x ∈ l, x.ok) → i < l.length → (atI l i).cells[j]? = some v → (fla l)[i * 33 + j]? = some v
  | [], i, j, v, _, hi, _ => by simp at hi
  | x :: l, 0, j, v, h, _, hv => by
    have e : fla (x :: l) = x.cells ++ fla l := by simp [fla]
    have hv' : x.cells[j]? = some v := hv
    rw [e, Nat.zero_mul, Nat.zero_add, List.getElem?_append_left (List.getElem?_eq_some_iff.1 hv').1]
    exact hv'
  | x :: l, i + 1, j, v, h, hi, hv => by
    have e : fla (x :: l) = x.cells ++ fla l := by simp [fla]
    have hl : x.cells.length = 33 := Sg.len (h x (by simp))
    rw [e, List.getElem?_append_right (by rw [hl]; omega), hl, show (i + 1) * 33 + j - 33 = i * 33 + j by omega]
    exact fla_get l i j v (fun y hy => h y (by simp [hy])) (by simpa using hi) hv
def RI (w : World) (B : Nat) (v : Value) (l : List Sg) : Prop := w.ownsRow B 57 33 v l.length (fla l) ∧ ∀ x ∈ l, x.ok
theorem RI.nil (w : World) (B : Nat) : RI w B (.slice none 0 0) [] := ⟨⟨rfl, .inl ⟨rfl, rfl⟩⟩, fun x hx => by simp at hx⟩
theorem RI.below {w w' : World} {B : Nat} {v : Value} {l : List Sg} (h : RI w B v l) (hb : Below w.heap.size w w') : RI w' B v l := ⟨own_below h.1 hb, h.2⟩
theorem RI.mono {w : World} {B B' : Nat} {v : Value} {l : List Sg} (h : RI w B v l) (hb : B' ≤ B) : RI w B' v l := ⟨own_mono h.1 hb, h.2⟩
theorem RI.is {w : World} {B : Nat} {v : Value} {l : List Sg} (h : RI w B v l) : GS w v l := by
  obtain ⟨h, hok⟩ := h
  have h' := h
  rcases h.2 with ⟨rfl, h2⟩ | ⟨g, cap, cur, rfl, hg, hh, hl, hm, r⟩
  · obtain rfl : l = [] := List.length_eq_zero_iff.1 h2
    exact GS.nil w
  · refine ⟨_, cap, rfl, hl, hm, (fun e => by cases e), hok, .inr ⟨g, 0, rfl, fun i hi j v hv => ?_⟩⟩
    have := h'.cells (g := g) rfl (i * 33 + j) v (fla_get l i j v hok hi hv)
    rwa [Addr.add_lit, ← Nat.add_assoc] at this
/-- Sums laid behind. -/
theorem wpList_append_it {w : World} {ops : Array Oper} {rest : List Oper} {o : Oper} {a : Act} {Q : Exit → Act → World → Prop} (hgd : o.guard = none) (s x : Operand)
    (ho : o.op = .call { callee := .builtin .append, args := #[s, x], argTypes := #[27, 27] })
    (B : Nat) (v : Value) (l : List Sg) (hs : a.eval s = v) (hown : RI w B v l) (g : Nat) (y : Sg) (cap : Nat) (hy : y.ok)
    (hx : a.eval x = .slice (some ⟨g, 0, none⟩) 1 cap) (hc : w.rangeAt g 0 y.cells) (hbig : l.length ≤ 100000) (hbase : B ≤ w.heap.size)
    (h : ∀ v' w', RI w' B v' (l ++ [y]) → w.grownBy w' v.ownBlock → wpList Tryd.prog ops Q rest (a.put o.dst v') w') : wpList Tryd.prog ops Q (o :: rest) a w := by
  obtain ⟨i0, hi, hz0, hz1, hz2⟩ := info_parts infoI
  refine wpList_append_own_wide w hgd s x 27 ho B 57 i0 it0.val 33 36 Tryd.underlying27 hi hz0 hz1 hz2 rfl (by decide) v l.length (fla l) hs hown.1 ⟨g, 0, none⟩ 1 cap y.cells hx (Sg.len hy) ?_ (Sg.one y) (by unfold maxLen; omega) (by omega) hbase ?_
  · intro j u hj
    rw [Addr.add_lit]
    exact hc j u hj
  · intro v' w' ho' hg _
    refine h v' w' ⟨?_, fun z hz => ?_⟩ hg
    · rw [List.length_append, fla_app, fla_one]
      exact ho'
    · rcases List.mem_append.1 hz with hz | hz
      · exact hown.2 z hz
      · simp at hz; subst hz; exact hy
end Go.Proofs.YtlhmpcmlpfffoaaDoor
