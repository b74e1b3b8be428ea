/-
  Texts on It, Ib, Ord, Or, Id, Bs, in one.
-/
import Derived.Test.YtdnbiibijoggoaaGreatDoorTe
import Derived.Deep.MidRow
import Derived.Test.YtdnbiibijoggoaaGreatDoorPa
import Derived.Laws.StructEq
import Derived.Laws.Tables
import Derived.Test.YtdnbiibijoggoaaGreatDoorBas
import Derived.Deep.RegionHeld3
import Derived.Laws.ResultCell
import Derived.Laws.CopyOwn
import Derived.Great.Walk
namespace Go.Proofs.YtdnbiibijoggoaaGreatDoor
open Go.RowKit

/-- An item: its path, whether it is a directory, its size, its sum. -/
structure It where
  p : ByteArray
  d : Bool
  n : Int
  s : List Int
/-- The zero sum. -/
def z32 : List Int := List.replicate 32 0
theorem z32_len : z32.length = 32 := by simp [z32]
theorem z32_bytes : ∀ k, 0 ≤ z32.getD k 0 ∧ z32.getD k 0 < 256 := byteList z32 (by decide)
/-- The empty item. -/
def it0 : It := ⟨⟨#[]⟩, false, 0, z32⟩
/-- The item at a place. -/
abbrev atI (l : List It) (i : Nat) : It := l.getD i it0
theorem atI_eq (l : List It) (i : Nat) (h : i < l.length) : atI l i = l[i] := by simp [atI, List.getD, h]
theorem atI_mem (l : List It) (i : Nat) (h : i < l.length) : atI l i ∈ l := by rw [atI_eq l i h]; exact List.getElem_mem h
/-- What every item of Go's is: 32 bytes, a number of 64 bits. -/
def It.ok (x : It) : Prop := x.s.length = 32 ∧ (∀ k, 0 ≤ x.s.getD k 0 ∧ x.s.getD k 0 < 256) ∧ -9223372036854775808 ≤ x.n ∧ x.n ≤ 9223372036854775807
theorem it0_ok : it0.ok := ⟨z32_len, z32_bytes, by decide, by decide⟩
/-- An item's cells. -/
def It.cells (x : It) : List Value := .string x.p :: .bool x.d :: .int .i64 x.n :: x.s.map (Value.int .u8)
def It.val (x : It) : Value := .agg x.cells.toArray
theorem It.len {x : It} (h : x.ok) : x.cells.length = 35 := by simp [It.cells, h.1]
theorem It.one (x : It) : ∀ v ∈ x.cells, v.oneCell' = true := by
  intro v hv
  simp only [It.cells, List.mem_cons, List.mem_map] at hv
  rcases hv with rfl | rfl | rfl | ⟨z, _, rfl⟩ <;> rfl
theorem It.inj {x y : It} (h : x.cells = y.cells) : x = y := by
  cases x; cases y
  simp only [It.cells, List.cons.injEq, Value.string.injEq, Value.bool.injEq, Value.int.injEq, true_and] at h
  obtain ⟨h1, h2, h3, h4⟩ := h
  have h5 := List.map_inj_right (f := Value.int .u8) (fun a b e => by cases e; rfl) |>.1 h4
  subst h1 h2 h3 h5
  rfl
/-- A value that is a slice of the items l. -/
def IS (w : World) (v : Value) (l : List It) : Prop :=
  ∃ a c, v = .slice a l.length c ∧ l.length ≤ c ∧ c ≤ maxLen ∧ (a = none → c = 0) ∧ (∀ x ∈ l, x.ok) ∧ (l = [] ∨ ∃ b off, a = some ⟨b, off, none⟩ ∧ ∀ i, i < l.length → w.rangeAt b (off + i * 35) (atI l i).cells)
theorem range_kept {w w' : World} {b o : Nat} {cs : List Value} (h : w.rangeAt b o cs) (hb : Below w.heap.size w w') : w'.rangeAt b o cs := fun j v hv =>
  (hb.cell (World.block_lt_of_cell? _ _ (h j v hv))).trans (h j v hv)
theorem IS.kept {w w' : World} {v : Value} {l : List It} (h : IS w v l) (hb : Below w.heap.size w w') : IS w' v l := by
  obtain ⟨a, c, h1, h2, h3, h4, h5, h6⟩ := h
  refine ⟨a, c, h1, h2, h3, h4, h5, ?_⟩
  rcases h6 with h6 | ⟨b, off, e, h7⟩
  · exact .inl h6
  · exact .inr ⟨b, off, e, fun i hi => range_kept (h7 i hi) hb⟩
theorem IS.shape {w : World} {v : Value} {l : List It} (h : IS w v l) : ∃ a c, v = .slice a l.length c ∧ l.length ≤ c ∧ c ≤ maxLen ∧ (a = none → c = 0) := by
  obtain ⟨a, c, h1, h2, h3, h4, _⟩ := h
  exact ⟨a, c, h1, h2, h3, h4⟩
theorem IS.ok {w : World} {v : Value} {l : List It} (h : IS w v l) : ∀ x ∈ l, x.ok := by
  obtain ⟨a, c, h1, h2, h3, h4, h5, _⟩ := h
  exact h5
theorem IS.nil (w : World) : IS w (.slice none 0 0) [] := ⟨none, 0, rfl, Nat.le_refl _, by unfold maxLen; omega, fun _ => rfl, fun x hx => by simp at hx, .inl rfl⟩
theorem It.at (l : List It) (h : ∀ x ∈ l, x.ok) (i : Nat) : (atI l i).ok := by
  by_cases hi : i < l.length
  · exact h _ (atI_mem l i hi)
  · have e : atI l i = it0 := by simp [atI, List.getD, List.getElem?_eq_none (show l.length ≤ i by omega)]
    rw [e]; exact it0_ok
/-- An item's cells, in a slice. -/
theorem IS.at {w : World} {a : Option Addr} {n c : Nat} {l : List It} (h : IS w (.slice a n c) l) (i : Nat) (hi : i < l.length) :
    ∃ b off, a = some ⟨b, off, none⟩ ∧ w.rangeAt b (off + i * 35) (atI l i).cells := by
  obtain ⟨a', c', h1, h2, h3, h4, h5, h6⟩ := h
  cases h1
  rcases h6 with h6 | ⟨b, off, e, h7⟩
  · subst h6; simp at hi
  · exact ⟨b, off, e, h7 i hi⟩
/-- The first three cells of an item. -/
theorem range_head {w : World} {b o : Nat} {x : It} (h : w.rangeAt b o x.cells) : w.cell? ⟨b, o, none⟩ = some (.string x.p) ∧ w.cell? ⟨b, o + 1, none⟩ = some (.bool x.d) ∧ w.cell? ⟨b, o + 2, none⟩ = some (.int .i64 x.n) :=
  ⟨h 0 _ rfl, h 1 _ rfl, h 2 _ rfl⟩
theorem range_sum {w : World} {b o : Nat} {x : It} (h : w.rangeAt b o x.cells) : w.rangeAt b (o + 3) (x.s.map (Value.int .u8)) := fun j v hv => by
  rw [Nat.add_assoc, Nat.add_comm 3 j]
  exact h (j + 3) v (by simpa [It.cells] using hv)
/-- A block that is an item. -/
def IB (w : World) (g : Nat) (x : It) : Prop := w.heap[g]? = some (.cells x.cells.toArray 42 (0, 0))
theorem IB.range {w : World} {g : Nat} {x : It} (h : IB w g x) : w.rangeAt g 0 x.cells := fun j v hv => by
  rw [Nat.zero_add]
  unfold World.cell?
  rw [h]
  simpa using hv
theorem IB.kept {w w' : World} {g : Nat} {x : It} (h : IB w g x) (hb : Below w.heap.size w w') : IB w' g x := (hb.block g (Array.getElem?_eq_some_iff.1 h).1).trans h
theorem IB.below {w w' : World} {g B : Nat} {x : It} (h : IB w g x) (hb : Below B w w') (hg : g < B) : IB w' g x := (hb.block g hg).trans h
theorem IB.new (w : World) (x : It) : IB (w.alloc (.cells x.cells.toArray 42)) w.heap.size x := heap_alloc_new _ _
theorem IB.lt {w : World} {g : Nat} {x : It} (h : IB w g x) : g < w.heap.size := (Array.getElem?_eq_some_iff.1 h).1
/-- The sum of a block's item, as a slice. -/
theorem sl_range {w : World} {b o : Nat} {A : List Int} {n c : Nat} (h : w.rangeAt b o (A.map (Value.int .u8))) (hb : ∀ k, 0 ≤ A.getD k 0 ∧ A.getD k 0 < 256) (hn : n = A.length) (hc : n ≤ c) (hm : c ≤ maxLen) : Sl w (.slice (some ⟨b, o, none⟩) n c) A := by
  subst hn
  refine ⟨_, c, rfl, hc, hm, fun e => (by cases e), ?_⟩
  rcases Nat.eq_zero_or_pos A.length with h0 | hp
  · exact .inl h0
  · refine .inr ⟨hp, b, o, rfl, hc, hm, fun i hi => ?_, hb⟩
    refine h i _ ?_
    rw [List.getElem?_map, List.getElem?_eq_getElem hi]
    simp [List.getD, List.getElem?_eq_getElem hi]
theorem infoI : (Tryz.prog.info? 42).map (fun i => (i.zero, i.size, i.bytes)) = some (some it0.val, 35, 64) := by kernel_rfl
theorem sizeI : (Tryz.prog.info? 42).map (·.size) = some 35 := by kernel_rfl
theorem sizeH : (Tryz.prog.info? 40).map (·.size) = some 32 := by kernel_rfl
/-- Items in a row of the call's own. -/
def fla (l : List It) : List Value := (l.map It.cells).flatten
theorem fla_len : ∀ (l : List It), (∀ x ∈ l, x.ok) → (fla l).length = l.length * 35
  | [], _ => rfl
  | x :: l, h => by
    have ih := fla_len l fun y hy => h y (by simp [hy])
    have e : fla (x :: l) = x.cells ++ fla l := by simp [fla]
    rw [e, List.length_append, It.len (h x (by simp)), ih, List.length_cons]
    omega
theorem fla_app (l m : List It) : fla (l ++ m) = fla l ++ fla m := by simp [fla]
theorem fla_one (x : It) : fla [x] = x.cells := by simp [fla]
theorem fla_get : ∀ (l : List It) (i j : Nat) (v : Value), (∀ x ∈ l, x.ok) → i < l.length → (atI l i).cells[j]? = some v → (fla l)[i * 35 + j]? = some v
  | [], i, j, v, _, hi, _ => by simp at hi
  | x :: l, 0, j, v, h, _, hv => by
    have e : fla (x :: l) = x.cells ++ fla l := by simp [fla]
    have hv' : x.cells[j]? = some v := hv
    rw [e, Nat.zero_mul, Nat.zero_add, List.getElem?_append_left (List.getElem?_eq_some_iff.1 hv').1]
    exact hv'
  | x :: l, i + 1, j, v, h, hi, hv => by
    have e : fla (x :: l) = x.cells ++ fla l := by simp [fla]
    have hl : x.cells.length = 35 := It.len (h x (by simp))
    rw [e, List.getElem?_append_right (by rw [hl]; omega), hl, show (i + 1) * 35 + j - 35 = i * 35 + j by omega]
    exact fla_get l i j v (fun y hy => h y (by simp [hy])) (by simpa using hi) hv
def RI (w : World) (B : Nat) (v : Value) (l : List It) : Prop := w.ownsRow B 42 35 v l.length (fla l) ∧ ∀ x ∈ l, x.ok
theorem RI.nil (w : World) (B : Nat) : RI w B (.slice none 0 0) [] := ⟨⟨rfl, .inl ⟨rfl, rfl⟩⟩, fun x hx => by simp at hx⟩
theorem RI.below {w w' : World} {B : Nat} {v : Value} {l : List It} (h : RI w B v l) (hb : Below w.heap.size w w') : RI w' B v l := ⟨own_below h.1 hb, h.2⟩
theorem RI.mono {w : World} {B B' : Nat} {v : Value} {l : List It} (h : RI w B v l) (hb : B' ≤ B) : RI w B' v l := ⟨own_mono h.1 hb, h.2⟩
theorem RI.is {w : World} {B : Nat} {v : Value} {l : List It} (h : RI w B v l) : IS w v l := by
  obtain ⟨h, hok⟩ := h
  have h' := h
  rcases h.2 with ⟨rfl, h2⟩ | ⟨g, cap, cur, rfl, hg, hh, hl, hm, r⟩
  · obtain rfl : l = [] := List.length_eq_zero_iff.1 h2
    exact IS.nil w
  · refine ⟨_, cap, rfl, hl, hm, (fun e => by cases e), hok, .inr ⟨g, 0, rfl, fun i hi j v hv => ?_⟩⟩
    have := h'.cells (g := g) rfl (i * 35 + j) v (fla_get l i j v hok hi hv)
    rwa [Addr.add_lit, ← Nat.add_assoc] at this
/-- An item laid behind. -/
theorem wpList_append_it {w : World} {ops : Array Oper} {rest : List Oper} {o : Oper} {a : Act} {Q : Exit → Act → World → Prop} (hgd : o.guard = none) (s x : Operand)
    (ho : o.op = .call { callee := .builtin .append, args := #[s, x], argTypes := #[25, 25] })
    (B : Nat) (v : Value) (l : List It) (hs : a.eval s = v) (hown : RI w B v l) (g : Nat) (y : It) (cap : Nat) (hy : y.ok)
    (hx : a.eval x = .slice (some ⟨g, 0, none⟩) 1 cap) (hc : w.rangeAt g 0 y.cells) (hbig : l.length ≤ 100000) (hbase : B ≤ w.heap.size)
    (h : ∀ v' w', RI w' B v' (l ++ [y]) → w.grownBy w' v.ownBlock → wpList Tryz.prog ops Q rest (a.put o.dst v') w') : wpList Tryz.prog ops Q (o :: rest) a w := by
  obtain ⟨i0, hi, hz0, hz1, hz2⟩ := info_parts infoI
  refine wpList_append_own_wide w hgd s x 25 ho B 42 i0 it0.val 35 64 Tryz.underlying25 hi hz0 hz1 hz2 rfl (by decide) v l.length (fla l) hs hown.1 ⟨g, 0, none⟩ 1 cap y.cells hx (It.len hy) ?_ (It.one y) (by unfold maxLen; omega) (by omega) hbase ?_
  · intro j u hj
    rw [Addr.add_lit]
    exact hc j u hj
  · intro v' w' ho' hg _
    refine h v' w' ⟨?_, fun z hz => ?_⟩ hg
    · rw [List.length_append, fla_app, fla_one]
      exact ho'
    · rcases List.mem_append.1 hz with hz | hz
      · exact hown.2 z hz
      · simp at hz; subst hz; exact hy
end Go.Proofs.YtdnbiibijoggoaaGreatDoor

namespace Go.Proofs.YtdnbiibijoggoaaGreatDoor
open Go.RowKit
set_option maxRecDepth 100000

/-- Bytes as cells. -/
def u8c (l : List Int) : Array Value := (l.map (Value.int .u8)).toArray
theorem map_range (A : List Int) (n : Nat) (h : A.length = n) : (List.range n).map (fun i => A.getD i 0) = A := by
  subst h
  apply List.ext_getElem?
  intro i
  rw [List.getElem?_map]
  rcases Nat.lt_or_ge i A.length with hi | hi
  · rw [List.getElem?_range hi]
    simp [List.getD, List.getElem?_eq_getElem hi]
  · rw [List.getElem?_eq_none (by simpa using hi), List.getElem?_eq_none hi]; rfl
theorem builtF' (p : ByteArray) (n : Int) (f : Nat → Int) : Tryz.prog.built 42 [(0, .string p), (2, .int .i64 n), (3, .agg (u8c ((List.range 32).map f)))] = some (It.cells ⟨p, false, n, (List.range 32).map f⟩).toArray := by kernel_rfl
/-- A file's item is built. -/
theorem builtF (p : ByteArray) (n : Int) (A : List Int) (h : A.length = 32) : Tryz.prog.built 42 [(0, .string p), (2, .int .i64 n), (3, .agg (u8c A))] = some (It.cells ⟨p, false, n, A⟩).toArray := by
  have := builtF' p n (fun i => A.getD i 0)
  rwa [map_range A 32 h] at this
/-- A directory's. -/
theorem builtD (p : ByteArray) : Tryz.prog.built 42 [(0, .string p), (1, .bool true)] = some (It.cells ⟨p, true, 0, z32⟩).toArray := by kernel_rfl
/-- A file's without a sum. -/
theorem builtN (p : ByteArray) (n : Int) : Tryz.prog.built 42 [(0, .string p), (2, .int .i64 n)] = some (It.cells ⟨p, false, n, z32⟩).toArray := by kernel_rfl
theorem fieldsI : (Tryz.prog.fieldsOf 42).toList.map (fun f => (decide (f.name ≠ "_"), f.type, f.offset)) = [(true, 9, 0), (true, 4, 1), (true, 3, 2), (true, 40, 3)] := by kernel_rfl
theorem structI : Tryz.prog.underlying 42 = some (.struct (Tryz.prog.fieldsOf 42)) := by kernel_rfl
theorem standsI : Tryz.prog.stoodInHeld 42 = false := by kernel_rfl
theorem guardI : Tryz.prog.eqGuardType Tryz.prog.depth 42 = false := by kernel_rfl
theorem sizeOf5' : ∀ w, (sizeOf 5).run Tryz.prog w = .ok 1 w := by
  obtain ⟨i0, hi, hz0, hz1, hz2⟩ := info_parts info5'
  intro w
  simp [sizeOf, typeInfo, hi, hz1]
theorem sizeOfH : ∀ w, (sizeOf 40).run Tryz.prog w = .ok 32 w := by
  intro w
  have h := sizeH
  cases hq : Tryz.prog.info? 40 with
  | none => simp [hq] at h
  | some i =>
    have hs : i.size = 32 := by simpa [hq] using h
    simp [sizeOf, typeInfo, hq, hs]
theorem all_eq' : ∀ (xs ys : List Int), xs.length = ys.length → ((List.range xs.length).all fun i => xs.getD i 0 == ys.getD i 0) = (xs == ys)
  | [], [], _ => rfl
  | x :: xs, y :: ys, h => by
    have ih := all_eq' xs ys (by simpa using h)
    rw [List.length_cons, List.range_succ_eq_map, List.all_cons, List.all_map]
    simp only [List.getD_cons_zero, Function.comp_def, List.getD_cons_succ, ih]
    simp [List.cons_beq_cons]
  | [], _ :: _, h => by simp at h
  | _ :: _, [], h => by simp at h
theorem u8c_get (l : List Int) (i : Nat) (h : i < l.length) : (u8c l)[i]? = some (.int .u8 (l.getD i 0)) := by
  simp [u8c, List.getElem?_eq_getElem h, List.getD]
theorem eq_u8c (d : Nat) (A B : List Int) (hA : A.length = 32) (hB : B.length = 32) (w : World) : (Op.equalIn (d + 2) 40 (.agg (u8c A)) (.agg (u8c B))).run Tryz.prog w = .ok (A == B) w := by
  rw [← all_eq' A B (hA.trans hB.symm), hA, List.range_eq_range', Op.equalIn]
  simp only [Sem.run_bind, run_underlying Tryz.underlying40, Result.andThen_ok, sizeOf5', Std.Legacy.Range.forIn_eq_forIn_range', Std.Legacy.Range.size, Nat.sub_zero, Nat.add_sub_cancel, Nat.div_one]
  have hl : ∀ i ∈ List.range' 0 32 1, i < 32 := fun i hi => by simpa using (List.mem_range'_1.1 hi).2
  generalize List.range' 0 32 1 = l at hl ⊢
  induction l with
  | nil => simp
  | cons i l ih =>
    have hi : i < 32 := hl i (by simp)
    have px : (part 5 (u8c A) (i * 1)).run Tryz.prog w = .ok (.int .u8 (A.getD i 0)) w := by
      simp [part, isAgg, run_underlying Tryz.underlying5, u8c_get A i (by omega)]
    have py : (part 5 (u8c B) (i * 1)).run Tryz.prog w = .ok (.int .u8 (B.getD i 0)) w := by
      simp [part, isAgg, run_underlying Tryz.underlying5, u8c_get B i (by omega)]
    have pe : (Op.equalIn (d + 1) 5 (.int .u8 (A.getD i 0)) (.int .u8 (B.getD i 0))).run Tryz.prog w = .ok (A.getD i 0 == B.getD i 0) w := run_equalIn_int w d 5 .u8 .u8 _ _ Tryz.underlying5
    simp only [List.forIn_cons, Sem.run_bind, px, py, pe, Result.andThen_ok, List.all_cons]
    cases hb : (A.getD i 0 == B.getD i 0)
    · simp
    · simp only [Bool.not_true, Bool.false_eq_true, if_false, Sem.run_pure, Result.andThen_ok, Bool.true_and]
      exact ih fun j hj => hl j (by simp [hj])
/-- Whether two items are one. -/
def sIt (x y : It) : Bool := decide (x.p = y.p) && decide (x.d = y.d) && decide (x.n = y.n) && decide (x.s = y.s)
theorem sIt_iff (x y : It) : sIt x y = true ↔ x = y := by
  cases x; cases y
  simp [sIt, and_assoc]
theorem part_one {P : Program} {t : TypeId} {cs : Array Value} {o : Nat} {v : Value} {w : World} (h : (isAgg t).run P w = .ok false w) (hc : cs[o]? = some v) : (part t cs o).run P w = .ok v w := by
  simp [part, Sem.run_bind, h, hc]
theorem eqf_cons {P : Program} {d : Nat} {xs ys : Array Value} {f : Field} {fs : List Field} {u v : Value} {r : Bool} {w : World} {t : TypeId} {o : Nat} (hn : f.name ≠ "_") (ht : f.type = t) (ho : f.offset = o) (ha : (part t xs o).run P w = .ok u w) (hb : (part t ys o).run P w = .ok v w) (he : (Op.equalIn d t u v).run P w = .ok r w) :
    (Op.eqFields d xs ys (f :: fs)).run P w = if r = true then (Op.eqFields d xs ys fs).run P w else .ok false w := by
  subst ht ho
  rw [Op.eqFields, if_pos hn]
  simp only [Sem.run_bind, ha, hb, he, Result.andThen_ok]
  cases r
  · simp
  · simp
theorem bed {α : Type} [BEq α] [LawfulBEq α] [DecidableEq α] (a b : α) : (a == b) = decide (a = b) := by by_cases h : a = b <;> simp [h]
theorem eqf_nil {P : Program} {d : Nat} {xs ys : Array Value} {w : World} : (Op.eqFields d xs ys []).run P w = .ok true w := by
  rw [Op.eqFields, Sem.run_pure]
theorem four {w : World} {a b c e : Bool} : (if a = true then (if b = true then (if c = true then (if e = true then Result.ok true w else .ok false w) else .ok false w) else .ok false w) else (.ok false w : Result Bool)) = .ok (a && b && c && e) w := by
  cases a <;> cases b <;> cases c <;> cases e <;> rfl
theorem eq_itd (d : Nat) (x y : It) (hx : x.ok) (hy : y.ok) (w : World) : (Op.equalIn (d + 3) 42 x.val y.val).run Tryz.prog w = .ok (sIt x y) w := by
  unfold It.val
  rw [run_equalIn_struct w (d + 2) 42 _ _ structI standsI]
  have hf := fieldsI
  generalize (Tryz.prog.fieldsOf 42).toList = fs at hf
  have hlen : fs.length = 4 := by have := congrArg List.length hf; simpa using this
  match fs, hlen, hf with
  | [f0, f1, f2, f3], _, hf =>
    simp only [List.map_cons, List.map_nil, List.cons.injEq, Prod.mk.injEq, and_true, decide_eq_true_eq] at hf
    obtain ⟨⟨n0, t0, o0⟩, ⟨n1, t1, o1⟩, ⟨n2, t2, o2⟩, n3, t3, o3⟩ := hf
    have a9 : (isAgg 9).run Tryz.prog w = .ok false w := by simp [isAgg, run_underlying Tryz.underlying9]
    have a4 : (isAgg 4).run Tryz.prog w = .ok false w := by simp [isAgg, run_underlying Tryz.underlying4]
    have a3 : (isAgg 3).run Tryz.prog w = .ok false w := by simp [isAgg, run_underlying Tryz.underlying3]
    have aH : (isAgg 40).run Tryz.prog w = .ok true w := by simp [isAgg, run_underlying Tryz.underlying40]
    have cut : ∀ z : It, z.ok → z.cells.toArray.extract 3 (3 + 32) = u8c z.s := fun z hz => by
      apply Array.ext'
      simp [It.cells, u8c]
      exact List.take_of_length_le (by simp [hz.1])
    have c0 : ∀ z : It, z.cells.toArray[0]? = some (.string z.p) := fun z => rfl
    have c1 : ∀ z : It, z.cells.toArray[1]? = some (.bool z.d) := fun z => rfl
    have c2 : ∀ z : It, z.cells.toArray[2]? = some (.int .i64 z.n) := fun z => rfl
    have p0 : ∀ z : It, (part 9 z.cells.toArray 0).run Tryz.prog w = .ok (.string z.p) w := fun z => part_one a9 (c0 z)
    have p1 : ∀ z : It, (part 4 z.cells.toArray 1).run Tryz.prog w = .ok (.bool z.d) w := fun z => part_one a4 (c1 z)
    have p2 : ∀ z : It, (part 3 z.cells.toArray 2).run Tryz.prog w = .ok (.int .i64 z.n) w := fun z => part_one a3 (c2 z)
    have p3 : ∀ z : It, z.ok → (part 40 z.cells.toArray 3).run Tryz.prog w = .ok (.agg (u8c z.s)) w := fun z hz => by
      simp only [part, Sem.run_bind, aH, Result.andThen_ok, if_true, sizeOfH, Sem.run_pure, cut z hz]
    have e0 : (Op.equalIn (d + 2) 9 (.string x.p) (.string y.p)).run Tryz.prog w = .ok (x.p.toList == y.p.toList) w := run_equalIn_string w (d + 1) 9 _ _ Tryz.underlying9
    have e1 : (Op.equalIn (d + 2) 4 (.bool x.d) (.bool y.d)).run Tryz.prog w = .ok (x.d == y.d) w := run_equalIn_bool' w (d + 1) 4 _ _ Tryz.underlying4
    have e2 : (Op.equalIn (d + 2) 3 (.int .i64 x.n) (.int .i64 y.n)).run Tryz.prog w = .ok (x.n == y.n) w := run_equalIn_int w (d + 1) 3 .i64 .i64 _ _ Tryz.underlying3
    have e3 : (Op.equalIn (d + 2) 40 (.agg (u8c x.s)) (.agg (u8c y.s))).run Tryz.prog w = .ok (x.s == y.s) w := eq_u8c d _ _ hx.1 hy.1 w
    rw [eqf_cons n0 t0 o0 (p0 x) (p0 y) e0, eqf_cons n1 t1 o1 (p1 x) (p1 y) e1, eqf_cons n2 t2 o2 (p2 x) (p2 y) e2, eqf_cons n3 t3 o3 (p3 x hx) (p3 y hy) e3, eqf_nil, four, tl_beq]
    unfold sIt
    rw [bed x.d, bed x.n, bed x.s]
theorem eq_it (x y : It) (hx : x.ok) (hy : y.ok) (w : World) : (Op.equalIn 10000 42 x.val y.val).run Tryz.prog w = .ok (sIt x y) w := eq_itd 9997 x y hx hy w
/-- A struct is built, its cells known. -/
theorem wpList_built {P : Program} {ops : Array Oper} {rest : List Oper} {o : Oper} {a : Act} {w : World} {Q : Exit → Act → World → Prop} (hg : o.guard = none) (t : TypeId) (parts : List (Nat × Operand)) (ho : o.op = .build t parts.toArray)
    (L : List (Nat × Value)) (hL : parts.map (fun (i, x) => (i, a.eval x)) = L) (cs : Array Value) (hb : P.built t L = some cs) (h : wpList P ops Q rest (a.put o.dst (.agg cs)) w) : wpList P ops Q (o :: rest) a w := by
  have e : (parts.toArray.map fun (i, x) => (i, a.eval x)).toList = L := by rw [← hL]; simp
  exact wpList_build hg t parts.toArray ho (by rw [e, hb]; rfl) (by rw [e, hb]; exact h)
/-- '==' and '!=' of two items, as one step of a walk. -/
theorem wpList_eqi {w : World} {ops : Array Oper} {rest : List Oper} {o : Oper} {a : Act} {Q : Exit → Act → World → Prop} (hgd : o.guard = none) (ne : Bool) (x y : Operand) (t : TypeId) (ho : o.op = .binOp (if ne then .neq else .eql) 42 x y t)
    (u v : It) (hu : u.ok) (hv : v.ok) (hx : a.eval x = u.val) (hy : a.eval y = v.val)
    (h : wpList Tryz.prog ops Q rest (a.put o.dst (.bool (ne ^^ sIt u v))) w) : wpList Tryz.prog ops Q (o :: rest) a w := by
  refine wpList_plain hgd fun KK hKK => ?_
  have hE := eq_it u v hu hv w
  unfold It.val at hE hx hy
  unfold Oper.wp
  cases ne
  · simp only [execOp, ho, hx, hy, Sem.run_bind, Bool.false_eq_true, if_false, run_eqGuard_agg _ _ _ _ _ _ _ guardI, run_eql_struct, hE, Result.andThen_ok, Sem.run_pure, Oper.upon]
    rw [Bool.false_xor] at h
    exact hKK _ _ h
  · simp only [execOp, ho, hx, hy, Sem.run_bind, if_true, run_eqGuard_agg _ _ _ _ _ _ _ guardI, run_neq_struct, hE, Result.andThen_ok, Sem.run_pure, Oper.upon]
    rw [Bool.true_xor] at h
    exact hKK _ _ h
end Go.Proofs.YtdnbiibijoggoaaGreatDoor

namespace Go.Proofs.YtdnbiibijoggoaaGreatDoor
open Go.RowKit

section
variable {P : Program} {ops : Array Oper} {Q : Exit → Act → World → Prop} {md : Region.Mode}
theorem wpAnyH_turn {S S' : World → Prop} (hS : ∀ x, S' x → S x) : ∀ (fuel : Nat) (listed : Array Bool) (a : Act) (w : World), wpAnyH P md ops Q S' fuel listed a w → wpAnyH P md ops Q S fuel listed a w
  | 0, _, _, _, h => h
  | fuel + 1, _, _, _, h => ⟨h.1, fun i hi => wpOp_mono (fun a' w' h' => ⟨hS _ h'.1, wpAnyH_turn hS fuel _ a' w' h'.2⟩) (h.2 i hi)⟩
/-- From a world on: all that stood there stays. -/
def From (u x : World) : Prop := Below u.heap.size u x
theorem wpAnyH_on {u W : World} {fuel : Nat} {listed : Array Bool} {a : Act} (hb : Below u.heap.size u W) (h : ∀ n, Hid (n = W) → Below u.heap.size u n → wpAnyH P md ops Q (From n) fuel listed a n) :
    wpAnyH P md ops Q (From u) fuel listed a W :=
  wpAnyH_turn (fun _ hx => hb.trans (Below.mono hx hb.size)) fuel listed a W (h W rfl hb)
theorem wpAnyH_name {S : World → Prop} {W : World} {fuel : Nat} {listed : Array Bool} {a : Act} (h : ∀ n, Hid (n = W) → wpAnyH P md ops Q S fuel listed a n) : wpAnyH P md ops Q S fuel listed a W := h W rfl
theorem on {p : World → Prop} {u n : World} (f : Hid (∀ x, From u x → p x)) (hb : Below u.heap.size u n) : Hid (∀ x, From n x → p x) := fun x hx => f.out x (hb.trans (Below.mono hx hb.size))
end
theorem al_below (w : World) (o : Obj) : Below w.heap.size w (w.alloc o) := (Below.refl _ _).alloc (Nat.le_refl _) _
end Go.Proofs.YtdnbiibijoggoaaGreatDoor

namespace Go.Proofs.YtdnbiibijoggoaaGreatDoor
open Go.RowKit
set_option maxRecDepth 100000

/-- '==' or '!=' of two items in a region that draws its order. -/
theorem yields_eqi {S : World → Prop} {ops : Array Oper} {o : Oper} {a : Act} (hw : Region.wanted o (yielded ops a.tmps) = true) (op : BinOp) (x y : Operand) (t : TypeId) (ho : o.op = .binOp op 42 x y t)
    (U V : Value) (b : Bool) (hx : a.eval x = U) (hy : a.eval y = V) (hG : ∀ w, (eqGuard op 42 x y U V).run Tryz.prog w = .ok () w) (hE : ∀ w, (binOp op 42 U V).run Tryz.prog w = .ok (.bool b) w) : YieldsIf Tryz.prog ops S o (.bool b) a :=
  .inl ⟨hw, fun w _ => by
    unfold execOp
    simp only [ho, hx, hy, Sem.run_bind, hG, hE, Result.andThen_ok, Sem.run_pure]⟩
/-- A struct is built in a region that draws its order. -/
theorem yields_built {P : Program} {S : World → Prop} {ops : Array Oper} {o : Oper} {a : Act} (hw : Region.wanted o (yielded ops a.tmps) = true) (t : TypeId) (parts : List (Nat × Operand)) (ho : o.op = .build t parts.toArray)
    (L : List (Nat × Value)) (hL : parts.map (fun (i, x) => (i, a.eval x)) = L) (cs : Array Value) (hb : P.built t L = some cs) : YieldsIf P ops S o (.agg cs) a := by
  refine .inl ⟨hw, fun w _ => ?_⟩
  have e : (parts.toArray.map fun (i, x) => (i, a.eval x)).toList = L := by rw [← hL]; simp
  have h := run_build (P := P) w t (parts.toArray.map fun (i, x) => (i, a.eval x)) cs (by rw [e]; exact hb)
  unfold execOp
  simp only [ho, Sem.run_bind, h, Result.andThen_ok, Sem.run_pure]
theorem neq_run (x y : It) (hx : x.ok) (hy : y.ok) (w : World) : (binOp .neq 42 x.val y.val).run Tryz.prog w = .ok (.bool (!sIt x y)) w := by
  have h := eq_it x y hx hy w
  unfold It.val at h ⊢
  rw [run_neq_struct, h]
  rfl
theorem eqg_run (o : BinOp) (x y : It) (a b : Operand) (w : World) : (eqGuard o 42 a b x.val y.val).run Tryz.prog w = .ok () w := run_eqGuard_agg _ _ _ _ _ _ _ guardI
end Go.Proofs.YtdnbiibijoggoaaGreatDoor

namespace Go.Proofs.YtdnbiibijoggoaaGreatDoor
open Go.RowKit
set_option maxRecDepth 100000

/-- The one item that a directory may have. -/
def bare (p : ByteArray) : It := ⟨p, true, 0, z32⟩
theorem bare_ok (p : ByteArray) : (bare p).ok := ⟨z32_len, z32_bytes, by show (-9223372036854775808 : Int) ≤ 0; decide, by show (0 : Int) ≤ 9223372036854775807; decide⟩
def izc : Array Value := it0.cells.toArray
theorem It.size (x : It) (h : x.ok) : x.cells.toArray.size = 35 := by rw [List.size_toArray]; exact It.len h
theorem It.ones (x : It) : x.cells.toArray.all (·.oneCell') = true := all_oneCell_toArray (It.one x)
theorem It.info (x : It) (h : x.ok) : (Tryz.prog.info? 42).map (·.size) = some x.cells.toArray.size := by rw [It.size x h]; exact sizeI
theorem izc_size : izc.size = 35 := It.size it0 it0_ok
set_option maxHeartbeats 1000000 in
theorem bare_any (p : ByteArray) (w : World) :
    Calls Tryz.prog 50 #[.string p] w fun e w' => e = .returned (bare p).val ∧ Below w.heap.size w w' := by
  obtain ⟨W1, hW1⟩ : ∃ W1, W1 = w.alloc (.cells izc 42) := ⟨_, rfl⟩
  have b1 : Below w.heap.size w W1 := by rw [hW1]; exact (Below.refl _ _).alloc (Nat.le_refl _) _
  have g1 : Hid (W1.heap[w.heap.size]? = some (.cells izc 42 (0, 0))) := by unfold Hid; rw [hW1]; exact heap_alloc_new _ _
  have B1 : Hid (Below w.heap.size w W1) := b1
  have BB : Hid (Tryz.prog.built 42 [(0, .string p), (1, .bool true)] = some (bare p).cells.toArray) := builtD p
  clear b1
  go_enter Tryz.func50, Tryz.ntmps50
  go_wp2_with (refine wpList_built rfl 42 _ rfl [(0, .string p), (1, .bool true)] rfl (bare p).cells.toArray BB.out (Hid.out ?_))
  unfold Hid
  change wpList _ _ _ _ _ (w.alloc (.cells izc 42))
  rw [← hW1]
  clear hW1
  go_wp2_with (refine wpList_store_row rfl 42 _ _ rfl w.heap.size (bare p).cells.toArray rfl rfl 42 _ g1.out (It.info _ (bare_ok p)) (izc_size.trans (It.size _ (bare_ok p)).symm) (It.ones _) ?_)
  exact bodyPost_ret (v := (bare p).val) (results_cell_row rfl _ _ w.heap.size 42 (bare p).cells.toArray (0, 0) _ rfl (setRow_heap _ _ _ _ _ _ g1.out) Tryz.underlying42 rfl (It.info _ (bare_ok p))) rfl ⟨rfl, below_setRow B1.out (Nat.le_refl _) _⟩

/-- No file can have this size. -/
def outI (x : It) : Bool := decide (x.n < 0) || decide (65536 < x.n)
set_option maxHeartbeats 1000000 in
theorem out_any (x : It) (w : World) :
    Calls Tryz.prog 36 #[x.val] w fun e w' => e = .returned (.bool (outI x)) ∧ Below w.heap.size w w' := by
  have k2 : (w.alloc (.cells x.cells.toArray 42)).cell? ⟨w.heap.size, 2, none⟩ = some (.int .i64 x.n) := (range_head (IB.new w x).range).2.2
  have k3 : x.cells.toArray[2]? = some (.int .i64 x.n) := rfl
  have B1 : Hid (Below w.heap.size w (w.alloc (.cells x.cells.toArray 42))) := (Below.refl _ _).alloc (Nat.le_refl _) _
  have HO : Hid (outI x = (decide (x.n < 0) || decide (65536 < x.n))) := rfl
  unfold It.val
  generalize x.cells.toArray = cs at *
  generalize x.n = n at *
  generalize outI x = r at *
  by_cases h : n < 0
  · have h2 : decide (n < 0) = true := by simp [h]
    have HR : Hid (r = true) := by unfold Hid; have := HO.out; rw [h2] at this; simpa using this
    go_enter Tryz.func36, Tryz.ntmps36
    go_wp2
    go_ret
    rw [HR.out]
    exact ⟨rfl, B1.out⟩
  · have h2 : decide (n < 0) = false := by simp [h]
    have HR : Hid (r = decide (65536 < n)) := by unfold Hid; have := HO.out; rw [h2] at this; simpa using this
    go_enter Tryz.func36, Tryz.ntmps36
    go_wp2
    go_ret
    rw [HR.out]
    exact ⟨rfl, B1.out⟩

theorem IB.load {w : World} {g : Nat} {x : It} (h : IB w g x) (hx : x.ok) : (Instr.loadAt 42 (.pointer (some ⟨g, 0, none⟩))).run Tryz.prog w = .ok x.val w :=
  run_loadAt_mid w g 0 42 x.cells _ h.range Tryz.underlying42 rfl (sizeI.trans (by rw [It.len hx]))
/-- A directory has something that only a file may have. -/
def dirI (x : It) : Bool := x.d && !sIt x (bare x.p)
set_option maxHeartbeats 1000000 in
theorem dir_any (x : It) (w : World) (hx : x.ok) :
    Calls Tryz.prog 37 #[x.val] w fun e w' => e = .returned (.bool (dirI x)) ∧ Below w.heap.size w w' := by
  have g1 := IB.new w x
  have b1 : Below w.heap.size w (w.alloc (.cells x.cells.toArray 42)) := (Below.refl _ _).alloc (Nat.le_refl _) _
  have e1 : ∀ W, (binOp .neq 42 x.val (bare x.p).val).run Tryz.prog W = .ok (.bool (!sIt x (bare x.p))) W := fun W => neq_run x (bare x.p) hx (bare_ok _) W
  have e2 : ∀ (a b : Operand) W, (eqGuard .neq 42 a b x.val (bare x.p).val).run Tryz.prog W = .ok () W := fun a b W => eqg_run .neq x (bare x.p) a b W
  have HO : Hid (dirI x = (x.d && !sIt x (bare x.p))) := rfl
  have CB : Hid (∀ W, Calls Tryz.prog 50 #[.string x.p] W fun e w' => e = .returned (bare x.p).val ∧ Below W.heap.size W w') := fun W => bare_any x.p W
  obtain ⟨W1, hW1⟩ : ∃ W1, W1 = w.alloc (.cells x.cells.toArray 42) := ⟨_, rfl⟩
  rw [← hW1] at g1 b1
  have FR : Hid (∀ W, From W1 W → W.rangeAt w.heap.size 0 x.cells) := fun W h => (g1.kept h).range
  have FB : Hid (∀ W, From W1 W → Below w.heap.size w W) := fun W h => b1.trans (Below.mono h b1.size)
  have HZ : Hid ((Tryz.prog.info? 42).map (·.size) = some x.cells.length) := sizeI.trans (by rw [It.len hx])
  have k1 : W1.cell? ⟨w.heap.size, 1, none⟩ = some (.bool x.d) := (range_head g1.range).2.1
  have FK : Hid (∀ W, From W1 W → W.cell? ⟨w.heap.size, 0, none⟩ = some (.string x.p) ∧ W.cell? ⟨w.heap.size, 1, none⟩ = some (.bool x.d)) := fun W h => ⟨(range_head (g1.kept h).range).1, (range_head (g1.kept h).range).2.1⟩
  have hb : ∃ V, V = (bare x.p).val := ⟨_, rfl⟩
  obtain ⟨V, hVb⟩ := hb
  rw [← hVb] at e1 e2 CB
  have E1 : Hid (∀ W, (binOp .neq 42 (.agg x.cells.toArray) V).run Tryz.prog W = .ok (.bool (!sIt x (bare x.p))) W) := e1
  have E2 : Hid (∀ (a b : Operand) W, (eqGuard .neq 42 a b (.agg x.cells.toArray) V).run Tryz.prog W = .ok () W) := e2
  clear hVb hx b1 g1 e1 e2
  unfold It.val
  generalize sIt x (bare x.p) = q at *
  generalize dirI x = r at *
  generalize x.cells = cs at *
  generalize x.d = d at *
  generalize x.p = p at *
  cases d
  · have HR : Hid (r = false) := by unfold Hid; have := HO.out; simpa using this
    go_enter Tryz.func37, Tryz.ntmps37
    go_wp2_with fail
    rw [← hW1]
    clear hW1
    go_quiet (fail)
    have BD : Hid (Below w.heap.size w (W1.drewN nq)) := FB.out _ ⟨rfl, rfl, rfl, Nat.le_refl _, fun _ _ => rfl⟩
    generalize W1.drewN nq = DW at *
    go_wp2
    go_ret
    rw [HR.out]
    exact ⟨rfl, BD.out⟩
  · have HR : Hid (r = !q) := by unfold Hid; have := HO.out; simpa using this
    go_enter Tryz.func37, Tryz.ntmps37
    go_wp2_with fail
    rw [← hW1]
    clear hW1
    refine wp_region_held_drew (S := From W1) (by kernel_rfl) ((Below.refl _ _).drew) (fun _ => ?_)
    refine wpAnyH_on ((Below.refl _ _).drew) (fun u0 hu0 bu0 => ?_)
    replace FR := on FR bu0
    replace FB := on FB bu0
    replace FK := on FK bu0
    refine wpAnyH_take (i := 0) (oi := { dst := some 3, op := Op.fieldAddr 42 (Operand.tmp 1) 1, type := 0, pos := "manifest.go:135", after := #[], guard := none }) (v := ?vr1) rfl (by kernel_rfl) (by kernel_rfl) (by kernel_rfl) (fun _ _ _ h => h) (Or.inl ⟨by rfl, ?yr1⟩) (Below.refl _ _) ?rr1
    case yr1 => (intro w hSw; go_simp; try with_reducible rfl)
    try simp only [Act.put, List.setIfInBounds_toArray, List.set_cons_zero, List.set_cons_succ]
    refine wpAnyH_take (i := 1) (oi := { dst := some 4, op := Op.load 4 (Operand.tmp 3), type := 4, pos := "manifest.go:135", after := #[{ on := 0, ground := Ground.data }], guard := none }) (v := ?vr2) rfl (by kernel_rfl) (by kernel_rfl) (by kernel_rfl) (fun _ _ _ h => h) (Or.inl ⟨by rfl, ?yr2⟩) (Below.refl _ _) ?rr2
    case yr2 => (intro w hSw; obtain ⟨t0, t1⟩ := FK.out w hSw; go_simp; try with_reducible rfl)
    try simp only [Act.put, List.setIfInBounds_toArray, List.set_cons_zero, List.set_cons_succ]
    refine wpAnyH_take (i := 2) (oi := { dst := some 5, op := Op.move (Operand.tmp 4), type := 4, pos := "manifest.go:135", after := #[{ on := 1, ground := Ground.data }], guard := none }) (v := ?vr3) rfl (by kernel_rfl) (by kernel_rfl) (by kernel_rfl) (fun _ _ _ h => h) (Or.inl ⟨by rfl, ?yr3⟩) (Below.refl _ _) ?rr3
    case yr3 => (intro w hSw; go_simp; try with_reducible rfl)
    try simp only [Act.put, List.setIfInBounds_toArray, List.set_cons_zero, List.set_cons_succ]
    refine wpAnyH_take (i := 3) (oi := { dst := some 6, op := Op.load 42 (Operand.tmp 1), type := 42, pos := "manifest.go:135", after := #[{ on := 2, ground := Ground.guard }], guard := some (2, true) }) (v := .agg cs.toArray) rfl (by kernel_rfl) (by kernel_rfl) (by kernel_rfl) (fun _ _ _ h => h) (yieldsIf_load_mid (by rfl) 42 _ rfl w.heap.size 0 rfl cs _ (fun w hw => FR.out w hw) Tryz.underlying42 rfl HZ.out) (Below.refl _ _) ?_
    try simp only [Act.put, List.setIfInBounds_toArray, List.set_cons_zero, List.set_cons_succ]
    refine wpAnyH_take (i := 4) (oi := { dst := some 7, op := Op.fieldAddr 42 (Operand.tmp 1) 0, type := 0, pos := "manifest.go:135", after := #[{ on := 2, ground := Ground.guard }], guard := some (2, true) }) (v := ?vr5) rfl (by kernel_rfl) (by kernel_rfl) (by kernel_rfl) (fun _ _ _ h => h) (Or.inl ⟨by rfl, ?yr5⟩) (Below.refl _ _) ?rr5
    case yr5 => (intro w hSw; go_simp; try with_reducible rfl)
    try simp only [Act.put, List.setIfInBounds_toArray, List.set_cons_zero, List.set_cons_succ]
    refine wpAnyH_take (i := 5) (oi := { dst := some 8, op := Op.load 9 (Operand.tmp 7), type := 9, pos := "manifest.go:135", after := #[{ on := 4, ground := Ground.data }, { on := 2, ground := Ground.guard }], guard := some (2, true) }) (v := ?vr6) rfl (by kernel_rfl) (by kernel_rfl) (by kernel_rfl) (fun _ _ _ h => h) (Or.inl ⟨by rfl, ?yr6⟩) (Below.refl _ _) ?rr6
    case yr6 => (intro w hSw; obtain ⟨t0, t1⟩ := FK.out w hSw; go_simp; try with_reducible rfl)
    try simp only [Act.put, List.setIfInBounds_toArray, List.set_cons_zero, List.set_cons_succ]
    refine wpAnyH_ready (rs := [6]) (by kernel_rfl) (by simp) ?_
    refine AllReadyH.cons (o := { dst := some 9, op := Op.call { callee := Callee.value (Operand.func 50), args := #[Operand.tmp 8], argTypes := #[9] }, type := 42, pos := "manifest.go:135", after := #[{ on := 5, ground := Ground.data }, { on := 2, ground := Ground.chain }, { on := 2, ground := Ground.guard }], guard := some (2, true) }) rfl (fun KK hKK => ?_) ?_
    · go_simp
      refine (CB.out _).mono ?_
      rintro e u7' ⟨rfl, bu7'⟩
      (try go_wp2_with fail)
      refine hKK.out _ _ (bu7') (fun _ => ?_)
      clear hKK KK
      try simp only [Act.put, List.setIfInBounds_toArray, List.set_cons_zero, List.set_cons_succ]
      refine wpAnyH_on (bu7') (fun u7 hu7 bu7 => ?_)
      replace FR := on FR bu7
      replace FB := on FB bu7
      replace FK := on FK bu7
      refine wpAnyH_take (i := 7) (oi := { dst := some 10, op := Op.binOp BinOp.neq 42 (Operand.tmp 6) (Operand.tmp 9) 42, type := 4, pos := "manifest.go:135", after := #[{ on := 3, ground := Ground.data }, { on := 6, ground := Ground.data }, { on := 2, ground := Ground.guard }], guard := some (2, true) }) (v := .bool (!q)) rfl (by kernel_rfl) (by kernel_rfl) (by kernel_rfl) (fun _ _ _ h => h) (yields_eqi (by rfl) .neq _ _ _ rfl (.agg cs.toArray) V (!q) rfl rfl (fun w => E2.out _ _ w) (fun w => E1.out w)) (Below.refl _ _) ?_
      try simp only [Act.put, List.setIfInBounds_toArray, List.set_cons_zero, List.set_cons_succ]
      refine wpAnyH_take (i := 8) (oi := { dst := some 11, op := Op.pick (Operand.tmp 5) (Operand.tmp 10) (Operand.const (Value.bool false)), type := 4, pos := "manifest.go:135", after := #[{ on := 2, ground := Ground.data }, { on := 7, ground := Ground.data }], guard := none }) (v := ?vr9) rfl (by kernel_rfl) (by kernel_rfl) (by kernel_rfl) (fun _ _ _ h => h) (Or.inl ⟨by rfl, ?yr9⟩) (Below.refl _ _) ?rr9
      case yr9 => (intro w hSw; go_simp; try with_reducible rfl)
      try simp only [Act.put, List.setIfInBounds_toArray, List.set_cons_zero, List.set_cons_succ]
      refine wpAnyH_take (i := 9) (oi := { dst := some 2, op := Op.assign (Operand.tmp 11), type := 4, pos := "manifest.go:135", after := #[{ on := 8, ground := Ground.data }, { on := 6, ground := Ground.chain }, { on := 0, ground := Ground.phase }, { on := 1, ground := Ground.phase }, { on := 2, ground := Ground.phase }, { on := 3, ground := Ground.phase }, { on := 4, ground := Ground.phase }, { on := 5, ground := Ground.phase }, { on := 6, ground := Ground.phase }, { on := 7, ground := Ground.phase }, { on := 8, ground := Ground.phase }], guard := none }) (v := ?vr10) rfl (by kernel_rfl) (by kernel_rfl) (by kernel_rfl) (fun _ _ _ h => h) (Or.inl ⟨by rfl, ?yr10⟩) (Below.refl _ _) ?rr10
      case yr10 => (intro w hSw; go_simp; try with_reducible rfl)
      try simp only [Act.put, List.setIfInBounds_toArray, List.set_cons_zero, List.set_cons_succ]
      refine wpAnyH_done (by kernel_rfl) ?_ _
      go_wp2
      go_ret
      rw [HR.out]
      exact ⟨rfl, FB.out _ (Below.refl _ _)⟩
    exact AllReadyH.nil
end Go.Proofs.YtdnbiibijoggoaaGreatDoor

namespace Go.Proofs.YtdnbiibijoggoaaGreatDoor
open Go.RowKit
set_option maxRecDepth 100000

theorem bsI' (p : ByteArray) (d : Bool) (n : Int) (f : Nat → Int) : Tryz.prog.builtSlice 42 1 [(0, .agg (It.cells ⟨p, d, n, (List.range 32).map f⟩).toArray)] = some (It.cells ⟨p, d, n, (List.range 32).map f⟩).toArray := by kernel_rfl
theorem bsI (y : It) (h : y.ok) : Tryz.prog.builtSlice 42 1 [(0, .agg y.cells.toArray)] = some y.cells.toArray := by
  obtain ⟨p, d, n, s⟩ := y
  have := bsI' p d n (fun i => s.getD i 0)
  rwa [map_range s 32 h.1] at this
theorem wpList_bsI {w : World} {ops : Array Oper} {rest : List Oper} {o : Oper} {a : Act} {Q : Exit → Act → World → Prop} (hgd : o.guard = none) (x : Operand) (ho : o.op = .buildSlice 25 1 #[(0, x)])
    (y : It) (hy : y.ok) (hx : a.eval x = .agg y.cells.toArray) (h : wpList Tryz.prog ops Q rest (a.put o.dst (.slice (some ⟨w.heap.size, 0, none⟩) 1 1)) (w.alloc (.cells y.cells.toArray 42))) : wpList Tryz.prog ops Q (o :: rest) a w :=
  Great.wpList_buildSliceTo hgd 25 42 1 #[(0, x)] ho w.heap.size rfl o.dst rfl Tryz.underlying25 y.cells.toArray (by simpa [hx] using bsI y hy) h
end Go.Proofs.YtdnbiibijoggoaaGreatDoor
