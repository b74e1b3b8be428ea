/-
  Sums of blocks, plainly; and as the walks read them: slices of sums, sums in a row of the call's own.
  Sums built, and compared; slices of one are built; regions over them.
  Maps as the walks read them: a block that is a map, told by what it answers at each key.
  The names of the families side by side: what is one is one.
  What sizeMayBe, count and check answer; nothing is changed.
  Variables that hold sums; bytes of a sum; the tables; sums of one text.
  What Sign answers.
-/
import Derived.Test.YtgnampbbkaolmaaDoorBa
import Derived.Deep.MidRow
import Derived.Laws.StructEq
import Derived.Laws.Tables
import Derived.Great.Walk
import Derived.Laws.ResultCell
import Derived.Laws.CopyOwn
import Derived.Deep.RegionHeld3
import Derived.Maps.OwnSet
import Derived.DeepKeys4
import Derived.Test.YtgnampbbkaolmaaDoorPkS
import Derived.Test.YtgnampbbkaolmaaDoorPkR
import Derived.Deep.WholeRow
namespace Go.Proofs.YtgnampbbkaolmaaDoor
open Go.RowKit

/-- A block's sums: the weak one, the strong one. -/
structure Sg where
  k : Int
  s : List Int
/-- The zero sum. -/
def z32 : List Int := List.replicate 32 0
theorem z32_len : z32.length = 32 := by simp [z32]
theorem z32_bytes : ∀ k, 0 ≤ z32.getD k 0 ∧ z32.getD k 0 < 256 := byteList z32 (by decide)
/-- The empty sums. -/
def it0 : Sg := ⟨0, z32⟩
/-- The sums at a place. -/
abbrev atI (l : List Sg) (i : Nat) : Sg := l.getD i it0
theorem atI_eq (l : List Sg) (i : Nat) (h : i < l.length) : atI l i = l[i] := by simp [atI, List.getD, h]
theorem atI_mem (l : List Sg) (i : Nat) (h : i < l.length) : atI l i ∈ l := by rw [atI_eq l i h]; exact List.getElem_mem h
/-- What all sums of Go's are: 32 bytes, a number of 32 bits. -/
def Sg.ok (x : Sg) : Prop := x.s.length = 32 ∧ (∀ k, 0 ≤ x.s.getD k 0 ∧ x.s.getD k 0 < 256) ∧ 0 ≤ x.k ∧ x.k < 4294967296
theorem it0_ok : it0.ok := ⟨z32_len, z32_bytes, by decide, by decide⟩
/-- Their cells. -/
def Sg.cells (x : Sg) : List Value := .int .u32 x.k :: x.s.map (Value.int .u8)
def Sg.val (x : Sg) : Value := .agg x.cells.toArray
theorem Sg.len {x : Sg} (h : x.ok) : x.cells.length = 33 := by simp [Sg.cells, h.1]
theorem Sg.one (x : Sg) : ∀ v ∈ x.cells, v.oneCell' = true := by
  intro v hv
  simp only [Sg.cells, List.mem_cons, List.mem_map] at hv
  rcases hv with rfl | ⟨z, _, rfl⟩ <;> rfl
theorem Sg.inj {x y : Sg} (h : x.cells = y.cells) : x = y := by
  cases x; cases y
  simp only [Sg.cells, List.cons.injEq, Value.int.injEq, true_and] at h
  obtain ⟨h3, h4⟩ := h
  have h5 := List.map_inj_right (f := Value.int .u8) (fun a b e => by cases e; rfl) |>.1 h4
  subst h3 h5
  rfl
/-- A value that is a slice of the sums l. -/
def GS (w : World) (v : Value) (l : List Sg) : Prop :=
  ∃ a c, v = .slice a l.length c ∧ l.length ≤ c ∧ c ≤ maxLen ∧ (a = none → c = 0) ∧ (∀ x ∈ l, x.ok) ∧ (l = [] ∨ ∃ b off, a = some ⟨b, off, none⟩ ∧ ∀ i, i < l.length → w.rangeAt b (off + i * 33) (atI l i).cells)
theorem range_kept {w w' : World} {b o : Nat} {cs : List Value} (h : w.rangeAt b o cs) (hb : Below w.heap.size w w') : w'.rangeAt b o cs := fun j v hv =>
  (hb.cell (World.block_lt_of_cell? _ _ (h j v hv))).trans (h j v hv)
theorem GS.kept {w w' : World} {v : Value} {l : List Sg} (h : GS w v l) (hb : Below w.heap.size w w') : GS w' v l := by
  obtain ⟨a, c, h1, h2, h3, h4, h5, h6⟩ := h
  refine ⟨a, c, h1, h2, h3, h4, h5, ?_⟩
  rcases h6 with h6 | ⟨b, off, e, h7⟩
  · exact .inl h6
  · exact .inr ⟨b, off, e, fun i hi => range_kept (h7 i hi) hb⟩
theorem GS.shape {w : World} {v : Value} {l : List Sg} (h : GS w v l) : ∃ a c, v = .slice a l.length c ∧ l.length ≤ c ∧ c ≤ maxLen ∧ (a = none → c = 0) := by
  obtain ⟨a, c, h1, h2, h3, h4, _⟩ := h
  exact ⟨a, c, h1, h2, h3, h4⟩
theorem GS.ok {w : World} {v : Value} {l : List Sg} (h : GS w v l) : ∀ x ∈ l, x.ok := by
  obtain ⟨a, c, h1, h2, h3, h4, h5, _⟩ := h
  exact h5
theorem GS.nil (w : World) : GS w (.slice none 0 0) [] := ⟨none, 0, rfl, Nat.le_refl _, by unfold maxLen; omega, fun _ => rfl, fun x hx => by simp at hx, .inl rfl⟩
theorem Sg.at (l : List Sg) (h : ∀ x ∈ l, x.ok) (i : Nat) : (atI l i).ok := by
  by_cases hi : i < l.length
  · exact h _ (atI_mem l i hi)
  · have e : atI l i = it0 := by simp [atI, List.getD, List.getElem?_eq_none (show l.length ≤ i by omega)]
    rw [e]; exact it0_ok
/-- Sums' cells, in a slice. -/
theorem GS.at {w : World} {a : Option Addr} {n c : Nat} {l : List Sg} (h : GS w (.slice a n c) l) (i : Nat) (hi : i < l.length) :
    ∃ b off, a = some ⟨b, off, none⟩ ∧ w.rangeAt b (off + i * 33) (atI l i).cells := by
  obtain ⟨a', c', h1, h2, h3, h4, h5, h6⟩ := h
  cases h1
  rcases h6 with h6 | ⟨b, off, e, h7⟩
  · subst h6; simp at hi
  · exact ⟨b, off, e, h7 i hi⟩
/-- The first cell. -/
theorem range_head {w : World} {b o : Nat} {x : Sg} (h : w.rangeAt b o x.cells) : w.cell? ⟨b, o, none⟩ = some (.int .u32 x.k) := h 0 _ rfl
theorem range_sum {w : World} {b o : Nat} {x : Sg} (h : w.rangeAt b o x.cells) : w.rangeAt b (o + 1) (x.s.map (Value.int .u8)) := fun j v hv => by
  rw [Nat.add_assoc, Nat.add_comm 1 j]
  exact h (j + 1) v (by simpa [Sg.cells] using hv)
/-- A block that holds sums. -/
def IB (w : World) (g : Nat) (x : Sg) : Prop := w.heap[g]? = some (.cells x.cells.toArray 83 (0, 0))
theorem IB.range {w : World} {g : Nat} {x : Sg} (h : IB w g x) : w.rangeAt g 0 x.cells := fun j v hv => by
  rw [Nat.zero_add]
  unfold World.cell?
  rw [h]
  simpa using hv
theorem IB.kept {w w' : World} {g : Nat} {x : Sg} (h : IB w g x) (hb : Below w.heap.size w w') : IB w' g x := (hb.block g (Array.getElem?_eq_some_iff.1 h).1).trans h
theorem IB.below {w w' : World} {g B : Nat} {x : Sg} (h : IB w g x) (hb : Below B w w') (hg : g < B) : IB w' g x := (hb.block g hg).trans h
theorem IB.new (w : World) (x : Sg) : IB (w.alloc (.cells x.cells.toArray 83)) w.heap.size x := heap_alloc_new _ _
theorem IB.lt {w : World} {g : Nat} {x : Sg} (h : IB w g x) : g < w.heap.size := (Array.getElem?_eq_some_iff.1 h).1
/-- Bytes of a block, as a slice. -/
theorem sl_range {w : World} {b o : Nat} {A : List Int} {n c : Nat} (h : w.rangeAt b o (A.map (Value.int .u8))) (hb : ∀ k, 0 ≤ A.getD k 0 ∧ A.getD k 0 < 256) (hn : n = A.length) (hc : n ≤ c) (hm : c ≤ maxLen) : Sl w (.slice (some ⟨b, o, none⟩) n c) A := by
  subst hn
  refine ⟨_, c, rfl, hc, hm, fun e => (by cases e), ?_⟩
  rcases Nat.eq_zero_or_pos A.length with h0 | hp
  · exact .inl h0
  · refine .inr ⟨hp, b, o, rfl, hc, hm, fun i hi => ?_, hb⟩
    refine h i _ ?_
    rw [List.getElem?_map, List.getElem?_eq_getElem hi]
    simp [List.getD, List.getElem?_eq_getElem hi]
theorem infoI : (Tryd.prog.info? 83).map (fun i => (i.zero, i.size, i.bytes)) = some (some it0.val, 33, 36) := by kernel_rfl
theorem sizeI : (Tryd.prog.info? 83).map (·.size) = some 33 := by kernel_rfl
theorem sizeH : (Tryd.prog.info? 59).map (·.size) = some 32 := by kernel_rfl
/-- Sums in a row of the call's own. -/
def fla (l : List Sg) : List Value := (l.map Sg.cells).flatten
theorem fla_len : ∀ (l : List Sg), (∀ x ∈ l, x.ok) → (fla l).length = l.length * 33
  | [], _ => rfl
  | x :: l, h => by
    have ih := fla_len l fun y hy => h y (by simp [hy])
    have e : fla (x :: l) = x.cells ++ fla l := by simp [fla]
    rw [e, List.length_append, Sg.len (h x (by simp)), ih, List.length_cons]
    omega
theorem fla_app (l m : List Sg) : fla (l ++ m) = fla l ++ fla m := by simp [fla]
theorem fla_one (x : Sg) : fla [x] = x.cells := by simp [fla]
theorem fla_get : ∀ (l : List Sg) (i j : Nat) (v : Value), (∀ x ∈ l, x.ok) → i < l.length → (atI l i).cells[j]? = some v → (fla l)[i * 33 + j]? = some v
  | [], i, j, v, _, hi, _ => by simp at hi
  | x :: l, 0, j, v, h, _, hv => by
    have e : fla (x :: l) = x.cells ++ fla l := by simp [fla]
    have hv' : x.cells[j]? = some v := hv
    rw [e, Nat.zero_mul, Nat.zero_add, List.getElem?_append_left (List.getElem?_eq_some_iff.1 hv').1]
    exact hv'
  | x :: l, i + 1, j, v, h, hi, hv => by
    have e : fla (x :: l) = x.cells ++ fla l := by simp [fla]
    have hl : x.cells.length = 33 := Sg.len (h x (by simp))
    rw [e, List.getElem?_append_right (by rw [hl]; omega), hl, show (i + 1) * 33 + j - 33 = i * 33 + j by omega]
    exact fla_get l i j v (fun y hy => h y (by simp [hy])) (by simpa using hi) hv
def RI (w : World) (B : Nat) (v : Value) (l : List Sg) : Prop := w.ownsRow B 83 33 v l.length (fla l) ∧ ∀ x ∈ l, x.ok
theorem RI.nil (w : World) (B : Nat) : RI w B (.slice none 0 0) [] := ⟨⟨rfl, .inl ⟨rfl, rfl⟩⟩, fun x hx => by simp at hx⟩
theorem RI.below {w w' : World} {B : Nat} {v : Value} {l : List Sg} (h : RI w B v l) (hb : Below w.heap.size w w') : RI w' B v l := ⟨own_below h.1 hb, h.2⟩
theorem RI.mono {w : World} {B B' : Nat} {v : Value} {l : List Sg} (h : RI w B v l) (hb : B' ≤ B) : RI w B' v l := ⟨own_mono h.1 hb, h.2⟩
theorem RI.is {w : World} {B : Nat} {v : Value} {l : List Sg} (h : RI w B v l) : GS w v l := by
  obtain ⟨h, hok⟩ := h
  have h' := h
  rcases h.2 with ⟨rfl, h2⟩ | ⟨g, cap, cur, rfl, hg, hh, hl, hm, r⟩
  · obtain rfl : l = [] := List.length_eq_zero_iff.1 h2
    exact GS.nil w
  · refine ⟨_, cap, rfl, hl, hm, (fun e => by cases e), hok, .inr ⟨g, 0, rfl, fun i hi j v hv => ?_⟩⟩
    have := h'.cells (g := g) rfl (i * 33 + j) v (fla_get l i j v hok hi hv)
    rwa [Addr.add_lit, ← Nat.add_assoc] at this
/-- Sums laid behind. -/
theorem wpList_append_it {w : World} {ops : Array Oper} {rest : List Oper} {o : Oper} {a : Act} {Q : Exit → Act → World → Prop} (hgd : o.guard = none) (s x : Operand)
    (ho : o.op = .call { callee := .builtin .append, args := #[s, x], argTypes := #[51, 51] })
    (B : Nat) (v : Value) (l : List Sg) (hs : a.eval s = v) (hown : RI w B v l) (g : Nat) (y : Sg) (cap : Nat) (hy : y.ok)
    (hx : a.eval x = .slice (some ⟨g, 0, none⟩) 1 cap) (hc : w.rangeAt g 0 y.cells) (hbig : l.length ≤ 100000) (hbase : B ≤ w.heap.size)
    (h : ∀ v' w', RI w' B v' (l ++ [y]) → w.grownBy w' v.ownBlock → wpList Tryd.prog ops Q rest (a.put o.dst v') w') : wpList Tryd.prog ops Q (o :: rest) a w := by
  obtain ⟨i0, hi, hz0, hz1, hz2⟩ := info_parts infoI
  refine wpList_append_own_wide w hgd s x 51 ho B 83 i0 it0.val 33 36 Tryd.underlying51 hi hz0 hz1 hz2 rfl (by decide) v l.length (fla l) hs hown.1 ⟨g, 0, none⟩ 1 cap y.cells hx (Sg.len hy) ?_ (Sg.one y) (by unfold maxLen; omega) (by omega) hbase ?_
  · intro j u hj
    rw [Addr.add_lit]
    exact hc j u hj
  · intro v' w' ho' hg _
    refine h v' w' ⟨?_, fun z hz => ?_⟩ hg
    · rw [List.length_append, fla_app, fla_one]
      exact ho'
    · rcases List.mem_append.1 hz with hz | hz
      · exact hown.2 z hz
      · simp at hz; subst hz; exact hy
end Go.Proofs.YtgnampbbkaolmaaDoor
namespace Go.Proofs.YtgnampbbkaolmaaDoor
open Go.RowKit
set_option maxRecDepth 100000

/-- Bytes as cells. -/
def u8c (l : List Int) : Array Value := (l.map (Value.int .u8)).toArray
theorem map_range (A : List Int) (n : Nat) (h : A.length = n) : (List.range n).map (fun i => A.getD i 0) = A := by
  subst h
  apply List.ext_getElem?
  intro i
  rw [List.getElem?_map]
  rcases Nat.lt_or_ge i A.length with hi | hi
  · rw [List.getElem?_range hi]
    simp [List.getD, List.getElem?_eq_getElem hi]
  · rw [List.getElem?_eq_none (by simpa using hi), List.getElem?_eq_none hi]; rfl
theorem builtF' (k : Int) (f : Nat → Int) : Tryd.prog.built 83 [(0, .int .u32 k), (1, .agg (u8c ((List.range 32).map f)))] = some (Sg.cells ⟨k, (List.range 32).map f⟩).toArray := by kernel_rfl
/-- Sums are built. -/
theorem builtF (k : Int) (A : List Int) (h : A.length = 32) : Tryd.prog.built 83 [(0, .int .u32 k), (1, .agg (u8c A))] = some (Sg.cells ⟨k, A⟩).toArray := by
  have := builtF' k (fun i => A.getD i 0)
  rwa [map_range A 32 h] at this
theorem builtW (k : Int) : Tryd.prog.built 83 [(0, .int .u32 k)] = some (Sg.cells ⟨k, z32⟩).toArray := by kernel_rfl
theorem fieldsI : (Tryd.prog.fieldsOf 83).toList.map (fun f => (decide (f.name ≠ "_"), f.type, f.offset)) = [(true, 81, 0), (true, 59, 1)] := by kernel_rfl
theorem structI : Tryd.prog.underlying 83 = some (.struct (Tryd.prog.fieldsOf 83)) := by kernel_rfl
theorem standsI : Tryd.prog.stoodInHeld 83 = false := by kernel_rfl
theorem guardI : Tryd.prog.eqGuardType Tryd.prog.depth 83 = false := by kernel_rfl
theorem sizeOf5' : ∀ w, (sizeOf 5).run Tryd.prog w = .ok 1 w := by
  obtain ⟨i0, hi, hz0, hz1, hz2⟩ := info_parts info5'
  intro w
  simp [sizeOf, typeInfo, hi, hz1]
theorem sizeOfH : ∀ w, (sizeOf 59).run Tryd.prog w = .ok 32 w := by
  intro w
  have h := sizeH
  cases hq : Tryd.prog.info? 59 with
  | none => simp [hq] at h
  | some i =>
    have hs : i.size = 32 := by simpa [hq] using h
    simp [sizeOf, typeInfo, hq, hs]
theorem all_eq' : ∀ (xs ys : List Int), xs.length = ys.length → ((List.range xs.length).all fun i => xs.getD i 0 == ys.getD i 0) = (xs == ys)
  | [], [], _ => rfl
  | x :: xs, y :: ys, h => by
    have ih := all_eq' xs ys (by simpa using h)
    rw [List.length_cons, List.range_succ_eq_map, List.all_cons, List.all_map]
    simp only [List.getD_cons_zero, Function.comp_def, List.getD_cons_succ, ih]
    simp [List.cons_beq_cons]
  | [], _ :: _, h => by simp at h
  | _ :: _, [], h => by simp at h
theorem u8c_get (l : List Int) (i : Nat) (h : i < l.length) : (u8c l)[i]? = some (.int .u8 (l.getD i 0)) := by
  simp [u8c, List.getElem?_eq_getElem h, List.getD]
theorem eq_u8c (d : Nat) (A B : List Int) (hA : A.length = 32) (hB : B.length = 32) (w : World) : (Op.equalIn (d + 2) 59 (.agg (u8c A)) (.agg (u8c B))).run Tryd.prog w = .ok (A == B) w := by
  rw [← all_eq' A B (hA.trans hB.symm), hA, List.range_eq_range', Op.equalIn]
  simp only [Sem.run_bind, run_underlying Tryd.underlying59, Result.andThen_ok, sizeOf5', Std.Legacy.Range.forIn_eq_forIn_range', Std.Legacy.Range.size, Nat.sub_zero, Nat.add_sub_cancel, Nat.div_one]
  have hl : ∀ i ∈ List.range' 0 32 1, i < 32 := fun i hi => by simpa using (List.mem_range'_1.1 hi).2
  generalize List.range' 0 32 1 = l at hl ⊢
  induction l with
  | nil => simp
  | cons i l ih =>
    have hi : i < 32 := hl i (by simp)
    have px : (part 5 (u8c A) (i * 1)).run Tryd.prog w = .ok (.int .u8 (A.getD i 0)) w := by
      simp [part, isAgg, run_underlying Tryd.underlying5, u8c_get A i (by omega)]
    have py : (part 5 (u8c B) (i * 1)).run Tryd.prog w = .ok (.int .u8 (B.getD i 0)) w := by
      simp [part, isAgg, run_underlying Tryd.underlying5, u8c_get B i (by omega)]
    have pe : (Op.equalIn (d + 1) 5 (.int .u8 (A.getD i 0)) (.int .u8 (B.getD i 0))).run Tryd.prog w = .ok (A.getD i 0 == B.getD i 0) w := run_equalIn_int w d 5 .u8 .u8 _ _ Tryd.underlying5
    simp only [List.forIn_cons, Sem.run_bind, px, py, pe, Result.andThen_ok, List.all_cons]
    cases hb : (A.getD i 0 == B.getD i 0)
    · simp
    · simp only [Bool.not_true, Bool.false_eq_true, if_false, Sem.run_pure, Result.andThen_ok, Bool.true_and]
      exact ih fun j hj => hl j (by simp [hj])
/-- Whether two sums are one. -/
def sIt (x y : Sg) : Bool := decide (x.k = y.k) && decide (x.s = y.s)
theorem sIt_iff (x y : Sg) : sIt x y = true ↔ x = y := by
  cases x; cases y
  simp [sIt]
theorem part_one {P : Program} {t : TypeId} {cs : Array Value} {o : Nat} {v : Value} {w : World} (h : (isAgg t).run P w = .ok false w) (hc : cs[o]? = some v) : (part t cs o).run P w = .ok v w := by
  simp [part, Sem.run_bind, h, hc]
theorem eqf_cons {P : Program} {d : Nat} {xs ys : Array Value} {f : Field} {fs : List Field} {u v : Value} {r : Bool} {w : World} {t : TypeId} {o : Nat} (hn : f.name ≠ "_") (ht : f.type = t) (ho : f.offset = o) (ha : (part t xs o).run P w = .ok u w) (hb : (part t ys o).run P w = .ok v w) (he : (Op.equalIn d t u v).run P w = .ok r w) :
    (Op.eqFields d xs ys (f :: fs)).run P w = if r = true then (Op.eqFields d xs ys fs).run P w else .ok false w := by
  subst ht ho
  rw [Op.eqFields, if_pos hn]
  simp only [Sem.run_bind, ha, hb, he, Result.andThen_ok]
  cases r
  · simp
  · simp
theorem bed {α : Type} [BEq α] [LawfulBEq α] [DecidableEq α] (a b : α) : (a == b) = decide (a = b) := by by_cases h : a = b <;> simp [h]
theorem eqf_nil {P : Program} {d : Nat} {xs ys : Array Value} {w : World} : (Op.eqFields d xs ys []).run P w = .ok true w := by
  rw [Op.eqFields, Sem.run_pure]
theorem two {w : World} {a b : Bool} : (if a = true then (if b = true then Result.ok true w else .ok false w) else (.ok false w : Result Bool)) = .ok (a && b) w := by
  cases a <;> cases b <;> rfl
theorem eq_itd (d : Nat) (x y : Sg) (hx : x.ok) (hy : y.ok) (w : World) : (Op.equalIn (d + 3) 83 x.val y.val).run Tryd.prog w = .ok (sIt x y) w := by
  unfold Sg.val
  rw [run_equalIn_struct w (d + 2) 83 _ _ structI standsI]
  have hf := fieldsI
  generalize (Tryd.prog.fieldsOf 83).toList = fs at hf
  have hlen : fs.length = 2 := by have := congrArg List.length hf; simpa using this
  match fs, hlen, hf with
  | [f0, f1], _, hf =>
    simp only [List.map_cons, List.map_nil, List.cons.injEq, Prod.mk.injEq, and_true, decide_eq_true_eq] at hf
    obtain ⟨⟨n0, t0, o0⟩, n3, t3, o3⟩ := hf
    have aU : (isAgg 81).run Tryd.prog w = .ok false w := by simp [isAgg, run_underlying Tryd.underlying81]
    have aH : (isAgg 59).run Tryd.prog w = .ok true w := by simp [isAgg, run_underlying Tryd.underlying59]
    have cut : ∀ z : Sg, z.ok → z.cells.toArray.extract 1 (1 + 32) = u8c z.s := fun z hz => by
      apply Array.ext'
      simp [Sg.cells, u8c]
      exact List.take_of_length_le (by simp [hz.1])
    have c0 : ∀ z : Sg, z.cells.toArray[0]? = some (.int .u32 z.k) := fun z => rfl
    have p0 : ∀ z : Sg, (part 81 z.cells.toArray 0).run Tryd.prog w = .ok (.int .u32 z.k) w := fun z => part_one aU (c0 z)
    have p3 : ∀ z : Sg, z.ok → (part 59 z.cells.toArray 1).run Tryd.prog w = .ok (.agg (u8c z.s)) w := fun z hz => by
      simp only [part, Sem.run_bind, aH, Result.andThen_ok, if_true, sizeOfH, Sem.run_pure, cut z hz]
    have e2 : (Op.equalIn (d + 2) 81 (.int .u32 x.k) (.int .u32 y.k)).run Tryd.prog w = .ok (x.k == y.k) w := run_equalIn_int w (d + 1) 81 .u32 .u32 _ _ Tryd.underlying81
    have e3 : (Op.equalIn (d + 2) 59 (.agg (u8c x.s)) (.agg (u8c y.s))).run Tryd.prog w = .ok (x.s == y.s) w := eq_u8c d _ _ hx.1 hy.1 w
    rw [eqf_cons n0 t0 o0 (p0 x) (p0 y) e2, eqf_cons n3 t3 o3 (p3 x hx) (p3 y hy) e3, eqf_nil, two]
    unfold sIt
    rw [bed x.k, bed x.s]
theorem eq_it (x y : Sg) (hx : x.ok) (hy : y.ok) (w : World) : (Op.equalIn 10000 83 x.val y.val).run Tryd.prog w = .ok (sIt x y) w := eq_itd 9997 x y hx hy w
/-- A struct is built, its cells known. -/
theorem wpList_built {P : Program} {ops : Array Oper} {rest : List Oper} {o : Oper} {a : Act} {w : World} {Q : Exit → Act → World → Prop} (hg : o.guard = none) (t : TypeId) (parts : List (Nat × Operand)) (ho : o.op = .build t parts.toArray)
    (L : List (Nat × Value)) (hL : parts.map (fun (i, x) => (i, a.eval x)) = L) (cs : Array Value) (hb : P.built t L = some cs) (h : wpList P ops Q rest (a.put o.dst (.agg cs)) w) : wpList P ops Q (o :: rest) a w := by
  have e : (parts.toArray.map fun (i, x) => (i, a.eval x)).toList = L := by rw [← hL]; simp
  exact wpList_build hg t parts.toArray ho (by rw [e, hb]; rfl) (by rw [e, hb]; exact h)
/-- '==' and '!=' of two sums, as one step of a walk. -/
theorem wpList_eqi {w : World} {ops : Array Oper} {rest : List Oper} {o : Oper} {a : Act} {Q : Exit → Act → World → Prop} (hgd : o.guard = none) (ne : Bool) (x y : Operand) (t : TypeId) (ho : o.op = .binOp (if ne then .neq else .eql) 83 x y t)
    (u v : Sg) (hu : u.ok) (hv : v.ok) (hx : a.eval x = u.val) (hy : a.eval y = v.val)
    (h : wpList Tryd.prog ops Q rest (a.put o.dst (.bool (ne ^^ sIt u v))) w) : wpList Tryd.prog ops Q (o :: rest) a w := by
  refine wpList_plain hgd fun KK hKK => ?_
  have hE := eq_it u v hu hv w
  unfold Sg.val at hE hx hy
  unfold Oper.wp
  cases ne
  · simp only [execOp, ho, hx, hy, Sem.run_bind, Bool.false_eq_true, if_false, run_eqGuard_agg _ _ _ _ _ _ _ guardI, run_eql_struct, hE, Result.andThen_ok, Sem.run_pure, Oper.upon]
    rw [Bool.false_xor] at h
    exact hKK _ _ h
  · simp only [execOp, ho, hx, hy, Sem.run_bind, if_true, run_eqGuard_agg _ _ _ _ _ _ _ guardI, run_neq_struct, hE, Result.andThen_ok, Sem.run_pure, Oper.upon]
    rw [Bool.true_xor] at h
    exact hKK _ _ h
theorem bsI' (k : Int) (f : Nat → Int) : Tryd.prog.builtSlice 83 1 [(0, .agg (Sg.cells ⟨k, (List.range 32).map f⟩).toArray)] = some (Sg.cells ⟨k, (List.range 32).map f⟩).toArray := by kernel_rfl
theorem bsI (y : Sg) (h : y.ok) : Tryd.prog.builtSlice 83 1 [(0, .agg y.cells.toArray)] = some y.cells.toArray := by
  obtain ⟨k, s⟩ := y
  have := bsI' k (fun i => s.getD i 0)
  rwa [map_range s 32 h.1] at this
theorem wpList_bsI {w : World} {ops : Array Oper} {rest : List Oper} {o : Oper} {a : Act} {Q : Exit → Act → World → Prop} (hgd : o.guard = none) (x : Operand) (ho : o.op = .buildSlice 51 1 #[(0, x)])
    (y : Sg) (hy : y.ok) (hx : a.eval x = .agg y.cells.toArray) (h : wpList Tryd.prog ops Q rest (a.put o.dst (.slice (some ⟨w.heap.size, 0, none⟩) 1 1)) (w.alloc (.cells y.cells.toArray 83))) : wpList Tryd.prog ops Q (o :: rest) a w :=
  Great.wpList_buildSliceTo hgd 51 83 1 #[(0, x)] ho w.heap.size rfl o.dst rfl Tryd.underlying51 y.cells.toArray (by simpa [hx] using bsI y hy) h
/-- '==' or '!=' of two sums in a region that draws its order. -/
theorem yields_eqi {S : World → Prop} {ops : Array Oper} {o : Oper} {a : Act} (hw : Region.wanted o (yielded ops a.tmps) = true) (op : BinOp) (x y : Operand) (t : TypeId) (ho : o.op = .binOp op 83 x y t)
    (U V : Value) (b : Bool) (hx : a.eval x = U) (hy : a.eval y = V) (hG : ∀ w, (eqGuard op 83 x y U V).run Tryd.prog w = .ok () w) (hE : ∀ w, (binOp op 83 U V).run Tryd.prog w = .ok (.bool b) w) : YieldsIf Tryd.prog ops S o (.bool b) a :=
  .inl ⟨hw, fun w _ => by
    unfold execOp
    simp only [ho, hx, hy, Sem.run_bind, hG, hE, Result.andThen_ok, Sem.run_pure]⟩
/-- A struct is built in a region that draws its order. -/
theorem yields_built {P : Program} {S : World → Prop} {ops : Array Oper} {o : Oper} {a : Act} (hw : Region.wanted o (yielded ops a.tmps) = true) (t : TypeId) (parts : List (Nat × Operand)) (ho : o.op = .build t parts.toArray)
    (L : List (Nat × Value)) (hL : parts.map (fun (i, x) => (i, a.eval x)) = L) (cs : Array Value) (hb : P.built t L = some cs) : YieldsIf P ops S o (.agg cs) a := by
  refine .inl ⟨hw, fun w _ => ?_⟩
  have e : (parts.toArray.map fun (i, x) => (i, a.eval x)).toList = L := by rw [← hL]; simp
  have h := run_build (P := P) w t (parts.toArray.map fun (i, x) => (i, a.eval x)) cs (by rw [e]; exact hb)
  unfold execOp
  simp only [ho, Sem.run_bind, h, Result.andThen_ok, Sem.run_pure]
theorem neq_run (x y : Sg) (hx : x.ok) (hy : y.ok) (w : World) : (binOp .neq 83 x.val y.val).run Tryd.prog w = .ok (.bool (!sIt x y)) w := by
  have h := eq_it x y hx hy w
  unfold Sg.val at h ⊢
  rw [run_neq_struct, h]
  rfl
theorem eqg_run (o : BinOp) (x y : Sg) (a b : Operand) (w : World) : (eqGuard o 83 a b x.val y.val).run Tryd.prog w = .ok () w := run_eqGuard_agg _ _ _ _ _ _ _ guardI
end Go.Proofs.YtgnampbbkaolmaaDoor
namespace Go.Proofs.YtgnampbbkaolmaaDoor
open Go.RowKit Go.Maps
set_option maxRecDepth 100000

/-- Block b is a map of at most n entries that has at each key what f tells. -/
def MP (P : Program) (k : TypeId) (w : World) (b n : Nat) (f : Value → Option Value) : Prop :=
  ∃ es clock, w.heap[b]? = some (.map es clock) ∧ es.size ≤ n ∧ (∀ e ∈ es.toList, ∃ l, keyOf P k e.key = some l) ∧ (∀ e ∈ es.toList, f e.key = some e.val) ∧ (∀ x, f x ≠ none → ∃ e ∈ es.toList, e.key = x)
section
variable {P : Program} {k t e : TypeId} {w w' : World} {b n : Nat} {f : Value → Option Value}
theorem MP.made (P : Program) (k : TypeId) (w : World) : MP P k (w.alloc (.map #[] 0)) w.heap.size 0 (fun _ => none) :=
  ⟨#[], 0, heap_alloc_new _ _, Nat.le_refl _, fun e he => by simp at he, fun e he => by simp at he, fun x hx => absurd rfl hx⟩
theorem MP.lt (h : MP P k w b n f) : b < w.heap.size := by
  obtain ⟨es, clock, hb, _⟩ := h
  exact (Array.getElem?_eq_some_iff.1 hb).1
theorem MP.block (h : MP P k w b n f) (hb : w'.heap[b]? = w.heap[b]?) : MP P k w' b n f := by
  obtain ⟨es, clock, h1, r⟩ := h
  exact ⟨es, clock, hb.trans h1, r⟩
theorem MP.kept (h : MP P k w b n f) (hb : Below w.heap.size w w') : MP P k w' b n f := h.block (hb.block b h.lt)
theorem MP.below {B : Nat} (h : MP P k w b n f) (hb : Below B w w') (hB : b < B) : MP P k w' b n f := h.block (hb.block b hB)
theorem MP.mono {m : Nat} (h : MP P k w b n f) (hm : n ≤ m) : MP P k w b m f := by
  obtain ⟨es, clock, h1, h2, r⟩ := h
  exact ⟨es, clock, h1, Nat.le_trans h2 hm, r⟩
/-- 'm[x]', with or without 'ok'. -/
theorem MP.look (h : MP P k w b n f) (K : Keyed P k) (ht : P.underlying t = some (.map k e)) {z : Value} (hz : (zeroValue e).run P w = .ok z w) {key : Value} (hkey : ∃ l, keyOf P k key = some l) (c : Bool) :
    (Instr.lookup t (.map (some b)) key c).run P w = .ok (if c then .tuple #[(f key).getD z, .bool (f key).isSome] else (f key).getD z) w := by
  obtain ⟨es, clock, hb, hn, hks, hv, hh⟩ := h
  obtain ⟨l, hl⟩ := hkey
  rcases K.find w hl es.toList hks with ⟨h1, h2⟩ | ⟨j, e0, h1, h2, h3⟩
  · have hf : f key = none := by
      cases hq : f key with
      | none => rfl
      | some u =>
        obtain ⟨e1, m1, m2⟩ := hh key (by rw [hq]; simp)
        exact absurd m2 (h2 e1 m1)
    rw [hf]
    simp [Instr.lookup, run_underlying ht, MapKept.run_getObj_map hb, K.check w _ hl, h1, hz, Result.andThen]
  · have hf : f key = some e0.val := by rw [← h3]; exact hv e0 (List.mem_of_getElem? h2)
    rw [hf]
    simp [Instr.lookup, run_underlying ht, MapKept.run_getObj_map hb, K.check w _ hl, h1, Result.andThen]
/-- 'm[x] = v' at a key that is not there: no other block is changed. -/
theorem MP.put (h : MP P k w b n f) (K : Keyed P k) (ht : P.underlying t = some (.map k e)) {key : Value} (val : Value) (hkey : ∃ l, keyOf P k key = some l) (hf : f key = none) :
    ∃ o f', (Instr.mapUpdate t (.map (some b)) key val).run P w = .ok () (ChangeMaps.setBlock w b o) ∧ f' key = some val ∧ (∀ x, x ≠ key → f' x = f x) ∧ MP P k (ChangeMaps.setBlock w b o) b (n + 1) f' := by
  obtain ⟨es, clock, hb, hn, hks, hv, hh⟩ := h
  obtain ⟨l, hl⟩ := hkey
  rcases K.find w hl es.toList hks with ⟨h1, h2⟩ | ⟨j, e0, h1, h2, h3⟩
  · obtain ⟨f', g1, g2⟩ : ∃ f' : Value → Option Value, f' key = some val ∧ ∀ x, x ≠ key → f' x = f x := by
      classical
      exact ⟨fun x => if x = key then some val else f x, by simp, fun x hx => by simp [hx]⟩
    refine ⟨.map (es.push ⟨key, val, clock⟩) (clock + 1), f', ?_, g1, g2, es.push ⟨key, val, clock⟩, clock + 1, ChangeMaps.heap_setBlock_same hb _, by simp; omega, ?_, ?_, ?_⟩
    · simp [Instr.mapUpdate, run_underlying ht, MapKept.run_getObj_map hb, K.check w false hl, h1, MapKept.run_setObj_map _ hb, Result.andThen, ChangeMaps.setBlock]
    · intro x hx
      simp only [Array.toList_push, List.mem_append, List.mem_singleton] at hx
      rcases hx with hx | rfl
      · exact hks x hx
      · exact ⟨l, hl⟩
    · intro x hx
      simp only [Array.toList_push, List.mem_append, List.mem_singleton] at hx
      rcases hx with hx | rfl
      · rw [g2 _ (h2 x hx)]; exact hv x hx
      · exact g1
    · intro x hx
      simp only [Array.toList_push, List.mem_append, List.mem_singleton]
      by_cases e1 : x = key
      · exact ⟨_, .inr rfl, e1.symm⟩
      · rw [g2 x e1] at hx
        obtain ⟨y, y1, y2⟩ := hh x hx
        exact ⟨y, .inl y1, y2⟩
  · have := hv e0 (List.mem_of_getElem? h2)
    rw [h3, hf] at this
    cases this
theorem setBlock_other {i : Nat} (o : Obj) (hi : i ≠ b) : (ChangeMaps.setBlock w b o).heap[i]? = w.heap[i]? := by
  simp only [ChangeMaps.setBlock]
  exact Array.getElem?_setIfInBounds_ne (fun e => hi e.symm)
theorem setBlock_size (o : Obj) : (ChangeMaps.setBlock w b o).heap.size = w.heap.size := by simp [ChangeMaps.setBlock]
theorem setBlock_below {B : Nat} (o : Obj) (hB : B ≤ b) : Below B w (ChangeMaps.setBlock w b o) := ⟨rfl, rfl, rfl, by rw [setBlock_size]; exact Nat.le_refl _, fun i hi => setBlock_other o (by omega)⟩
end
/-- 'm[x]' at the operation. -/
theorem wpList_look {P : Program} {k t e : TypeId} {w : World} {b n : Nat} {f : Value → Option Value} {ops : Array Oper} {rest : List Oper} {o : Oper} {a : Act} {Q : Exit → Act → World → Prop} (hg : o.guard = none) (m x : Operand) (c : Bool) (hop : o.op = Op.lookup t m x c)
    (K : Keyed P k) (ht : P.underlying t = some (.map k e)) {z : Value} (hz : ∀ w, (zeroValue e).run P w = .ok z w) (hm : a.eval m = .map (some b)) (h : MP P k w b n f) (key : Value) (hx : a.eval x = key) (hkey : ∃ l, keyOf P k key = some l)
    (hK : wpList P ops Q rest (a.put o.dst (if c then .tuple #[(f key).getD z, .bool (f key).isSome] else (f key).getD z)) w) : wpList P ops Q (o :: rest) a w := by
  refine wpList_plain hg fun K' hK' => ?_
  have hrun := h.look K ht (hz w) hkey c
  unfold Oper.wp
  simp only [execOp, hop, hm, hx, Sem.run_bind, hrun, Result.andThen_ok, Sem.run_pure]
  exact hK' _ _ hK
/-- 'm[x] = v' at the operation. -/
theorem wp_mput {P : Program} {k t e : TypeId} {w : World} {b n : Nat} {f : Value → Option Value} {o : Oper} {a : Act} {KK : Act → World → Prop} {Q : Exit → Act → World → Prop} (m x v : Operand) (hop : o.op = Op.mapUpdate t m x v)
    (K : Keyed P k) (ht : P.underlying t = some (.map k e)) (hm : a.eval m = .map (some b)) (h : MP P k w b n f) (key val : Value) (hx : a.eval x = key) (hv : a.eval v = val) (hkey : ∃ l, keyOf P k key = some l) (hf : f key = none)
    (hK : ∀ ob f', f' key = some val → (∀ x, x ≠ key → f' x = f x) → MP P k (ChangeMaps.setBlock w b ob) b (n + 1) f' → KK (a.put o.dst undef) (ChangeMaps.setBlock w b ob)) : o.wp P a w KK Q := by
  obtain ⟨ob, f', hrun, r1, r2, r3⟩ := h.put K ht val hkey hf
  unfold Oper.wp
  simp only [execOp, hop, hm, hx, hv, Sem.run_bind, hrun, Result.andThen_ok, Sem.run_pure]
  exact hK ob f' r1 r2 r3
theorem wpList_mput {P : Program} {k t e : TypeId} {w : World} {b n : Nat} {f : Value → Option Value} {ops : Array Oper} {rest : List Oper} {o : Oper} {a : Act} {Q : Exit → Act → World → Prop} (hg : o.guard = none) (m x v : Operand) (hop : o.op = Op.mapUpdate t m x v)
    (K : Keyed P k) (ht : P.underlying t = some (.map k e)) (hm : a.eval m = .map (some b)) (h : MP P k w b n f) (key val : Value) (hx : a.eval x = key) (hv : a.eval v = val) (hkey : ∃ l, keyOf P k key = some l) (hf : f key = none)
    (hK : ∀ ob f', f' key = some val → (∀ x, x ≠ key → f' x = f x) → MP P k (ChangeMaps.setBlock w b ob) b (n + 1) f' → wpList P ops Q rest (a.put o.dst undef) (ChangeMaps.setBlock w b ob)) : wpList P ops Q (o :: rest) a w :=
  wpList_plain hg fun _ hK' => wp_mput m x v hop K ht hm h key val hx hv hkey hf fun ob f' h1 h2 h3 => hK' _ _ (hK ob f' h1 h2 h3)
/-- 'm[x]' in a region that draws its order. -/
theorem yields_look {P : Program} {S : World → Prop} {t : TypeId} {ops : Array Oper} {o : Oper} {a : Act} (hw : Region.wanted o (yielded ops a.tmps) = true) (m x : Operand) (c : Bool) (ho : o.op = .lookup t m x c)
    (M X r : Value) (hm : a.eval m = M) (hx : a.eval x = X) (h : ∀ w, S w → (Instr.lookup t M X c).run P w = .ok r w) : YieldsIf P ops S o r a :=
  .inl ⟨hw, fun w hS => by
    unfold execOp
    simp only [ho, hm, hx, Sem.run_bind, h w hS, Result.andThen_ok, Sem.run_pure]⟩
/-- A number of 32 bits is a key. -/
theorem keyU (a : Int) (h : 0 ≤ a ∧ a < 4294967296) : ∃ l, keyOf Tryd.prog 81 (.int .u32 a) = some l :=
  ⟨_, keyOf_int_mk Tryd.underlying81 (WalkArith.wf_u32 (by omega))⟩
theorem lawU : Keyed Tryd.prog 81 := int_keyed Tryd.underlying81
theorem mlaidOut : laidOutB Tryd.prog = true := by kernel_rfl
theorem rowH : (59 : TypeId) < Tryd.prog.types.size := of_decide_eq_true (by kernel_rfl)
theorem wideH : (match Tryd.prog.underlying 59 with | some (.array _ _) | some (.struct _) => true | _ => false) = true := by kernel_rfl
theorem lawH : Keyed Tryd.prog 59 := Keyed.of_law (deep_law_laid mlaidOut (m := 2) (by omega) rowH (by kernel_rfl) wideH)
theorem keyTypeH : Tryd.prog.keyType 59 = true := by kernel_rfl
theorem cellsH : Tryd.prog.cellsOf 59 = 32 := by kernel_rfl
theorem mcells5 : Tryd.prog.cellsOf 5 = 1 := by kernel_rfl
theorem mapM_some {α β : Type} (f : α → Option β) : ∀ (l : List α), (∀ x ∈ l, ∃ y, f x = some y) → ∃ ys, l.mapM f = some ys
  | [], _ => ⟨[], rfl⟩
  | x :: l, h => by
    obtain ⟨y, hy⟩ := h x (by simp)
    obtain ⟨ys, hys⟩ := mapM_some f l fun z hz => h z (by simp [hz])
    exact ⟨y :: ys, by simp [List.mapM_cons, hy, hys]⟩
/-- A sum is a key. -/
theorem keyH (A : List Int) (hA : A.length = 32) (hb : ∀ i, 0 ≤ A.getD i 0 ∧ A.getD i 0 < 256) : ∃ l, keyOf Tryd.prog 59 (.agg (A.map (Value.int .u8)).toArray) = some l := by
  have hf : (Value.agg (A.map (Value.int .u8)).toArray).formed Tryd.prog 59 = true := by
    simp [Value.formed, Tryd.underlying59, cellsH, hA]
  obtain ⟨N, hN⟩ : ∃ N, Tryd.prog.types.size + 1 = N + 1 + 1 := ⟨Tryd.prog.types.size - 1, by have h : (59 : Nat) < Tryd.prog.types.size := rowH; omega⟩
  obtain ⟨ys, hys⟩ := mapM_some (fun i => Tryd.prog.keyLits (N + 1) 5 (((A.map (Value.int .u8)).drop (i * Tryd.prog.cellsOf 5)).take (Tryd.prog.cellsOf 5))) (List.range 32) fun i hi => by
    have hi' : i < A.length := by rw [hA]; exact List.mem_range.1 hi
    have e1 : ((A.map (Value.int .u8)).drop (i * 1)).take 1 = [.int .u8 (A.getD i 0)] := by
      rw [Nat.mul_one, List.drop_eq_getElem_cons (by simpa using hi')]
      simp [List.getD, List.getElem?_eq_getElem hi']
    rw [mcells5, e1]
    have := hb i
    simp only [Program.keyLits, Tryd.underlying5]
    rw [if_pos ⟨trivial, WalkArith.wf_u8 (by omega)⟩]
    exact ⟨_, rfl⟩
  have hk : Tryd.prog.keyLits (N + 1 + 1) 59 (A.map (Value.int .u8)) = some ys.flatten := by
    have hu := Tryd.underlying59
    rw [Program.keyLits.eq_def]
    simp only [hu, List.length_map, hA, cellsH, if_true]
    rw [hys]
    rfl
  refine ⟨.string (keyBytes ys.flatten), ?_⟩
  unfold keyOf
  simp only [Tryd.underlying59, keyTypeH, hf, Bool.and_self, if_true]
  rw [hN]
  simp only [Value.cells, hk, Option.map_some]
theorem zeroM (w : World) : (zeroValue 110).run Tryd.prog w = .ok (.map none) w := by kernel_rfl
theorem zeroN (w : World) : (zeroValue 3).run Tryd.prog w = .ok (.int .i64 0) w := by kernel_rfl
end Go.Proofs.YtgnampbbkaolmaaDoor
namespace Go.Proofs.YtgnampbbkaolmaaDoor
open Go.RowKit
set_option maxRecDepth 100000

namespace Sh
theorem digest_byt (s : Pl.S8) : Pl.Byt (Pl.digest s) := by
  intro i
  rcases Nat.lt_or_ge i 32 with h | h
  · unfold Pl.digest
    rw [map_getI _ 32 _ h]
    have := Nat.mod_lt ((Pl.words s).getD (i / 4) 0 / 2 ^ (24 - 8 * (i % 4))) (show 0 < 256 by omega)
    omega
  · rw [List.getD, List.getElem?_eq_none (by rw [digest_len]; exact h)]; simp
theorem sha_byt (l : List Int) : Pl.Byt (Pl.sha l) := digest_byt _
end Sh
theorem u8_eq (l : List Int) : Sh.u8s l = u8c l := rfl
/-- The tables of sha. -/
def Ta (w : World) : Prop := Sh.Tab w
theorem Ta.size {w : World} (h : Ta w) : 2 ≤ w.heap.size := Sh.Tab.size h
theorem Ta.kept {w w' : World} (h : Ta w) (hb : Below w.heap.size w w') : Ta w' := Sh.Tab.below h hb h.size
end Go.Proofs.YtgnampbbkaolmaaDoor
namespace Go.Proofs.YtgnampbbkaolmaaDoor
open Go.RowKit
set_option maxRecDepth 100000

set_option maxHeartbeats 1000000 in
theorem maybe_any (z : Int) (w : World) : Calls Tryd.prog 42 #[.int .i64 z] w fun e w' => e = .returned (.bool (decide (1 ≤ z ∧ z ≤ 4096))) ∧ w' = w := by
  by_cases h : 1 ≤ z
  · by_cases k : z ≤ 4096
    · rw [decide_eq_true ⟨h, k⟩]
      go_enter Tryd.func42, Tryd.ntmps42
      go_wp2
      go_ret
      exact ⟨rfl, rfl⟩
    · rw [decide_eq_false (fun q => k q.2)]
      go_enter Tryd.func42, Tryd.ntmps42
      go_wp2
      go_ret
      exact ⟨rfl, rfl⟩
  · rw [decide_eq_false (fun q => h q.1)]
    go_enter Tryd.func42, Tryd.ntmps42
    go_wp2
    go_ret
    exact ⟨rfl, rfl⟩
set_option maxHeartbeats 1000000 in
theorem count_any (z n : Nat) (w : World) (hz : z ≤ 9223372036854775807) (hn : n ≤ 9223372036854775807) : Calls Tryd.prog 43 #[.int .i64 z, .int .i64 n] w fun e w' => e = .returned (.int .i64 ((n / z : Nat) : Int)) ∧ w' = w := by
  by_cases h : z = 0
  · subst h
    rw [Nat.div_zero]
    go_enter Tryd.func43, Tryd.ntmps43
    go_wp2
    go_ret
    exact ⟨rfl, rfl⟩
  · have h1 : ((z : Int) == 0) = false := by simpa using h
    have h2 : ¬ (z : Int) = 0 := by omega
    have h3 : Int.tdiv (n : Int) (z : Int) = ((n / z : Nat) : Int) := (Int.ofNat_tdiv n z).symm
    have h4 : n / z ≤ n := Nat.div_le_self n z
    generalize n / z = q at *
    go_enter Tryd.func43, Tryd.ntmps43
    go_wp2
    go_ret
    exact ⟨by go_num, rfl⟩
/-- Whether sums may be those of n bytes. -/
def chk (z n : Int) (L : Nat) : Int := if z < 1 ∨ 4096 < z then 2 else if n < 0 ∨ 65536 < n then 5 else if L ≠ n.toNat / z.toNat ∨ 4096 < L then 13 else 0
set_option maxHeartbeats 2000000 in
theorem bcheck_any (z n : Int) (a : Option Addr) (L c : Nat) (w : World) (hL : L ≤ 9223372036854775807) :
    Calls Tryd.prog 45 #[.int .i64 z, .int .i64 n, .slice a L c] w fun e w' => e = .returned (.int .i64 (chk z n L)) ∧ w' = w := by
  have CM := maybe_any z w
  unfold chk
  by_cases h1 : z < 1 ∨ 4096 < z
  · rw [if_pos h1]
    rw [decide_eq_false (by omega)] at CM
    clear h1
    go_enter Tryd.func45, Tryd.ntmps45
    go_wp2_with fail
    refine CM.mono ?_
    rintro e w1 ⟨rfl, rfl⟩
    clear CM
    go_wp2
    go_ret
    exact ⟨rfl, rfl⟩
  rw [if_neg h1]
  rw [decide_eq_true (by omega)] at CM
  by_cases h2 : n < 0 ∨ 65536 < n
  · rw [if_pos h2]
    by_cases h3 : n < 0
    · clear h1 h2
      go_enter Tryd.func45, Tryd.ntmps45
      go_wp2_with fail
      refine CM.mono ?_
      rintro e w1 ⟨rfl, rfl⟩
      clear CM
      go_wp2
      go_ret
      exact ⟨rfl, rfl⟩
    · have h4 : 65536 < n := by omega
      clear h1 h2
      go_enter Tryd.func45, Tryd.ntmps45
      go_wp2_with fail
      refine CM.mono ?_
      rintro e w1 ⟨rfl, rfl⟩
      clear CM
      go_wp2
      go_ret
      exact ⟨rfl, rfl⟩
  rw [if_neg h2]
  obtain ⟨zn, rfl⟩ : ∃ k : Nat, z = k := ⟨z.toNat, by omega⟩
  obtain ⟨nn, rfl⟩ : ∃ k : Nat, n = k := ⟨n.toNat, by omega⟩
  have CC := count_any zn nn w (by omega) (by omega)
  rw [Int.toNat_natCast, Int.toNat_natCast]
  have g1 : ¬ (nn : Int) < 0 := by omega
  have g2 : ¬ 65536 < (nn : Int) := by omega
  clear h1 h2
  generalize nn / zn = q at *
  by_cases h5 : L = q
  · subst h5
    by_cases h6 : 4096 < L
    · rw [if_pos (.inr h6)]
      have h7 : 4096 < (L : Int) := by omega
      go_enter Tryd.func45, Tryd.ntmps45
      go_wp2_with fail
      refine CM.mono ?_
      rintro e w1 ⟨rfl, rfl⟩
      clear CM
      go_wp2_with fail
      refine CC.mono ?_
      rintro e w1 ⟨rfl, rfl⟩
      clear CC
      go_wp2
      go_ret
      exact ⟨rfl, rfl⟩
    · rw [if_neg (by omega)]
      have h7 : ¬ 4096 < (L : Int) := by omega
      go_enter Tryd.func45, Tryd.ntmps45
      go_wp2_with fail
      refine CM.mono ?_
      rintro e w1 ⟨rfl, rfl⟩
      clear CM
      go_wp2_with fail
      refine CC.mono ?_
      rintro e w1 ⟨rfl, rfl⟩
      clear CC
      go_wp2
      go_ret
      exact ⟨rfl, rfl⟩
  · rw [if_pos (.inl h5)]
    have h7 : ((L : Int) != (q : Int)) = true := by
      have : ¬ (L : Int) = q := by omega
      simpa using this
    go_enter Tryd.func45, Tryd.ntmps45
    go_wp2_with fail
    refine CM.mono ?_
    rintro e w1 ⟨rfl, rfl⟩
    clear CM
    go_wp2_with fail
    refine CC.mono ?_
    rintro e w1 ⟨rfl, rfl⟩
    clear CC
    go_wp2
    go_ret
    exact ⟨rfl, rfl⟩
end Go.Proofs.YtgnampbbkaolmaaDoor
namespace Go.Proofs.YtgnampbbkaolmaaDoor
open Go.RowKit
set_option maxRecDepth 100000

def izc : Array Value := it0.cells.toArray
theorem Sg.size (x : Sg) (h : x.ok) : x.cells.toArray.size = 33 := by rw [List.size_toArray]; exact Sg.len h
theorem Sg.ones (x : Sg) : x.cells.toArray.all (·.oneCell') = true := all_oneCell_toArray (Sg.one x)
theorem Sg.info (x : Sg) (h : x.ok) : (Tryd.prog.info? 83).map (·.size) = some x.cells.toArray.size := by rw [Sg.size x h]; exact sizeI
theorem izc_size : izc.size = 33 := Sg.size it0 it0_ok
theorem alloc_it (w : World) (x : Sg) : (w.alloc (.cells #[.int .u32 0, .int .u8 0, .int .u8 0, .int .u8 0, .int .u8 0, .int .u8 0, .int .u8 0, .int .u8 0, .int .u8 0, .int .u8 0, .int .u8 0, .int .u8 0, .int .u8 0, .int .u8 0, .int .u8 0, .int .u8 0, .int .u8 0, .int .u8 0, .int .u8 0, .int .u8 0, .int .u8 0, .int .u8 0, .int .u8 0, .int .u8 0, .int .u8 0, .int .u8 0, .int .u8 0, .int .u8 0, .int .u8 0, .int .u8 0, .int .u8 0, .int .u8 0, .int .u8 0] 83)).setRow w.heap.size x.cells.toArray = w.alloc (.cells x.cells.toArray 83) := World.setRow_alloc_new _ _ _ _
theorem new_it (w : World) : (w.alloc (.cells #[.int .u32 0, .int .u8 0, .int .u8 0, .int .u8 0, .int .u8 0, .int .u8 0, .int .u8 0, .int .u8 0, .int .u8 0, .int .u8 0, .int .u8 0, .int .u8 0, .int .u8 0, .int .u8 0, .int .u8 0, .int .u8 0, .int .u8 0, .int .u8 0, .int .u8 0, .int .u8 0, .int .u8 0, .int .u8 0, .int .u8 0, .int .u8 0, .int .u8 0, .int .u8 0, .int .u8 0, .int .u8 0, .int .u8 0, .int .u8 0, .int .u8 0, .int .u8 0, .int .u8 0] 83)).heap[w.heap.size]? = some (.cells izc 83 (0, 0)) := heap_alloc_new _ _
theorem takeI_at (l : List Sg) (j : Nat) (h : j < l.length) : l.take (j + 1) = l.take j ++ [atI l j] := by
  rw [List.take_add_one, List.getElem?_eq_getElem h]
  simp [atI, List.getD, List.getElem?_eq_getElem h]
def hzc : Array Value := u8c z32
theorem u8c_size (l : List Int) : (u8c l).size = l.length := by simp [u8c]
theorem infoH (A : List Int) (h : A.length = 32) : (Tryd.prog.info? 59).map (·.size) = some (u8c A).size := by rw [u8c_size, h]; exact sizeH
theorem infoHl (A : List Int) (h : A.length = 32) : (Tryd.prog.info? 59).map (·.size) = some (A.map (Value.int .u8)).length := by rw [List.length_map, h]; exact sizeH
theorem u8c_ones (A : List Int) : (u8c A).all (·.oneCell') = true := all_oneCell_toArray (ints_one A)
theorem new_h (w : World) : (w.alloc (.cells #[.int .u8 0, .int .u8 0, .int .u8 0, .int .u8 0, .int .u8 0, .int .u8 0, .int .u8 0, .int .u8 0, .int .u8 0, .int .u8 0, .int .u8 0, .int .u8 0, .int .u8 0, .int .u8 0, .int .u8 0, .int .u8 0, .int .u8 0, .int .u8 0, .int .u8 0, .int .u8 0, .int .u8 0, .int .u8 0, .int .u8 0, .int .u8 0, .int .u8 0, .int .u8 0, .int .u8 0, .int .u8 0, .int .u8 0, .int .u8 0, .int .u8 0, .int .u8 0] 59)).heap[w.heap.size]? = some (.cells hzc 59 (0, 0)) := heap_alloc_new _ _
theorem alloc_h (w : World) (A : List Int) : (w.alloc (.cells #[.int .u8 0, .int .u8 0, .int .u8 0, .int .u8 0, .int .u8 0, .int .u8 0, .int .u8 0, .int .u8 0, .int .u8 0, .int .u8 0, .int .u8 0, .int .u8 0, .int .u8 0, .int .u8 0, .int .u8 0, .int .u8 0, .int .u8 0, .int .u8 0, .int .u8 0, .int .u8 0, .int .u8 0, .int .u8 0, .int .u8 0, .int .u8 0, .int .u8 0, .int .u8 0, .int .u8 0, .int .u8 0, .int .u8 0, .int .u8 0, .int .u8 0, .int .u8 0] 59)).setRow w.heap.size (u8c A) = w.alloc (.cells (u8c A) 59) := World.setRow_alloc_new _ _ _ _
theorem hzc_size : hzc.size = 32 := by unfold hzc; rw [u8c_size, z32_len]
theorem sl_u8c {w : World} {g : Nat} {A : List Int} (h : w.heap[g]? = some (.cells (u8c A) 59 (0, 0))) (hl : A.length = 32) (hb : ∀ k, 0 ≤ A.getD k 0 ∧ A.getD k 0 < 256) : Sl w (.slice (some ⟨g, 0, none⟩) 32 32) A := by
  refine sl_range (A := A) (fun j v hv => ?_) hb hl.symm (Nat.le_refl _) (by unfold maxLen; omega)
  rw [Nat.zero_add, cell_of_row _ _ _ _ _ _ h]
  simpa [u8c] using hv
theorem parts1 {w : World} {v : Value} {X : List Int} (s : Sl w v X) : Sh.Parts (w.alloc (.cells #[v] 22)) (some ⟨w.heap.size, 0, none⟩) [X] := by
  refine ⟨by simp, .inr ⟨w.heap.size, 0, rfl, fun i hi => ?_⟩⟩
  obtain rfl : i = 0 := by simpa using hi
  refine ⟨v, ?_, s.kept (al_below _ _)⟩
  rw [World.cell?_alloc_at _ _ _ _ rfl]
  rfl
theorem of1 (X : List Int) (W : World) (g : Nat) (hT : Sh.Tab W) (hP : Sh.Parts W (some ⟨g, 0, none⟩) [X]) (hX : X.length ≤ 100000000000000000) :
    Calls Tryd.prog 27 #[.slice (some ⟨g, 0, none⟩) 1 1] W fun e w' => e = .returned (.agg (u8c (Sh.Pl.sha X))) ∧ Below W.heap.size W w' := by
  have := Sh.of_any (some ⟨g, 0, none⟩) 1 [X] W hT hP (by simpa using hX)
  rw [show [X].flatten = X by simp] at this
  exact this
theorem below_setRow {w w' : World} {B k : Nat} (h : Below B w w') (hk : B ≤ k) (cs : Array Value) : Below B w (w'.setRow k cs) :=
  ⟨h.os, h.tape, h.output, by rw [setRow_size]; exact h.size, fun j hj => by rw [setRow_other w' k j cs (by omega)]; exact h.block j hj⟩
/-- The sums of a block. -/
def sumB (X : List Int) : Sg := ⟨Ro.rs X, Sh.Pl.sha X⟩
theorem sumB_ok (X : List Int) : (sumB X).ok := ⟨Sh.sha_len _, Sh.sha_byt _, (Ro.rs_range X).1, (Ro.rs_range X).2⟩
set_option maxHeartbeats 2000000 in
theorem sumsOf_any (v : Value) (X : List Int) (w : World) (s : Sl w v X) (ht : Ta w) (hX : X.length ≤ 100000000000000000) :
    Calls Tryd.prog 44 #[v] w fun e w' => e = .returned (sumB X).val ∧ Below w.heap.size w w' := by
  obtain ⟨W1, hW1⟩ : ∃ W1, W1 = w.alloc (.cells izc 83) := ⟨_, rfl⟩
  have hwz : w.alloc (.cells #[.int .u32 0, .int .u8 0, .int .u8 0, .int .u8 0, .int .u8 0, .int .u8 0, .int .u8 0, .int .u8 0, .int .u8 0, .int .u8 0, .int .u8 0, .int .u8 0, .int .u8 0, .int .u8 0, .int .u8 0, .int .u8 0, .int .u8 0, .int .u8 0, .int .u8 0, .int .u8 0, .int .u8 0, .int .u8 0, .int .u8 0, .int .u8 0, .int .u8 0, .int .u8 0, .int .u8 0, .int .u8 0, .int .u8 0, .int .u8 0, .int .u8 0, .int .u8 0, .int .u8 0] 83) = W1 := hW1.symm
  have b1 : Below w.heap.size w W1 := by rw [hW1]; exact al_below _ _
  have s1 : W1.heap.size = w.heap.size + 1 := by rw [hW1]; simp
  have g1 : W1.heap[w.heap.size]? = some (.cells izc 83 (0, 0)) := by rw [hW1]; exact heap_alloc_new _ _
  have C1 := Ro.sum_any v X W1 (s.kept b1)
  obtain ⟨W2, hW2⟩ : ∃ W2, W2 = W1.alloc (.cells #[v] 22) := ⟨_, rfl⟩
  have b2 : Below W1.heap.size W1 W2 := by rw [hW2]; exact al_below _ _
  have C2 := of1 X W2 W1.heap.size (ht.kept (b1.trans (b2.mono b1.size))) (by rw [hW2]; exact parts1 (s.kept b1)) hX
  have G2 : Hid (W2.heap[w.heap.size]? = some (.cells izc 83 (0, 0))) := (b2.block _ (by omega)).trans g1
  have B2 : Hid (Below w.heap.size w W2) := b1.trans (b2.mono b1.size)
  have L2 : Hid (w.heap.size < W2.heap.size) := by have := b2.size; unfold Hid; omega
  have HB : Hid (Tryd.prog.built 83 [(0, .int .u32 (Ro.rs X)), (1, .agg (u8c (Sh.Pl.sha X)))] = some (sumB X).cells.toArray) := builtF _ _ (Sh.sha_len _)
  have HI := sumB_ok X
  obtain ⟨a, c, rfl, -⟩ := id s
  have hw2 : W1.alloc (.cells #[.slice a X.length c] 22) = W2 := hW2.symm
  clear hW1 b1 s1 g1 b2 s ht hX hW2
  generalize sumB X = y at *
  generalize Ro.rs X = k at *
  generalize Sh.Pl.sha X = A at *
  generalize X.length = n at *
  unfold Sg.val
  go_enter Tryd.func44, Tryd.ntmps44
  go_wp2_with fail
  try rw [hwz]
  clear hwz
  refine C1.mono ?_
  rintro e w1 ⟨rfl, hq⟩
  replace hq := hq.symm
  subst hq
  clear C1
  go_wp2_with fail
  try rw [hw2]
  clear hw2
  refine C2.mono ?_
  rintro e w3 ⟨rfl, b3⟩
  clear C2
  have G3 : Hid (w3.heap[w.heap.size]? = some (.cells izc 83 (0, 0))) := (b3.block _ L2.out).trans G2.out
  have B3 : Hid (Below w.heap.size w w3) := B2.out.trans (b3.mono B2.out.size)
  clear b3 G2 B2 L2
  go_wp2_with (refine wpList_built rfl 83 [(0, _), (1, _)] rfl _ rfl y.cells.toArray HB.out (Hid.out ?_))
  unfold Hid
  go_wp2_with (refine wpList_store_row rfl 83 _ _ rfl w.heap.size y.cells.toArray rfl rfl 83 _ G3.out (Sg.info _ HI) (izc_size.trans (Sg.size _ HI).symm) (Sg.ones _) ?_)
  exact bodyPost_ret (v := y.val) (results_cell_row rfl _ _ w.heap.size 83 y.cells.toArray (0, 0) _ rfl (setRow_heap _ _ _ _ _ _ G3.out) Tryd.underlying83 rfl (Sg.info _ HI)) rfl ⟨rfl, below_setRow B3.out (Nat.le_refl _) _⟩
end Go.Proofs.YtgnampbbkaolmaaDoor
namespace Go.Proofs.YtgnampbbkaolmaaDoor
open Go.RowKit
set_option maxRecDepth 100000

/-- The block at a place. -/
def blk (b : List Int) (z j : Nat) : List Int := (b.drop (j * z)).take z
/-- The sums of the first blocks. -/
def sgs (b : List Int) (z n : Nat) : List Sg := (List.range n).map fun j => sumB (blk b z j)
theorem sgs_len (b : List Int) (z n : Nat) : (sgs b z n).length = n := by simp [sgs]
theorem sgs_succ (b : List Int) (z n : Nat) : sgs b z (n + 1) = sgs b z n ++ [sumB (blk b z n)] := by simp [sgs, List.range_succ]
theorem sgs_ok (b : List Int) (z n : Nat) : ∀ x ∈ sgs b z n, x.ok := fun x hx => by
  simp only [sgs, List.mem_map] at hx
  obtain ⟨j, _, rfl⟩ := hx
  exact sumB_ok _
/-- A file's sums. -/
def bsig (b : List Int) (z : Int) : List Sg × Int := if z < 1 ∨ 4096 < z then ([], 2) else if 65536 < b.length ∨ 4096 < b.length / z.toNat then ([], 5) else (sgs b z.toNat (b.length / z.toNat), 0)
theorem blk_le (L z j : Nat) (h : j < L / z) : (j + 1) * z ≤ L := by
  have h1 : (j + 1) * z ≤ L / z * z := Nat.mul_le_mul_right z h
  exact Nat.le_trans h1 (Nat.div_mul_le_self L z)
theorem blk_len (b : List Int) (z j : Nat) (h : (j + 1) * z ≤ b.length) : (blk b z j).length = z := by
  unfold blk
  rw [List.length_take, List.length_drop]
  have : (j + 1) * z = j * z + z := by rw [Nat.add_mul, Nat.one_mul]
  omega
/-- A block, as a slice. -/
theorem sl_blk {w : World} {bb off len cap : Nat} {b : List Int} (h : Sl w (.slice (some ⟨bb, off, none⟩) len cap) b) (z i j : Nat) (hi : i + z ≤ len) (hj : i = j * z) : Sl w (.slice (some ⟨bb, off + i, none⟩) z (cap - i)) (blk b z j) := by
  subst hj
  have h1 := h.drop (j * z) (by omega)
  exact h1.take z (by omega)
set_option maxHeartbeats 4000000 in
theorem sign_any (v : Value) (b : List Int) (z : Int) (w : World) (h : Sl w v b) (ht : Ta w) :
    Calls Tryd.prog 24 #[v, .int .i64 z] w fun e w' => ∃ v', e = .returned (.tuple #[v', .int .i64 (bsig b z).2]) ∧ RI w' w.heap.size v' (bsig b z).1 ∧ Below w.heap.size w w' := by
  have CM := maybe_any z w
  obtain ⟨a, c, rfl, h2, h3, h4, -⟩ := id h
  have HS : Hid (Sl w (.slice a b.length c) b) := h
  have HT : Hid (Ta w) := ht
  have HM : Hid (bsig b z = if z < 1 ∨ 4096 < z then ([], 2) else if 65536 < b.length ∨ 4096 < b.length / z.toNat then ([], 5) else (sgs b z.toNat (b.length / z.toNat), 0)) := rfl
  obtain ⟨L, hL⟩ : ∃ L, L = b.length := ⟨_, rfl⟩
  have HL : Hid (L = b.length) := hL
  rw [← hL] at HS HM h2 ⊢
  clear h ht hL h4
  generalize bsig b z = R at *
  by_cases h1 : z < 1 ∨ 4096 < z
  · obtain rfl : R = ([], 2) := by have := HM.out; rwa [if_pos h1] at this
    rw [decide_eq_false (by omega)] at CM
    clear h1 HM
    go_enter Tryd.func24, Tryd.ntmps24
    go_wp2_with fail
    refine CM.mono ?_
    rintro e w1 ⟨rfl, rfl⟩
    clear CM
    go_wp2
    go_ret2
    exact ⟨_, rfl, RI.nil _ _, Below.refl _ _⟩
  rw [decide_eq_true (by omega)] at CM
  obtain ⟨zn, rfl⟩ : ∃ k : Nat, z = k := ⟨z.toNat, by omega⟩
  have hm : L ≤ 9223372036854775807 := by unfold maxLen at h3; omega
  have CC := count_any zn L w (by omega) hm
  have HM2 : Hid (R = if 65536 < L ∨ 4096 < L / zn then ([], 5) else (sgs b zn (L / zn), 0)) := by
    have := HM.out
    rw [if_neg h1, Int.toNat_natCast] at this
    exact this
  have z1 : 1 ≤ zn := by omega
  have z2 : zn ≤ 4096 := by omega
  have HBL : Hid (∀ j, j < L / zn → (j + 1) * zn ≤ L) := fun j hj => blk_le L zn j hj
  clear HM h1
  generalize L / zn = q at *
  by_cases h5 : 65536 < L ∨ 4096 < q
  · obtain rfl : R = ([], 5) := by have := HM2.out; rwa [if_pos h5] at this
    clear HM2
    by_cases h6 : 65536 < L
    · have h7 : 65536 < (L : Int) := by omega
      clear h5
      go_enter Tryd.func24, Tryd.ntmps24
      go_wp2_with fail
      refine CM.mono ?_
      rintro e w1 ⟨rfl, rfl⟩
      clear CM
      go_wp2_with fail
      refine CC.mono ?_
      rintro e w1 ⟨rfl, rfl⟩
      clear CC
      go_wp2
      go_ret2
      exact ⟨_, rfl, RI.nil _ _, Below.refl _ _⟩
    · have h7 : ¬ 65536 < (L : Int) := by omega
      have h8 : 4096 < (q : Int) := by omega
      clear h5
      go_enter Tryd.func24, Tryd.ntmps24
      go_wp2_with fail
      refine CM.mono ?_
      rintro e w1 ⟨rfl, rfl⟩
      clear CM
      go_wp2_with fail
      refine CC.mono ?_
      rintro e w1 ⟨rfl, rfl⟩
      clear CC
      go_wp2
      go_ret2
      exact ⟨_, rfl, RI.nil _ _, Below.refl _ _⟩
  · obtain rfl : R = (sgs b zn q, 0) := by have := HM2.out; rwa [if_neg h5] at this
    have h7 : ¬ 65536 < (L : Int) := by omega
    have h8 : ¬ 4096 < (q : Int) := by omega
    have hq : q ≤ 4096 := by omega
    have hl : L ≤ 65536 := by omega
    clear HM2 h5
    go_enter Tryd.func24, Tryd.ntmps24
    go_wp2_with fail
    refine CM.mono ?_
    rintro e w1 ⟨rfl, hq0⟩
    replace hq0 := hq0.symm
    subst hq0
    clear CM
    go_wp2_with fail
    refine CC.mono ?_
    rintro e w1 ⟨rfl, hq0⟩
    replace hq0 := hq0.symm
    subst hq0
    clear CC
    go_wp2
    go_loopw [7, 24] (fun s p wr => ∃ j : Nat, j ≤ q ∧ p = .int .i64 j ∧ RI wr w.heap.size s (sgs b zn j) ∧ Below w.heap.size w wr) (fun _ p _ => q - (intOf p).toNat)
    case atStart => exact ⟨0, by omega, rfl, RI.nil _ _, Below.refl _ _⟩
    case round =>
      obtain ⟨j, hj, rfl, oe, bel⟩ := hrel
      have HB : Hid (Below w.heap.size w wr) := bel
      have HO : Hid (RI wr w.heap.size u7 (sgs b zn j)) := oe
      obtain ⟨va, vc, rfl, -⟩ := oe.is.shape
      rw [sgs_len] at HO ⊢
      clear bel oe
      by_cases hlt : j < q
      · have lt2 : (j : Int) < (q : Int) := by omega
        have hbl := HBL.out j hlt
        have e1 : (j + 1) * zn = j * zn + zn := by rw [Nat.add_mul, Nat.one_mul]
        obtain ⟨i, hi⟩ : ∃ i, i = j * zn := ⟨_, rfl⟩
        rw [e1, ← hi] at hbl
        have m1 : (j : Int) * (zn : Int) = (i : Int) := by rw [hi, Int.natCast_mul]
        have m2 : ((j : Int) + 1) * (zn : Int) = ((i + zn : Nat) : Int) := by rw [Int.add_mul, Int.one_mul, m1]; omega
        have hs := HS.out.kept HB.out
        obtain ⟨bb, off, rfl⟩ : ∃ bb off, a = some ⟨bb, off, none⟩ := by
          obtain ⟨a', c', e, _, _, _, hr⟩ := hs
          cases e
          rcases hr with hr | ⟨_, bb, off, e, _⟩
          · have := HL.out; omega
          · exact ⟨bb, off, e⟩
        have hsl := sl_blk hs zn i j hbl hi
        have CO := sumsOf_any _ _ wr hsl (HT.out.kept HB.out) (by rw [blk_len b zn j (by rw [e1, ← hi, ← HL.out]; exact hbl)]; omega)
        have HT1 : Hid (sgs b zn (j + 1) = sgs b zn j ++ [sumB (blk b zn j)]) := sgs_succ b zn j
        have HY : Hid (Sg.ok (sumB (blk b zn j))) := sumB_ok _
        have HJ : Hid ((sgs b zn j).length = j) := sgs_len _ _ _
        clear hs hsl e1
        have HI : Hid (i = j * zn) := hi
        clear hi
        generalize sumB (blk b zn j) = y at *
        generalize sgs b zn j = LL at *
        unfold Sg.val at CO
        have n1 : (0 : Int) ≤ (i : Int) := by omega
        have n2 : (i : Int) ≤ ((i + zn : Nat) : Int) := by omega
        have n3 : ((i + zn : Nat) : Int) ≤ (c : Int) := by omega
        have n4 : (i + zn) - i = zn := by omega
        go_wp2_with fail
        refine CO.mono ?_
        rintro e w2 ⟨rfl, b2⟩
        clear CO
        obtain ⟨W3, hW3⟩ : ∃ W3, W3 = w2.alloc (.cells y.cells.toArray 83) := ⟨_, rfl⟩
        have b3 : Below w2.heap.size w2 W3 := by rw [hW3]; exact al_below _ _
        have b13 : Below wr.heap.size wr W3 := b2.trans (b3.mono b2.size)
        have B3 : Hid (Below w.heap.size w W3) := HB.out.trans (b13.mono HB.out.size)
        have R3 : Hid (RI W3 w.heap.size (.slice va j vc) LL) := HO.out.below b13
        have K3 : Hid (W3.rangeAt w2.heap.size 0 y.cells) := by unfold Hid; rw [hW3]; exact (IB.new w2 y).range
        clear b2 b3 b13 HO
        go_wp2_with (refine wpList_bsI rfl _ rfl y HY.out rfl (Hid.out ?_))
        unfold Hid
        rw [← hW3]
        clear hW3
        go_wp2_with (at_builtin; refine wpList_append_it rfl _ _ rfl w.heap.size _ LL rfl R3.out w2.heap.size y 1 HY.out rfl K3.out (by rw [HJ.out]; omega) B3.out.size (Hid.out ?_))
        unfold Hid
        intro v4 w4 r4 g4
        have B4 : Hid (Below w.heap.size w w4) := B3.out.grown g4 B3.out.size (own_base R3.out.1)
        have O4 : Hid (RI w4 w.heap.size v4 (sgs b zn (j + 1))) := by
          unfold Hid
          rw [HT1.out]
          exact r4
        clear r4 g4 R3 K3
        go_wp2
        go_roundw
        case rel => exact ⟨j + 1, by omega, by go_num, O4.out, B4.out⟩
        case measure => simp [intOf]; omega
      · obtain rfl : j = q := by omega
        go_wp2
        go_ret2
        exact ⟨_, rfl, HO.out, HB.out⟩
end Go.Proofs.YtgnampbbkaolmaaDoor
