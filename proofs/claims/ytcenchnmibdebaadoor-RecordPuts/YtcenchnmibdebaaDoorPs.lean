/-
  Parts and records as values, in slices, in rows of the call's own; built, and compared.
-/
import Derived.Test.YtcenchnmibdebaaDoorCs
import Derived.Test.YtcenchnmibdebaaDoorRp
import Derived.Test.YtcenchnmibdebaaDoorNm
import Derived.Great.Walk
namespace Go.Proofs.YtcenchnmibdebaaDoor
open Go.RowKit
set_option maxRecDepth 100000

/-- A value that is a slice of parts. -/
def PS (w : World) (v : Value) (l : List Pa) : Prop := IS 36 w v (l.map Pa.cells) ∧ ∀ x ∈ l, x.ok
/-- A value that is a slice of records. -/
def RS (w : World) (v : Value) (l : List Rc) : Prop := IS 37 w v (l.map Rc.cells) ∧ ∀ x ∈ l, x.ok
theorem cl_pa {l : List Pa} (h : ∀ x ∈ l, x.ok) : CL 36 (l.map Pa.cells) := fun c hc => by
  obtain ⟨x, hx, rfl⟩ := List.mem_map.1 hc
  exact ⟨Pa.len (h x hx), x.one⟩
theorem cl_rc {l : List Rc} (h : ∀ x ∈ l, x.ok) : CL 37 (l.map Rc.cells) := fun c hc => by
  obtain ⟨x, hx, rfl⟩ := List.mem_map.1 hc
  exact ⟨Rc.len (h x hx), x.one⟩
theorem atC_pa (l : List Pa) (i : Nat) (h : i < l.length) : atC (l.map Pa.cells) i = (atP l i).cells := by
  rw [atC_eq _ i (by simpa using h), atP_eq l i h]; simp
theorem atC_rc (l : List Rc) (i : Nat) (h : i < l.length) : atC (l.map Rc.cells) i = (atR l i).cells := by
  rw [atC_eq _ i (by simpa using h), atR_eq l i h]; simp
theorem PS.kept {w w' : World} {v : Value} {l : List Pa} (h : PS w v l) (hb : Below w.heap.size w w') : PS w' v l := ⟨h.1.kept hb, h.2⟩
theorem PS.shape {w : World} {v : Value} {l : List Pa} (h : PS w v l) : ∃ a c, v = .slice a l.length c ∧ l.length ≤ c ∧ c ≤ maxLen ∧ (a = none → c = 0) := by
  have := h.1.shape
  simpa using this
theorem PS.nil (w : World) : PS w (.slice none 0 0) [] := ⟨IS.nil 36 w, fun x hx => by simp at hx⟩
theorem PS.at {w : World} {a : Option Addr} {n c : Nat} {l : List Pa} (h : PS w (.slice a n c) l) (i : Nat) (hi : i < l.length) :
    ∃ b off, a = some ⟨b, off, none⟩ ∧ w.rangeAt b (off + i * 36) (atP l i).cells := by
  obtain ⟨b, off, e, h2⟩ := h.1.at i (by simpa using hi)
  rw [atC_pa l i hi] at h2
  exact ⟨b, off, e, h2⟩
theorem PS.take {w : World} {a : Option Addr} {n c : Nat} {l : List Pa} (h : PS w (.slice a n c) l) (m : Nat) (hm : m ≤ n) : PS w (.slice a m c) (l.take m) := by
  refine ⟨?_, fun x hx => h.2 x (List.mem_of_mem_take hx)⟩
  rw [List.map_take]
  exact h.1.take m hm
theorem Pa.at (l : List Pa) (h : ∀ x ∈ l, x.ok) (i : Nat) : (atP l i).ok := by
  by_cases hi : i < l.length
  · exact h _ (atP_mem l i hi)
  · have e : atP l i = pa0 := by simp [atP, List.getD, List.getElem?_eq_none (show l.length ≤ i by omega)]
    rw [e]; exact pa0_ok
theorem RS.kept {w w' : World} {v : Value} {l : List Rc} (h : RS w v l) (hb : Below w.heap.size w w') : RS w' v l := ⟨h.1.kept hb, h.2⟩
theorem RS.shape {w : World} {v : Value} {l : List Rc} (h : RS w v l) : ∃ a c, v = .slice a l.length c ∧ l.length ≤ c ∧ c ≤ maxLen ∧ (a = none → c = 0) := by
  have := h.1.shape
  simpa using this
theorem RS.nil (w : World) : RS w (.slice none 0 0) [] := ⟨IS.nil 37 w, fun x hx => by simp at hx⟩
theorem RS.at {w : World} {a : Option Addr} {n c : Nat} {l : List Rc} (h : RS w (.slice a n c) l) (i : Nat) (hi : i < l.length) :
    ∃ b off, a = some ⟨b, off, none⟩ ∧ w.rangeAt b (off + i * 37) (atR l i).cells := by
  obtain ⟨b, off, e, h2⟩ := h.1.at i (by simpa using hi)
  rw [atC_rc l i hi] at h2
  exact ⟨b, off, e, h2⟩
theorem RS.take {w : World} {a : Option Addr} {n c : Nat} {l : List Rc} (h : RS w (.slice a n c) l) (m : Nat) (hm : m ≤ n) : RS w (.slice a m c) (l.take m) := by
  refine ⟨?_, fun x hx => h.2 x (List.mem_of_mem_take hx)⟩
  rw [List.map_take]
  exact h.1.take m hm
theorem Rc.at (l : List Rc) (h : ∀ x ∈ l, x.ok) (i : Nat) : (atR l i).ok := by
  by_cases hi : i < l.length
  · exact h _ (atR_mem l i hi)
  · have e : atR l i = rc0 := by simp [atR, List.getD, List.getElem?_eq_none (show l.length ≤ i by omega)]
    rw [e]; exact rc0_ok
/-- In a row of the call's own, of the type t. -/
def RPt (t : TypeId) (w : World) (B : Nat) (v : Value) (l : List Pa) : Prop := RI t 36 w B v (l.map Pa.cells) ∧ ∀ x ∈ l, x.ok
def RRt (t : TypeId) (w : World) (B : Nat) (v : Value) (l : List Rc) : Prop := RI t 37 w B v (l.map Rc.cells) ∧ ∀ x ∈ l, x.ok
theorem RPt.nil (t : TypeId) (w : World) (B : Nat) : RPt t w B (.slice none 0 0) [] := ⟨RI.nil t 36 w B, fun x hx => by simp at hx⟩
theorem RPt.below {t : TypeId} {w w' : World} {B : Nat} {v : Value} {l : List Pa} (h : RPt t w B v l) (hb : Below w.heap.size w w') : RPt t w' B v l := ⟨h.1.below hb, h.2⟩
theorem RPt.mono {t : TypeId} {w : World} {B B' : Nat} {v : Value} {l : List Pa} (h : RPt t w B v l) (hb : B' ≤ B) : RPt t w B' v l := ⟨h.1.mono hb, h.2⟩
theorem RPt.is {t : TypeId} {w : World} {B : Nat} {v : Value} {l : List Pa} (h : RPt t w B v l) : PS w v l := ⟨h.1.is, h.2⟩
theorem RPt.own {t : TypeId} {w : World} {B : Nat} {v : Value} {l : List Pa} (h : RPt t w B v l) : w.ownsRow B t 36 v l.length (l.map Pa.cells).flatten := by
  have := h.1.1
  simpa using this
theorem RPt.one {t : TypeId} {w : World} {B : Nat} {v : Value} {l : List Pa} (h : RPt t w B v l) {w' : World} {v' : Value} {x : Pa} (hx : x.ok) (h' : RI t 36 w' B v' (l.map Pa.cells ++ [x.cells])) : RPt t w' B v' (l ++ [x]) := by
  refine ⟨by rw [List.map_append]; exact h', fun y hy => ?_⟩
  rcases List.mem_append.1 hy with hy | hy
  · exact h.2 y hy
  · simp at hy; subst hy; exact hx
theorem RRt.nil (t : TypeId) (w : World) (B : Nat) : RRt t w B (.slice none 0 0) [] := ⟨RI.nil t 37 w B, fun x hx => by simp at hx⟩
theorem RRt.below {t : TypeId} {w w' : World} {B : Nat} {v : Value} {l : List Rc} (h : RRt t w B v l) (hb : Below w.heap.size w w') : RRt t w' B v l := ⟨h.1.below hb, h.2⟩
theorem RRt.mono {t : TypeId} {w : World} {B B' : Nat} {v : Value} {l : List Rc} (h : RRt t w B v l) (hb : B' ≤ B) : RRt t w B' v l := ⟨h.1.mono hb, h.2⟩
theorem RRt.is {t : TypeId} {w : World} {B : Nat} {v : Value} {l : List Rc} (h : RRt t w B v l) : RS w v l := ⟨h.1.is, h.2⟩
theorem RRt.own {t : TypeId} {w : World} {B : Nat} {v : Value} {l : List Rc} (h : RRt t w B v l) : w.ownsRow B t 37 v l.length (l.map Rc.cells).flatten := by
  have := h.1.1
  simpa using this
theorem RRt.one {t : TypeId} {w : World} {B : Nat} {v : Value} {l : List Rc} (h : RRt t w B v l) {w' : World} {v' : Value} {x : Rc} (hx : x.ok) (h' : RI t 37 w' B v' (l.map Rc.cells ++ [x.cells])) : RRt t w' B v' (l ++ [x]) := by
  refine ⟨by rw [List.map_append]; exact h', fun y hy => ?_⟩
  rcases List.mem_append.1 hy with hy | hy
  · exact h.2 y hy
  · simp at hy; subst hy; exact hx
/-- Cells of a part, of a record. -/
theorem paC {w : World} {b o : Nat} {x : Pa} (h : w.rangeAt b o x.cells) (hx : x.ok) : w.cell? ⟨b, o, none⟩ = some (.int .i64 x.i) ∧ w.cell? ⟨b, o + 1, none⟩ = some (.string x.p) ∧ w.rangeAt b (o + 2) (x.s.map (Value.int .u8)) ∧ w.cell? ⟨b, o + 34, none⟩ = some (.int .i64 x.n) ∧ w.cell? ⟨b, o + 35, none⟩ = some (.int .i64 x.o) := by
  have hl := hx.1
  refine ⟨h 0 _ rfl, h 1 _ rfl, fun j v hv => ?_, h 34 _ ?_, h 35 _ ?_⟩
  · have := h (j + 2) v (by
      show (x.s.map (Value.int .u8) ++ [.int .i64 x.n, .int .i64 x.o])[j]? = some v
      rw [List.getElem?_append_left (List.getElem?_eq_some_iff.1 hv).1]
      exact hv)
    rwa [show o + 2 + j = o + (j + 2) by omega]
  · show (x.s.map (Value.int .u8) ++ [.int .i64 x.n, .int .i64 x.o])[32]? = _
    rw [List.getElem?_append_right (by simp [hl])]
    simp [hl]
  · show (x.s.map (Value.int .u8) ++ [.int .i64 x.n, .int .i64 x.o])[33]? = _
    rw [List.getElem?_append_right (by simp [hl])]
    simp [hl]
theorem rcP {w : World} {b o : Nat} {r : Rc} (h : w.rangeAt b o r.cells) : w.cell? ⟨b, o, none⟩ = some (.int .u8 r.k) ∧ w.rangeAt b (o + 1) r.x.cells := by
  refine ⟨h 0 _ rfl, fun j v hv => ?_⟩
  have := h (j + 1) v hv
  rwa [show o + 1 + j = o + (j + 1) by omega]
theorem rcC {w : World} {b o : Nat} {r : Rc} (h : w.rangeAt b o r.cells) (hr : r.ok) : w.cell? ⟨b, o, none⟩ = some (.int .u8 r.k) ∧ w.cell? ⟨b, o + 1, none⟩ = some (.int .i64 r.x.i) ∧ w.cell? ⟨b, o + 2, none⟩ = some (.string r.x.p) ∧ w.rangeAt b (o + 3) (r.x.s.map (Value.int .u8)) ∧ w.cell? ⟨b, o + 35, none⟩ = some (.int .i64 r.x.n) ∧ w.cell? ⟨b, o + 36, none⟩ = some (.int .i64 r.x.o) := by
  obtain ⟨h0, h1⟩ := rcP h
  obtain ⟨a, b, c, d, e⟩ := paC h1 hr.2.2
  exact ⟨h0, a, b, c, d, e⟩
def u8c (l : List Int) : Array Value := (l.map (Value.int .u8)).toArray
theorem map_range (A : List Int) (n : Nat) (h : A.length = n) : (List.range n).map (fun i => A.getD i 0) = A := by
  subst h
  apply List.ext_getElem?
  intro i
  rw [List.getElem?_map]
  rcases Nat.lt_or_ge i A.length with hi | hi
  · rw [List.getElem?_range hi]
    simp [List.getD, List.getElem?_eq_getElem hi]
  · rw [List.getElem?_eq_none (by simpa using hi), List.getElem?_eq_none hi]; rfl
theorem sizeHs : (Tryd.prog.info? 23).map (·.size) = some 32 := by kernel_rfl
theorem sizeOf5' : ∀ w, (sizeOf 5).run Tryd.prog w = .ok 1 w := by
  obtain ⟨i0, hi, hz0, hz1, hz2⟩ := info_parts info5'
  intro w
  simp [sizeOf, typeInfo, hi, hz1]
theorem sizeOfH : ∀ w, (sizeOf 23).run Tryd.prog w = .ok 32 w := by
  intro w
  have h := sizeHs
  cases hq : Tryd.prog.info? 23 with
  | none => simp [hq] at h
  | some i =>
    have hs : i.size = 32 := by simpa [hq] using h
    simp [sizeOf, typeInfo, hq, hs]
theorem all_eq' : ∀ (xs ys : List Int), xs.length = ys.length → ((List.range xs.length).all fun i => xs.getD i 0 == ys.getD i 0) = (xs == ys)
  | [], [], _ => rfl
  | x :: xs, y :: ys, h => by
    have ih := all_eq' xs ys (by simpa using h)
    rw [List.length_cons, List.range_succ_eq_map, List.all_cons, List.all_map]
    simp only [List.getD_cons_zero, Function.comp_def, List.getD_cons_succ, ih]
    simp [List.cons_beq_cons]
  | [], _ :: _, h => by simp at h
  | _ :: _, [], h => by simp at h
theorem u8c_get (l : List Int) (i : Nat) (h : i < l.length) : (u8c l)[i]? = some (.int .u8 (l.getD i 0)) := by
  simp [u8c, List.getElem?_eq_getElem h, List.getD]
theorem eq_u8c (d : Nat) (A B : List Int) (hA : A.length = 32) (hB : B.length = 32) (w : World) : (Op.equalIn (d + 2) 23 (.agg (u8c A)) (.agg (u8c B))).run Tryd.prog w = .ok (A == B) w := by
  rw [← all_eq' A B (hA.trans hB.symm), hA, List.range_eq_range', Op.equalIn]
  simp only [Sem.run_bind, run_underlying Tryd.underlying23, Result.andThen_ok, sizeOf5', Std.Legacy.Range.forIn_eq_forIn_range', Std.Legacy.Range.size, Nat.sub_zero, Nat.add_sub_cancel, Nat.div_one]
  have hl : ∀ i ∈ List.range' 0 32 1, i < 32 := fun i hi => by simpa using (List.mem_range'_1.1 hi).2
  generalize List.range' 0 32 1 = l at hl ⊢
  induction l with
  | nil => simp
  | cons i l ih =>
    have hi : i < 32 := hl i (by simp)
    have px : (part 5 (u8c A) (i * 1)).run Tryd.prog w = .ok (.int .u8 (A.getD i 0)) w := by
      simp [part, isAgg, run_underlying Tryd.underlying5, u8c_get A i (by omega)]
    have py : (part 5 (u8c B) (i * 1)).run Tryd.prog w = .ok (.int .u8 (B.getD i 0)) w := by
      simp [part, isAgg, run_underlying Tryd.underlying5, u8c_get B i (by omega)]
    have pe : (Op.equalIn (d + 1) 5 (.int .u8 (A.getD i 0)) (.int .u8 (B.getD i 0))).run Tryd.prog w = .ok (A.getD i 0 == B.getD i 0) w := run_equalIn_int w d 5 .u8 .u8 _ _ Tryd.underlying5
    simp only [List.forIn_cons, Sem.run_bind, px, py, pe, Result.andThen_ok, List.all_cons]
    cases hb : (A.getD i 0 == B.getD i 0)
    · simp
    · simp only [Bool.not_true, Bool.false_eq_true, if_false, Sem.run_pure, Result.andThen_ok, Bool.true_and]
      exact ih fun j hj => hl j (by simp [hj])
theorem part_one {P : Program} {t : TypeId} {cs : Array Value} {o : Nat} {v : Value} {w : World} (h : (isAgg t).run P w = .ok false w) (hc : cs[o]? = some v) : (part t cs o).run P w = .ok v w := by
  simp [part, Sem.run_bind, h, hc]
theorem eqf_cons {P : Program} {d : Nat} {xs ys : Array Value} {f : Field} {fs : List Field} {u v : Value} {r : Bool} {w : World} {t : TypeId} {o : Nat} (hn : f.name ≠ "_") (ht : f.type = t) (ho : f.offset = o) (ha : (part t xs o).run P w = .ok u w) (hb : (part t ys o).run P w = .ok v w) (he : (Op.equalIn d t u v).run P w = .ok r w) :
    (Op.eqFields d xs ys (f :: fs)).run P w = if r = true then (Op.eqFields d xs ys fs).run P w else .ok false w := by
  subst ht ho
  rw [Op.eqFields, if_pos hn]
  simp only [Sem.run_bind, ha, hb, he, Result.andThen_ok]
  cases r
  · simp
  · simp
theorem bed {α : Type} [BEq α] [LawfulBEq α] [DecidableEq α] (a b : α) : (a == b) = decide (a = b) := by by_cases h : a = b <;> simp [h]
theorem eqf_nil {P : Program} {d : Nat} {xs ys : Array Value} {w : World} : (Op.eqFields d xs ys []).run P w = .ok true w := by
  rw [Op.eqFields, Sem.run_pure]
theorem five {w : World} {a b c e f : Bool} : (if a = true then (if b = true then (if c = true then (if e = true then (if f = true then Result.ok true w else .ok false w) else .ok false w) else .ok false w) else .ok false w) else (.ok false w : Result Bool)) = .ok (a && b && c && e && f) w := by
  cases a <;> cases b <;> cases c <;> cases e <;> cases f <;> rfl
theorem six {w : World} {a b c e f g : Bool} : (if a = true then (if b = true then (if c = true then (if e = true then (if f = true then (if g = true then Result.ok true w else .ok false w) else .ok false w) else .ok false w) else .ok false w) else .ok false w) else (.ok false w : Result Bool)) = .ok (a && b && c && e && f && g) w := by
  cases a <;> cases b <;> cases c <;> cases e <;> cases f <;> cases g <;> rfl
/-- Whether two parts, two records are one. -/
def sPa (x y : Pa) : Bool := decide (x.i = y.i) && decide (x.p = y.p) && decide (x.s = y.s) && decide (x.n = y.n) && decide (x.o = y.o)
def sRc (x y : Rc) : Bool := decide (x.k = y.k) && decide (x.x.i = y.x.i) && decide (x.x.p = y.x.p) && decide (x.x.s = y.x.s) && decide (x.x.n = y.x.n) && decide (x.x.o = y.x.o)
theorem sPa_iff (x y : Pa) : sPa x y = true ↔ x = y := by
  cases x; cases y
  simp [sPa, and_assoc]
theorem sRc_iff (x y : Rc) : sRc x y = true ↔ x = y := by
  obtain ⟨k, x⟩ := x; obtain ⟨k', y⟩ := y
  cases x; cases y
  simp [sRc, and_assoc]
theorem cutP (z : Pa) (hz : z.ok) : z.cells.toArray.extract 2 (2 + 32) = u8c z.s := by
  apply Array.ext'
  simp [Pa.cells, u8c]
  exact List.take_left' (by simp [hz.1])
theorem cutR (z : Rc) (hz : z.ok) : z.cells.toArray.extract 3 (3 + 32) = u8c z.x.s := by
  apply Array.ext'
  simp [Rc.cells, Pa.cells, u8c]
  exact List.take_left' (by simp [hz.2.2.1])
theorem arr_get {cs : List Value} {i : Nat} {v : Value} (h : cs[i]? = some v) : cs.toArray[i]? = some v := by simpa using h
theorem paG (z : Pa) (hz : z.ok) : z.cells.toArray[0]? = some (.int .i64 z.i) ∧ z.cells.toArray[1]? = some (.string z.p) ∧ z.cells.toArray[34]? = some (.int .i64 z.n) ∧ z.cells.toArray[35]? = some (.int .i64 z.o) := by
  have hl := hz.1
  refine ⟨rfl, rfl, arr_get ?_, arr_get ?_⟩
  · show (z.s.map (Value.int .u8) ++ [.int .i64 z.n, .int .i64 z.o])[32]? = _
    rw [List.getElem?_append_right (by simp [hl])]
    simp [hl]
  · show (z.s.map (Value.int .u8) ++ [.int .i64 z.n, .int .i64 z.o])[33]? = _
    rw [List.getElem?_append_right (by simp [hl])]
    simp [hl]
theorem rcG (z : Rc) (hz : z.ok) : z.cells.toArray[0]? = some (.int .u8 z.k) ∧ z.cells.toArray[1]? = some (.int .i64 z.x.i) ∧ z.cells.toArray[2]? = some (.string z.x.p) ∧ z.cells.toArray[35]? = some (.int .i64 z.x.n) ∧ z.cells.toArray[36]? = some (.int .i64 z.x.o) := by
  have h := paG z.x hz.2.2
  have e : ∀ i, z.cells.toArray[i + 1]? = z.x.cells.toArray[i]? := fun i => by simp [Rc.cells]
  exact ⟨rfl, (e 0).trans h.1, (e 1).trans h.2.1, (e 34).trans h.2.2.1, (e 35).trans h.2.2.2⟩
theorem fieldsR : (Tryd.prog.fieldsOf 33).toList.map (fun f => (decide (f.name ≠ "_"), f.type, f.offset)) = [(true, 31, 0), (true, 3, 1), (true, 9, 2), (true, 23, 3), (true, 3, 35), (true, 3, 36)] := by kernel_rfl
theorem structR : Tryd.prog.underlying 33 = some (.struct (Tryd.prog.fieldsOf 33)) := by kernel_rfl
theorem standsR : Tryd.prog.stoodInHeld 33 = false := by kernel_rfl
theorem guardR : Tryd.prog.eqGuardType Tryd.prog.depth 33 = false := by kernel_rfl
theorem eqdR (d : Nat) (x y : Rc) (hx : x.ok) (hy : y.ok) (w : World) : (Op.equalIn (d + 3) 33 x.val y.val).run Tryd.prog w = .ok (sRc x y) w := by
  unfold Rc.val
  rw [run_equalIn_struct w (d + 2) 33 _ _ structR standsR]
  have hf := fieldsR
  generalize (Tryd.prog.fieldsOf 33).toList = fs at hf
  have hlen : fs.length = 6 := by have := congrArg List.length hf; simpa using this
  match fs, hlen, hf with
  | [f0, f1, f2, f3, f4, f5], _, hf =>
    simp only [List.map_cons, List.map_nil, List.cons.injEq, Prod.mk.injEq, and_true, decide_eq_true_eq] at hf
    obtain ⟨⟨n0, t0, o0⟩, ⟨n1, t1, o1⟩, ⟨n2, t2, o2⟩, ⟨n3, t3, o3⟩, ⟨n4, t4, o4⟩, n5, t5, o5⟩ := hf
    have a9 : (isAgg 9).run Tryd.prog w = .ok false w := by simp [isAgg, run_underlying Tryd.underlying9]
    have ak : (isAgg 31).run Tryd.prog w = .ok false w := by simp [isAgg, run_underlying Tryd.underlying31]
    have a3 : (isAgg 3).run Tryd.prog w = .ok false w := by simp [isAgg, run_underlying Tryd.underlying3]
    have aH : (isAgg 23).run Tryd.prog w = .ok true w := by simp [isAgg, run_underlying Tryd.underlying23]
    have p0 : ∀ z : Rc, z.ok → (part 31 z.cells.toArray 0).run Tryd.prog w = .ok (.int .u8 z.k) w := fun z hz => part_one ak (rcG z hz).1
    have p1 : ∀ z : Rc, z.ok → (part 3 z.cells.toArray 1).run Tryd.prog w = .ok (.int .i64 z.x.i) w := fun z hz => part_one a3 (rcG z hz).2.1
    have p2 : ∀ z : Rc, z.ok → (part 9 z.cells.toArray 2).run Tryd.prog w = .ok (.string z.x.p) w := fun z hz => part_one a9 (rcG z hz).2.2.1
    have p3 : ∀ z : Rc, z.ok → (part 23 z.cells.toArray 3).run Tryd.prog w = .ok (.agg (u8c z.x.s)) w := fun z hz => by
      simp only [part, Sem.run_bind, aH, Result.andThen_ok, if_true, sizeOfH, Sem.run_pure, cutR z hz]
    have p4 : ∀ z : Rc, z.ok → (part 3 z.cells.toArray 35).run Tryd.prog w = .ok (.int .i64 z.x.n) w := fun z hz => part_one a3 (rcG z hz).2.2.2.1
    have p5 : ∀ z : Rc, z.ok → (part 3 z.cells.toArray 36).run Tryd.prog w = .ok (.int .i64 z.x.o) w := fun z hz => part_one a3 (rcG z hz).2.2.2.2
    have e0 : (Op.equalIn (d + 2) 31 (.int .u8 x.k) (.int .u8 y.k)).run Tryd.prog w = .ok (x.k == y.k) w := run_equalIn_int w (d + 1) 31 .u8 .u8 _ _ Tryd.underlying31
    have e2 : (Op.equalIn (d + 2) 9 (.string x.x.p) (.string y.x.p)).run Tryd.prog w = .ok (x.x.p.toList == y.x.p.toList) w := run_equalIn_string w (d + 1) 9 _ _ Tryd.underlying9
    have ei : ∀ a b : Int, (Op.equalIn (d + 2) 3 (.int .i64 a) (.int .i64 b)).run Tryd.prog w = .ok (a == b) w := fun a b => run_equalIn_int w (d + 1) 3 .i64 .i64 _ _ Tryd.underlying3
    have e3 : (Op.equalIn (d + 2) 23 (.agg (u8c x.x.s)) (.agg (u8c y.x.s))).run Tryd.prog w = .ok (x.x.s == y.x.s) w := eq_u8c d _ _ hx.2.2.1 hy.2.2.1 w
    rw [eqf_cons n0 t0 o0 (p0 x hx) (p0 y hy) e0, eqf_cons n1 t1 o1 (p1 x hx) (p1 y hy) (ei _ _), eqf_cons n2 t2 o2 (p2 x hx) (p2 y hy) e2, eqf_cons n3 t3 o3 (p3 x hx) (p3 y hy) e3, eqf_cons n4 t4 o4 (p4 x hx) (p4 y hy) (ei _ _), eqf_cons n5 t5 o5 (p5 x hx) (p5 y hy) (ei _ _), eqf_nil, six, tl_beq]
    unfold sRc
    rw [bed x.k, bed x.x.i, bed x.x.s, bed x.x.n, bed x.x.o]
theorem eqR (x y : Rc) (hx : x.ok) (hy : y.ok) (w : World) : (Op.equalIn 10000 33 x.val y.val).run Tryd.prog w = .ok (sRc x y) w := eqdR 9997 x y hx hy w
theorem fieldsP : (Tryd.prog.fieldsOf 58).toList.map (fun f => (decide (f.name ≠ "_"), f.type, f.offset)) = [(true, 3, 0), (true, 9, 1), (true, 23, 2), (true, 3, 34), (true, 3, 35)] := by kernel_rfl
theorem structP : Tryd.prog.underlying 58 = some (.struct (Tryd.prog.fieldsOf 58)) := by kernel_rfl
theorem standsP : Tryd.prog.stoodInHeld 58 = false := by kernel_rfl
theorem guardP : Tryd.prog.eqGuardType Tryd.prog.depth 58 = false := by kernel_rfl
theorem eqdP (d : Nat) (x y : Pa) (hx : x.ok) (hy : y.ok) (w : World) : (Op.equalIn (d + 3) 58 x.val y.val).run Tryd.prog w = .ok (sPa x y) w := by
  unfold Pa.val
  rw [run_equalIn_struct w (d + 2) 58 _ _ structP standsP]
  have hf := fieldsP
  generalize (Tryd.prog.fieldsOf 58).toList = fs at hf
  have hlen : fs.length = 5 := by have := congrArg List.length hf; simpa using this
  match fs, hlen, hf with
  | [f1, f2, f3, f4, f5], _, hf =>
    simp only [List.map_cons, List.map_nil, List.cons.injEq, Prod.mk.injEq, and_true, decide_eq_true_eq] at hf
    obtain ⟨⟨n1, t1, o1⟩, ⟨n2, t2, o2⟩, ⟨n3, t3, o3⟩, ⟨n4, t4, o4⟩, n5, t5, o5⟩ := hf
    have a9 : (isAgg 9).run Tryd.prog w = .ok false w := by simp [isAgg, run_underlying Tryd.underlying9]
    have a3 : (isAgg 3).run Tryd.prog w = .ok false w := by simp [isAgg, run_underlying Tryd.underlying3]
    have aH : (isAgg 23).run Tryd.prog w = .ok true w := by simp [isAgg, run_underlying Tryd.underlying23]
    have p1 : ∀ z : Pa, z.ok → (part 3 z.cells.toArray 0).run Tryd.prog w = .ok (.int .i64 z.i) w := fun z hz => part_one a3 (paG z hz).1
    have p2 : ∀ z : Pa, z.ok → (part 9 z.cells.toArray 1).run Tryd.prog w = .ok (.string z.p) w := fun z hz => part_one a9 (paG z hz).2.1
    have p3 : ∀ z : Pa, z.ok → (part 23 z.cells.toArray 2).run Tryd.prog w = .ok (.agg (u8c z.s)) w := fun z hz => by
      simp only [part, Sem.run_bind, aH, Result.andThen_ok, if_true, sizeOfH, Sem.run_pure, cutP z hz]
    have p4 : ∀ z : Pa, z.ok → (part 3 z.cells.toArray 34).run Tryd.prog w = .ok (.int .i64 z.n) w := fun z hz => part_one a3 (paG z hz).2.2.1
    have p5 : ∀ z : Pa, z.ok → (part 3 z.cells.toArray 35).run Tryd.prog w = .ok (.int .i64 z.o) w := fun z hz => part_one a3 (paG z hz).2.2.2
    have e2 : (Op.equalIn (d + 2) 9 (.string x.p) (.string y.p)).run Tryd.prog w = .ok (x.p.toList == y.p.toList) w := run_equalIn_string w (d + 1) 9 _ _ Tryd.underlying9
    have ei : ∀ a b : Int, (Op.equalIn (d + 2) 3 (.int .i64 a) (.int .i64 b)).run Tryd.prog w = .ok (a == b) w := fun a b => run_equalIn_int w (d + 1) 3 .i64 .i64 _ _ Tryd.underlying3
    have e3 : (Op.equalIn (d + 2) 23 (.agg (u8c x.s)) (.agg (u8c y.s))).run Tryd.prog w = .ok (x.s == y.s) w := eq_u8c d _ _ hx.1 hy.1 w
    rw [eqf_cons n1 t1 o1 (p1 x hx) (p1 y hy) (ei _ _), eqf_cons n2 t2 o2 (p2 x hx) (p2 y hy) e2, eqf_cons n3 t3 o3 (p3 x hx) (p3 y hy) e3, eqf_cons n4 t4 o4 (p4 x hx) (p4 y hy) (ei _ _), eqf_cons n5 t5 o5 (p5 x hx) (p5 y hy) (ei _ _), eqf_nil, five, tl_beq]
    unfold sPa
    rw [bed x.i, bed x.s, bed x.n, bed x.o]
theorem eqP (x y : Pa) (hx : x.ok) (hy : y.ok) (w : World) : (Op.equalIn 10000 58 x.val y.val).run Tryd.prog w = .ok (sPa x y) w := eqdP 9997 x y hx hy w
/-- A struct is built, its cells known. -/
theorem wpList_built {P : Program} {ops : Array Oper} {rest : List Oper} {o : Oper} {a : Act} {w : World} {Q : Exit → Act → World → Prop} (hg : o.guard = none) (t : TypeId) (parts : List (Nat × Operand)) (ho : o.op = .build t parts.toArray)
    (L : List (Nat × Value)) (hL : parts.map (fun (i, x) => (i, a.eval x)) = L) (cs : Array Value) (hb : P.built t L = some cs) (h : wpList P ops Q rest (a.put o.dst (.agg cs)) w) : wpList P ops Q (o :: rest) a w := by
  have e : (parts.toArray.map fun (i, x) => (i, a.eval x)).toList = L := by rw [← hL]; simp
  exact wpList_build hg t parts.toArray ho (by rw [e, hb]; rfl) (by rw [e, hb]; exact h)
/-- '==' and '!=' of two structs, as one step of a walk. -/
theorem wpList_eqi {w : World} {ops : Array Oper} {rest : List Oper} {o : Oper} {a : Act} {Q : Exit → Act → World → Prop} (hgd : o.guard = none) (ne : Bool) (T : TypeId) (x y : Operand) (t : TypeId) (ho : o.op = .binOp (if ne then .neq else .eql) T x y t)
    (u v : Array Value) (b : Bool) (hG : Tryd.prog.eqGuardType Tryd.prog.depth T = false) (hE : (Op.equalIn 10000 T (.agg u) (.agg v)).run Tryd.prog w = .ok b w) (hx : a.eval x = .agg u) (hy : a.eval y = .agg v)
    (h : wpList Tryd.prog ops Q rest (a.put o.dst (.bool (ne ^^ b))) w) : wpList Tryd.prog ops Q (o :: rest) a w := by
  refine wpList_plain hgd fun KK hKK => ?_
  unfold Oper.wp
  cases ne
  · simp only [execOp, ho, hx, hy, Sem.run_bind, Bool.false_eq_true, if_false, run_eqGuard_agg _ _ _ _ _ _ _ hG, run_eql_struct, hE, Result.andThen_ok, Sem.run_pure, Oper.upon]
    rw [Bool.false_xor] at h
    exact hKK _ _ h
  · simp only [execOp, ho, hx, hy, Sem.run_bind, if_true, run_eqGuard_agg _ _ _ _ _ _ _ hG, run_neq_struct, hE, Result.andThen_ok, Sem.run_pure, Oper.upon]
    rw [Bool.true_xor] at h
    exact hKK _ _ h
theorem infoP : (Tryd.prog.info? 58).map (fun i => (i.zero, i.size, i.bytes)) = some (some pa0.val, 36, 72) := by kernel_rfl
theorem infoR : (Tryd.prog.info? 33).map (fun i => (i.zero, i.size, i.bytes)) = some (some rc0.val, 37, 80) := by kernel_rfl
theorem sizeP : (Tryd.prog.info? 58).map (·.size) = some 36 := by kernel_rfl
theorem sizeR : (Tryd.prog.info? 33).map (·.size) = some 37 := by kernel_rfl
theorem sizeT : (Tryd.prog.info? 43).map (·.size) = some 2 := by kernel_rfl
theorem Pa.infoA (x : Pa) (h : x.ok) : (Tryd.prog.info? 58).map (·.size) = some x.cells.toArray.size := by rw [sizeP]; simp [Pa.len h]
theorem Rc.infoA (x : Rc) (h : x.ok) : (Tryd.prog.info? 33).map (·.size) = some x.cells.toArray.size := by rw [sizeR]; simp [Rc.len h]
theorem Pa.infoL (x : Pa) (h : x.ok) : (Tryd.prog.info? 58).map (·.size) = some x.cells.length := by rw [sizeP, Pa.len h]
theorem Rc.infoL (x : Rc) (h : x.ok) : (Tryd.prog.info? 33).map (·.size) = some x.cells.length := by rw [sizeR, Rc.len h]
theorem Pa.size (x : Pa) (h : x.ok) : x.cells.toArray.size = 36 := by simp [Pa.len h]
theorem Rc.size (x : Rc) (h : x.ok) : x.cells.toArray.size = 37 := by simp [Rc.len h]
theorem Pa.ones (x : Pa) : x.cells.toArray.all (fun v => v.oneCell') = true := all_oneCell_toArray x.one
theorem Rc.ones (x : Rc) : x.cells.toArray.all (fun v => v.oneCell') = true := all_oneCell_toArray x.one
theorem bR' (k i n o : Int) (p : ByteArray) (f : Nat → Int) : Tryd.prog.built 33 [(0, .int .u8 k), (1, .int .i64 i), (2, .string p), (3, .agg (u8c ((List.range 32).map f))), (4, .int .i64 n), (5, .int .i64 o)] = some (Rc.cells ⟨k, ⟨i, p, (List.range 32).map f, n, o⟩⟩).toArray := by kernel_rfl
theorem bR (r : Rc) (h : r.ok) : Tryd.prog.built 33 [(0, .int .u8 r.k), (1, .int .i64 r.x.i), (2, .string r.x.p), (3, .agg (u8c r.x.s)), (4, .int .i64 r.x.n), (5, .int .i64 r.x.o)] = some r.cells.toArray := by
  have := bR' r.k r.x.i r.x.n r.x.o r.x.p (fun i => r.x.s.getD i 0)
  rwa [map_range r.x.s 32 h.2.2.1] at this
theorem bRB' (k i n : Int) (p : ByteArray) (f : Nat → Int) : Tryd.prog.built 33 [(0, .int .u8 k), (1, .int .i64 i), (2, .string p), (3, .agg (u8c ((List.range 32).map f))), (4, .int .i64 n)] = some (Rc.cells ⟨k, ⟨i, p, (List.range 32).map f, n, 0⟩⟩).toArray := by kernel_rfl
theorem bRB (k i n : Int) (p : ByteArray) (s : List Int) (h : s.length = 32) : Tryd.prog.built 33 [(0, .int .u8 k), (1, .int .i64 i), (2, .string p), (3, .agg (u8c s)), (4, .int .i64 n)] = some (Rc.cells ⟨k, ⟨i, p, s, n, 0⟩⟩).toArray := by
  have := bRB' k i n p (fun i => s.getD i 0)
  rwa [map_range s 32 h] at this
theorem bRM (k i o : Int) : Tryd.prog.built 33 [(0, .int .u8 k), (1, .int .i64 i), (5, .int .i64 o)] = some (Rc.cells ⟨k, ⟨i, ⟨#[]⟩, z32, 0, o⟩⟩).toArray := by kernel_rfl
theorem bRS (k i : Int) : Tryd.prog.built 33 [(0, .int .u8 k), (1, .int .i64 i)] = some (Rc.cells ⟨k, ⟨i, ⟨#[]⟩, z32, 0, 0⟩⟩).toArray := by kernel_rfl
theorem bRZ : Tryd.prog.built 33 [] = some rc0.cells.toArray := by kernel_rfl
theorem bPZ : Tryd.prog.built 58 [] = some pa0.cells.toArray := by kernel_rfl
theorem bP' (i n : Int) (p : ByteArray) (f : Nat → Int) : Tryd.prog.built 58 [(0, .int .i64 i), (1, .string p), (2, .agg (u8c ((List.range 32).map f))), (3, .int .i64 n)] = some (Pa.cells ⟨i, p, (List.range 32).map f, n, 0⟩).toArray := by kernel_rfl
theorem bP (i n : Int) (p : ByteArray) (s : List Int) (h : s.length = 32) : Tryd.prog.built 58 [(0, .int .i64 i), (1, .string p), (2, .agg (u8c s)), (3, .int .i64 n)] = some (Pa.cells ⟨i, p, s, n, 0⟩).toArray := by
  have := bP' i n p (fun i => s.getD i 0)
  rwa [map_range s 32 h] at this
theorem bsP' (i n o : Int) (p : ByteArray) (f : Nat → Int) : Tryd.prog.builtSlice 58 1 [(0, .agg (Pa.cells ⟨i, p, (List.range 32).map f, n, o⟩).toArray)] = some (Pa.cells ⟨i, p, (List.range 32).map f, n, o⟩).toArray := by kernel_rfl
theorem bsP (y : Pa) (h : y.ok) : Tryd.prog.builtSlice 58 1 [(0, .agg y.cells.toArray)] = some y.cells.toArray := by
  have := bsP' y.i y.n y.o y.p (fun i => y.s.getD i 0)
  rwa [map_range y.s 32 h.1] at this
theorem bsR' (k i n o : Int) (p : ByteArray) (f : Nat → Int) : Tryd.prog.builtSlice 33 1 [(0, .agg (Rc.cells ⟨k, i, p, (List.range 32).map f, n, o⟩).toArray)] = some (Rc.cells ⟨k, i, p, (List.range 32).map f, n, o⟩).toArray := by kernel_rfl
theorem bsR (y : Rc) (h : y.ok) : Tryd.prog.builtSlice 33 1 [(0, .agg y.cells.toArray)] = some y.cells.toArray := by
  have := bsR' y.k y.x.i y.x.n y.x.o y.x.p (fun i => y.x.s.getD i 0)
  rwa [map_range y.x.s 32 h.2.2.1] at this
theorem wpList_bsP {w : World} {ops : Array Oper} {rest : List Oper} {o : Oper} {a : Act} {Q : Exit → Act → World → Prop} (hgd : o.guard = none) (x : Operand) (ho : o.op = .buildSlice 41 1 #[(0, x)])
    (y : Pa) (hy : y.ok) (hx : a.eval x = .agg y.cells.toArray) (h : wpList Tryd.prog ops Q rest (a.put o.dst (.slice (some ⟨w.heap.size, 0, none⟩) 1 1)) (w.alloc (.cells y.cells.toArray 58))) : wpList Tryd.prog ops Q (o :: rest) a w :=
  Great.wpList_buildSliceTo hgd 41 58 1 #[(0, x)] ho w.heap.size rfl o.dst rfl Tryd.underlying41 y.cells.toArray (by simpa [hx] using bsP y hy) h
theorem wpList_bsR {w : World} {ops : Array Oper} {rest : List Oper} {o : Oper} {a : Act} {Q : Exit → Act → World → Prop} (hgd : o.guard = none) (x : Operand) (ho : o.op = .buildSlice 40 1 #[(0, x)])
    (y : Rc) (hy : y.ok) (hx : a.eval x = .agg y.cells.toArray) (h : wpList Tryd.prog ops Q rest (a.put o.dst (.slice (some ⟨w.heap.size, 0, none⟩) 1 1)) (w.alloc (.cells y.cells.toArray 33))) : wpList Tryd.prog ops Q (o :: rest) a w :=
  Great.wpList_buildSliceTo hgd 40 33 1 #[(0, x)] ho w.heap.size rfl o.dst rfl Tryd.underlying40 y.cells.toArray (by simpa [hx] using bsR y hy) h
/-- The zero cells. -/
def pzc : Array Value := pa0.cells.toArray
def rzc : Array Value := rc0.cells.toArray
theorem pzc_size : pzc.size = 36 := by simp [pzc, Pa.len pa0_ok]
theorem rzc_size : rzc.size = 37 := by simp [rzc, Rc.len rc0_ok]
end Go.Proofs.YtcenchnmibdebaaDoor
