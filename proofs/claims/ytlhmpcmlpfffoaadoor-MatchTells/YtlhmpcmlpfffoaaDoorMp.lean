/-
  Maps as the walks read them: a block that is a map, told by what it answers at each key.
-/
import Derived.Test.YtlhmpcmlpfffoaaDoorBa
import Derived.Deep.RegionHeld3
import Derived.Maps.OwnSet
import Derived.DeepKeys4
namespace Go.Proofs.YtlhmpcmlpfffoaaDoor
open Go.RowKit Go.Maps
set_option maxRecDepth 100000

/-- Block b is a map of at most n entries that has at each key what f tells. -/
def MP (P : Program) (k : TypeId) (w : World) (b n : Nat) (f : Value → Option Value) : Prop :=
  ∃ es clock, w.heap[b]? = some (.map es clock) ∧ es.size ≤ n ∧ (∀ e ∈ es.toList, ∃ l, keyOf P k e.key = some l) ∧ (∀ e ∈ es.toList, f e.key = some e.val) ∧ (∀ x, f x ≠ none → ∃ e ∈ es.toList, e.key = x)
section
variable {P : Program} {k t e : TypeId} {w w' : World} {b n : Nat} {f : Value → Option Value}
theorem MP.made (P : Program) (k : TypeId) (w : World) : MP P k (w.alloc (.map #[] 0)) w.heap.size 0 (fun _ => none) :=
  ⟨#[], 0, heap_alloc_new _ _, Nat.le_refl _, fun e he => by simp at he, fun e he => by simp at he, fun x hx => absurd rfl hx⟩
theorem MP.lt (h : MP P k w b n f) : b < w.heap.size := by
  obtain ⟨es, clock, hb, _⟩ := h
  exact (Array.getElem?_eq_some_iff.1 hb).1
theorem MP.block (h : MP P k w b n f) (hb : w'.heap[b]? = w.heap[b]?) : MP P k w' b n f := by
  obtain ⟨es, clock, h1, r⟩ := h
  exact ⟨es, clock, hb.trans h1, r⟩
theorem MP.kept (h : MP P k w b n f) (hb : Below w.heap.size w w') : MP P k w' b n f := h.block (hb.block b h.lt)
theorem MP.below {B : Nat} (h : MP P k w b n f) (hb : Below B w w') (hB : b < B) : MP P k w' b n f := h.block (hb.block b hB)
theorem MP.mono {m : Nat} (h : MP P k w b n f) (hm : n ≤ m) : MP P k w b m f := by
  obtain ⟨es, clock, h1, h2, r⟩ := h
  exact ⟨es, clock, h1, Nat.le_trans h2 hm, r⟩
/-- 'm[x]', with or without 'ok'. -/
theorem MP.look (h : MP P k w b n f) (K : Keyed P k) (ht : P.underlying t = some (.map k e)) {z : Value} (hz : (zeroValue e).run P w = .ok z w) {key : Value} (hkey : ∃ l, keyOf P k key = some l) (c : Bool) :
    (Instr.lookup t (.map (some b)) key c).run P w = .ok (if c then .tuple #[(f key).getD z, .bool (f key).isSome] else (f key).getD z) w := by
  obtain ⟨es, clock, hb, hn, hks, hv, hh⟩ := h
  obtain ⟨l, hl⟩ := hkey
  rcases K.find w hl es.toList hks with ⟨h1, h2⟩ | ⟨j, e0, h1, h2, h3⟩
  · have hf : f key = none := by
      cases hq : f key with
      | none => rfl
      | some u =>
        obtain ⟨e1, m1, m2⟩ := hh key (by rw [hq]; simp)
        exact absurd m2 (h2 e1 m1)
    rw [hf]
    simp [Instr.lookup, run_underlying ht, MapKept.run_getObj_map hb, K.check w _ hl, h1, hz, Result.andThen]
  · have hf : f key = some e0.val := by rw [← h3]; exact hv e0 (List.mem_of_getElem? h2)
    rw [hf]
    simp [Instr.lookup, run_underlying ht, MapKept.run_getObj_map hb, K.check w _ hl, h1, Result.andThen]
/-- 'm[x] = v' at a key that is not there: no other block is changed. -/
theorem MP.put (h : MP P k w b n f) (K : Keyed P k) (ht : P.underlying t = some (.map k e)) {key : Value} (val : Value) (hkey : ∃ l, keyOf P k key = some l) (hf : f key = none) :
    ∃ o f', (Instr.mapUpdate t (.map (some b)) key val).run P w = .ok () (ChangeMaps.setBlock w b o) ∧ f' key = some val ∧ (∀ x, x ≠ key → f' x = f x) ∧ MP P k (ChangeMaps.setBlock w b o) b (n + 1) f' := by
  obtain ⟨es, clock, hb, hn, hks, hv, hh⟩ := h
  obtain ⟨l, hl⟩ := hkey
  rcases K.find w hl es.toList hks with ⟨h1, h2⟩ | ⟨j, e0, h1, h2, h3⟩
  · obtain ⟨f', g1, g2⟩ : ∃ f' : Value → Option Value, f' key = some val ∧ ∀ x, x ≠ key → f' x = f x := by
      classical
      exact ⟨fun x => if x = key then some val else f x, by simp, fun x hx => by simp [hx]⟩
    refine ⟨.map (es.push ⟨key, val, clock⟩) (clock + 1), f', ?_, g1, g2, es.push ⟨key, val, clock⟩, clock + 1, ChangeMaps.heap_setBlock_same hb _, by simp; omega, ?_, ?_, ?_⟩
    · simp [Instr.mapUpdate, run_underlying ht, MapKept.run_getObj_map hb, K.check w false hl, h1, MapKept.run_setObj_map _ hb, Result.andThen, ChangeMaps.setBlock]
    · intro x hx
      simp only [Array.toList_push, List.mem_append, List.mem_singleton] at hx
      rcases hx with hx | rfl
      · exact hks x hx
      · exact ⟨l, hl⟩
    · intro x hx
      simp only [Array.toList_push, List.mem_append, List.mem_singleton] at hx
      rcases hx with hx | rfl
      · rw [g2 _ (h2 x hx)]; exact hv x hx
      · exact g1
    · intro x hx
      simp only [Array.toList_push, List.mem_append, List.mem_singleton]
      by_cases e1 : x = key
      · exact ⟨_, .inr rfl, e1.symm⟩
      · rw [g2 x e1] at hx
        obtain ⟨y, y1, y2⟩ := hh x hx
        exact ⟨y, .inl y1, y2⟩
  · have := hv e0 (List.mem_of_getElem? h2)
    rw [h3, hf] at this
    cases this
theorem setBlock_other {i : Nat} (o : Obj) (hi : i ≠ b) : (ChangeMaps.setBlock w b o).heap[i]? = w.heap[i]? := by
  simp only [ChangeMaps.setBlock]
  exact Array.getElem?_setIfInBounds_ne (fun e => hi e.symm)
theorem setBlock_size (o : Obj) : (ChangeMaps.setBlock w b o).heap.size = w.heap.size := by simp [ChangeMaps.setBlock]
theorem setBlock_below {B : Nat} (o : Obj) (hB : B ≤ b) : Below B w (ChangeMaps.setBlock w b o) := ⟨rfl, rfl, rfl, by rw [setBlock_size]; exact Nat.le_refl _, fun i hi => setBlock_other o (by omega)⟩
end
/-- 'm[x]' at the operation. -/
theorem wpList_look {P : Program} {k t e : TypeId} {w : World} {b n : Nat} {f : Value → Option Value} {ops : Array Oper} {rest : List Oper} {o : Oper} {a : Act} {Q : Exit → Act → World → Prop} (hg : o.guard = none) (m x : Operand) (c : Bool) (hop : o.op = Op.lookup t m x c)
    (K : Keyed P k) (ht : P.underlying t = some (.map k e)) {z : Value} (hz : ∀ w, (zeroValue e).run P w = .ok z w) (hm : a.eval m = .map (some b)) (h : MP P k w b n f) (key : Value) (hx : a.eval x = key) (hkey : ∃ l, keyOf P k key = some l)
    (hK : wpList P ops Q rest (a.put o.dst (if c then .tuple #[(f key).getD z, .bool (f key).isSome] else (f key).getD z)) w) : wpList P ops Q (o :: rest) a w := by
  refine wpList_plain hg fun K' hK' => ?_
  have hrun := h.look K ht (hz w) hkey c
  unfold Oper.wp
  simp only [execOp, hop, hm, hx, Sem.run_bind, hrun, Result.andThen_ok, Sem.run_pure]
  exact hK' _ _ hK
/-- 'm[x] = v' at the operation. -/
theorem wp_mput {P : Program} {k t e : TypeId} {w : World} {b n : Nat} {f : Value → Option Value} {o : Oper} {a : Act} {KK : Act → World → Prop} {Q : Exit → Act → World → Prop} (m x v : Operand) (hop : o.op = Op.mapUpdate t m x v)
    (K : Keyed P k) (ht : P.underlying t = some (.map k e)) (hm : a.eval m = .map (some b)) (h : MP P k w b n f) (key val : Value) (hx : a.eval x = key) (hv : a.eval v = val) (hkey : ∃ l, keyOf P k key = some l) (hf : f key = none)
    (hK : ∀ ob f', f' key = some val → (∀ x, x ≠ key → f' x = f x) → MP P k (ChangeMaps.setBlock w b ob) b (n + 1) f' → KK (a.put o.dst undef) (ChangeMaps.setBlock w b ob)) : o.wp P a w KK Q := by
  obtain ⟨ob, f', hrun, r1, r2, r3⟩ := h.put K ht val hkey hf
  unfold Oper.wp
  simp only [execOp, hop, hm, hx, hv, Sem.run_bind, hrun, Result.andThen_ok, Sem.run_pure]
  exact hK ob f' r1 r2 r3
theorem wpList_mput {P : Program} {k t e : TypeId} {w : World} {b n : Nat} {f : Value → Option Value} {ops : Array Oper} {rest : List Oper} {o : Oper} {a : Act} {Q : Exit → Act → World → Prop} (hg : o.guard = none) (m x v : Operand) (hop : o.op = Op.mapUpdate t m x v)
    (K : Keyed P k) (ht : P.underlying t = some (.map k e)) (hm : a.eval m = .map (some b)) (h : MP P k w b n f) (key val : Value) (hx : a.eval x = key) (hv : a.eval v = val) (hkey : ∃ l, keyOf P k key = some l) (hf : f key = none)
    (hK : ∀ ob f', f' key = some val → (∀ x, x ≠ key → f' x = f x) → MP P k (ChangeMaps.setBlock w b ob) b (n + 1) f' → wpList P ops Q rest (a.put o.dst undef) (ChangeMaps.setBlock w b ob)) : wpList P ops Q (o :: rest) a w :=
  wpList_plain hg fun _ hK' => wp_mput m x v hop K ht hm h key val hx hv hkey hf fun ob f' h1 h2 h3 => hK' _ _ (hK ob f' h1 h2 h3)
/-- 'm[x]' in a region that draws its order. -/
theorem yields_look {P : Program} {S : World → Prop} {t : TypeId} {ops : Array Oper} {o : Oper} {a : Act} (hw : Region.wanted o (yielded ops a.tmps) = true) (m x : Operand) (c : Bool) (ho : o.op = .lookup t m x c)
    (M X r : Value) (hm : a.eval m = M) (hx : a.eval x = X) (h : ∀ w, S w → (Instr.lookup t M X c).run P w = .ok r w) : YieldsIf P ops S o r a :=
  .inl ⟨hw, fun w hS => by
    unfold execOp
    simp only [ho, hm, hx, Sem.run_bind, h w hS, Result.andThen_ok, Sem.run_pure]⟩
/-- A number of 32 bits is a key. -/
theorem keyU (a : Int) (h : 0 ≤ a ∧ a < 4294967296) : ∃ l, keyOf Tryd.prog 53 (.int .u32 a) = some l :=
  ⟨_, keyOf_int_mk Tryd.underlying53 (WalkArith.wf_u32 (by omega))⟩
theorem lawU : Keyed Tryd.prog 53 := int_keyed Tryd.underlying53
theorem laidOut : laidOutB Tryd.prog = true := by kernel_rfl
theorem rowH : (48 : TypeId) < Tryd.prog.types.size := of_decide_eq_true (by kernel_rfl)
theorem wideH : (match Tryd.prog.underlying 48 with | some (.array _ _) | some (.struct _) => true | _ => false) = true := by kernel_rfl
theorem lawH : Keyed Tryd.prog 48 := Keyed.of_law (deep_law_laid laidOut (m := 2) (by omega) rowH (by kernel_rfl) wideH)
theorem keyTypeH : Tryd.prog.keyType 48 = true := by kernel_rfl
theorem cellsH : Tryd.prog.cellsOf 48 = 32 := by kernel_rfl
theorem cells5 : Tryd.prog.cellsOf 5 = 1 := by kernel_rfl
theorem mapM_some {α β : Type} (f : α → Option β) : ∀ (l : List α), (∀ x ∈ l, ∃ y, f x = some y) → ∃ ys, l.mapM f = some ys
  | [], _ => ⟨[], rfl⟩
  | x :: l, h => by
    obtain ⟨y, hy⟩ := h x (by simp)
    obtain ⟨ys, hys⟩ := mapM_some f l fun z hz => h z (by simp [hz])
    exact ⟨y :: ys, by simp [List.mapM_cons, hy, hys]⟩
/-- A sum is a key. -/
theorem keyH (A : List Int) (hA : A.length = 32) (hb : ∀ i, 0 ≤ A.getD i 0 ∧ A.getD i 0 < 256) : ∃ l, keyOf Tryd.prog 48 (.agg (A.map (Value.int .u8)).toArray) = some l := by
  have hf : (Value.agg (A.map (Value.int .u8)).toArray).formed Tryd.prog 48 = true := by
    simp [Value.formed, Tryd.underlying48, cellsH, hA]
  obtain ⟨N, hN⟩ : ∃ N, Tryd.prog.types.size + 1 = N + 1 + 1 := ⟨Tryd.prog.types.size - 1, by have h : (48 : Nat) < Tryd.prog.types.size := rowH; omega⟩
  obtain ⟨ys, hys⟩ := mapM_some (fun i => Tryd.prog.keyLits (N + 1) 5 (((A.map (Value.int .u8)).drop (i * Tryd.prog.cellsOf 5)).take (Tryd.prog.cellsOf 5))) (List.range 32) fun i hi => by
    have hi' : i < A.length := by rw [hA]; exact List.mem_range.1 hi
    have e1 : ((A.map (Value.int .u8)).drop (i * 1)).take 1 = [.int .u8 (A.getD i 0)] := by
      rw [Nat.mul_one, List.drop_eq_getElem_cons (by simpa using hi')]
      simp [List.getD, List.getElem?_eq_getElem hi']
    rw [cells5, e1]
    have := hb i
    simp only [Program.keyLits, Tryd.underlying5]
    rw [if_pos ⟨trivial, WalkArith.wf_u8 (by omega)⟩]
    exact ⟨_, rfl⟩
  have hk : Tryd.prog.keyLits (N + 1 + 1) 48 (A.map (Value.int .u8)) = some ys.flatten := by
    have hu := Tryd.underlying48
    rw [Program.keyLits.eq_def]
    simp only [hu, List.length_map, hA, cellsH, if_true]
    rw [hys]
    rfl
  refine ⟨.string (keyBytes ys.flatten), ?_⟩
  unfold keyOf
  simp only [Tryd.underlying48, keyTypeH, hf, Bool.and_self, if_true]
  rw [hN]
  simp only [Value.cells, hk, Option.map_some]
theorem zeroM (w : World) : (zeroValue 99).run Tryd.prog w = .ok (.map none) w := by kernel_rfl
theorem zeroN (w : World) : (zeroValue 3).run Tryd.prog w = .ok (.int .i64 0) w := by kernel_rfl
end Go.Proofs.YtlhmpcmlpfffoaaDoor
