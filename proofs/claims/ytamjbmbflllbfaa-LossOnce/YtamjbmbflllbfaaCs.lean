/-
  Slices and rows of structs, each told by its cells.
-/
import Derived.Test.YtamjbmbflllbfaaBa
import Derived.Deep.MidRow
import Derived.Laws.StructEq
import Derived.Laws.Tables
import Derived.Laws.ResultCell
import Derived.Laws.CopyOwn
namespace Go.Proofs.Ytamjbmbflllbfaa
open Go.RowKit
set_option maxRecDepth 100000

/-- Structs of k cells each. -/
def CL (k : Nat) (L : List (List Value)) : Prop := ∀ c ∈ L, c.length = k ∧ ∀ v ∈ c, v.oneCell' = true
def atC (L : List (List Value)) (i : Nat) : List Value := L.getD i []
theorem atC_eq (L : List (List Value)) (i : Nat) (h : i < L.length) : atC L i = L[i] := by simp [atC, List.getD, h]
theorem atC_mem (L : List (List Value)) (i : Nat) (h : i < L.length) : atC L i ∈ L := by rw [atC_eq L i h]; exact List.getElem_mem h
theorem CL.nil (k : Nat) : CL k [] := fun c h => by simp at h
theorem CL.app {k : Nat} {L M : List (List Value)} (h : CL k L) (h' : CL k M) : CL k (L ++ M) := fun c hc => (List.mem_append.1 hc).elim (h c) (h' c)
theorem CL.one {k : Nat} {c : List Value} (h : c.length = k) (h' : ∀ v ∈ c, v.oneCell' = true) : CL k [c] := fun d hd => by simp at hd; subst hd; exact ⟨h, h'⟩
theorem CL.take {k : Nat} {L : List (List Value)} (h : CL k L) (n : Nat) : CL k (L.take n) := fun c hc => h c (List.mem_of_mem_take hc)
theorem CL.drop {k : Nat} {L : List (List Value)} (h : CL k L) (n : Nat) : CL k (L.drop n) := fun c hc => h c (List.mem_of_mem_drop hc)
theorem CL.ones {k : Nat} {L : List (List Value)} (h : CL k L) : ∀ v ∈ L.flatten, v.oneCell' = true := fun v hv => by
  obtain ⟨c, hc, hv⟩ := List.mem_flatten.1 hv
  exact (h c hc).2 v hv
theorem CL.flat {k : Nat} : ∀ {L : List (List Value)}, CL k L → L.flatten.length = L.length * k
  | [], _ => by simp
  | c :: L, h => by
    rw [List.flatten_cons, List.length_append, (h c (by simp)).1, CL.flat (L := L) fun d hd => h d (by simp [hd]), List.length_cons, Nat.succ_mul]
    omega
theorem CL.flat_take {k : Nat} : ∀ {L : List (List Value)} (i : Nat), CL k L → L.flatten.take (i * k) = (L.take i).flatten
  | [], i, _ => by simp
  | c :: L, 0, _ => by simp
  | c :: L, i + 1, h => by
    have hc := (h c (by simp)).1
    rw [List.flatten_cons, List.take_succ_cons, List.flatten_cons, List.take_append, hc, List.take_of_length_le (by rw [hc, Nat.succ_mul]; omega), Nat.succ_mul, Nat.add_sub_cancel, CL.flat_take i fun d hd => h d (by simp [hd])]
theorem CL.flat_drop {k : Nat} : ∀ {L : List (List Value)} (i : Nat), CL k L → L.flatten.drop (i * k) = (L.drop i).flatten
  | [], i, _ => by simp
  | c :: L, 0, _ => by simp
  | c :: L, i + 1, h => by
    have hc := (h c (by simp)).1
    rw [List.flatten_cons, List.drop_succ_cons, List.drop_append, hc, List.drop_of_length_le (by rw [hc, Nat.succ_mul]; omega), Nat.succ_mul, Nat.add_sub_cancel, CL.flat_drop i fun d hd => h d (by simp [hd]), List.nil_append]
theorem CL.get {k : Nat} {L : List (List Value)} (h : CL k L) {i j : Nat} {v : Value} (hi : i < L.length) (hv : (atC L i)[j]? = some v) : L.flatten[i * k + j]? = some v := by
  have hc := h _ (atC_mem L i hi)
  have hj : j < k := by rw [← hc.1]; exact (List.getElem?_eq_some_iff.1 hv).1
  rw [← List.getElem?_drop, h.flat_drop, List.drop_eq_getElem_cons hi, List.flatten_cons, List.getElem?_append_left (by rw [← atC_eq L i hi, hc.1]; exact hj), ← atC_eq L i hi, hv]
/-- A value that is a slice of structs. -/
def IS (k : Nat) (w : World) (v : Value) (L : List (List Value)) : Prop :=
  ∃ a c, v = .slice a L.length c ∧ L.length ≤ c ∧ c ≤ maxLen ∧ (a = none → c = 0) ∧ CL k L ∧ (L = [] ∨ ∃ b off, a = some ⟨b, off, none⟩ ∧ ∀ i, i < L.length → w.rangeAt b (off + i * k) (atC L i))
theorem range_kept {w w' : World} {b o : Nat} {cs : List Value} (h : w.rangeAt b o cs) (hb : Below w.heap.size w w') : w'.rangeAt b o cs := fun j v hv =>
  (hb.cell (World.block_lt_of_cell? _ _ (h j v hv))).trans (h j v hv)
theorem IS.kept {k : Nat} {w w' : World} {v : Value} {L : List (List Value)} (h : IS k w v L) (hb : Below w.heap.size w w') : IS k w' v L := by
  obtain ⟨a, c, h1, h2, h3, h4, h5, h6⟩ := h
  refine ⟨a, c, h1, h2, h3, h4, h5, ?_⟩
  rcases h6 with h6 | ⟨b, off, e, h7⟩
  · exact .inl h6
  · exact .inr ⟨b, off, e, fun i hi => range_kept (h7 i hi) hb⟩
theorem IS.shape {k : Nat} {w : World} {v : Value} {L : List (List Value)} (h : IS k w v L) : ∃ a c, v = .slice a L.length c ∧ L.length ≤ c ∧ c ≤ maxLen ∧ (a = none → c = 0) := by
  obtain ⟨a, c, h1, h2, h3, h4, _⟩ := h
  exact ⟨a, c, h1, h2, h3, h4⟩
theorem IS.cl {k : Nat} {w : World} {v : Value} {L : List (List Value)} (h : IS k w v L) : CL k L := by
  obtain ⟨a, c, h1, h2, h3, h4, h5, _⟩ := h
  exact h5
theorem IS.nil (k : Nat) (w : World) : IS k w (.slice none 0 0) [] := ⟨none, 0, rfl, Nat.le_refl _, by unfold maxLen; omega, fun _ => rfl, CL.nil k, .inl rfl⟩
/-- A struct's cells, in a slice. -/
theorem IS.at {k : Nat} {w : World} {a : Option Addr} {n c : Nat} {L : List (List Value)} (h : IS k w (.slice a n c) L) (i : Nat) (hi : i < L.length) :
    ∃ b off, a = some ⟨b, off, none⟩ ∧ w.rangeAt b (off + i * k) (atC L i) := by
  obtain ⟨a', c', h1, h2, h3, h4, h5, h6⟩ := h
  cases h1
  rcases h6 with h6 | ⟨b, off, e, h7⟩
  · subst h6; simp at hi
  · exact ⟨b, off, e, h7 i hi⟩
theorem IS.take {k : Nat} {w : World} {a : Option Addr} {n c : Nat} {L : List (List Value)} (h : IS k w (.slice a n c) L) (m : Nat) (hm : m ≤ n) : IS k w (.slice a m c) (L.take m) := by
  obtain ⟨a', c', h1, h2, h3, h4, h5, h6⟩ := h
  cases h1
  have hl : (L.take m).length = m := by rw [List.length_take]; omega
  refine ⟨a, c, by rw [hl], by rw [hl]; omega, h3, h4, h5.take m, ?_⟩
  rcases h6 with rfl | ⟨b, off, e, h7⟩
  · exact .inl (by simp)
  · refine .inr ⟨b, off, e, fun i hi => ?_⟩
    rw [hl] at hi
    have := h7 i (by omega)
    simpa [atC, List.getD, List.getElem?_take, hi] using this
/-- Structs in a row of the call's own. -/
def RI (t : TypeId) (k : Nat) (w : World) (B : Nat) (v : Value) (L : List (List Value)) : Prop := w.ownsRow B t k v L.length L.flatten ∧ CL k L
theorem RI.nil (t : TypeId) (k : Nat) (w : World) (B : Nat) : RI t k w B (.slice none 0 0) [] := ⟨⟨by simp, .inl ⟨rfl, rfl⟩⟩, CL.nil k⟩
theorem RI.below {t : TypeId} {k : Nat} {w w' : World} {B : Nat} {v : Value} {L : List (List Value)} (h : RI t k w B v L) (hb : Below w.heap.size w w') : RI t k w' B v L := ⟨own_below h.1 hb, h.2⟩
theorem RI.mono {t : TypeId} {k : Nat} {w : World} {B B' : Nat} {v : Value} {L : List (List Value)} (h : RI t k w B v L) (hb : B' ≤ B) : RI t k w B' v L := ⟨own_mono h.1 hb, h.2⟩
theorem RI.is {t : TypeId} {k : Nat} {w : World} {B : Nat} {v : Value} {L : List (List Value)} (h : RI t k w B v L) : IS k w v L := by
  obtain ⟨h, hok⟩ := h
  have h' := h
  rcases h.2 with ⟨rfl, h2⟩ | ⟨g, cap, cur, rfl, hg, hh, hl, hm, r⟩
  · obtain rfl : L = [] := List.length_eq_zero_iff.1 h2
    exact IS.nil k w
  · refine ⟨_, cap, rfl, hl, hm, (fun e => by cases e), hok, .inr ⟨g, 0, rfl, fun i hi j v hv => ?_⟩⟩
    have := h'.cells (g := g) rfl (i * k + j) v (hok.get hi hv)
    rwa [Addr.add_lit, ← Nat.add_assoc] at this
/-- A block that is a struct. -/
theorem blk_range {w : World} {g : Nat} {t : TypeId} {cs : List Value} (h : w.heap[g]? = some (.cells cs.toArray t (0, 0))) : w.rangeAt g 0 cs := fun j v hv => by
  rw [Nat.zero_add]
  unfold World.cell?
  rw [h]
  simpa using hv
theorem blk_kept {w w' : World} {g B : Nat} {o : Obj} (h : w.heap[g]? = some o) (hb : Below B w w') (hB : g < B) : w'.heap[g]? = some o := (hb.block g hB).trans h
theorem blk_lt {w : World} {g : Nat} {o : Obj} (h : w.heap[g]? = some o) : g < w.heap.size := (Array.getElem?_eq_some_iff.1 h).1
/-- A slice of bytes, in the midst of a struct. -/
theorem sl_range {w : World} {b o : Nat} {A : List Int} {n c : Nat} (h : w.rangeAt b o (A.map (Value.int .u8))) (hb : ∀ k, 0 ≤ A.getD k 0 ∧ A.getD k 0 < 256) (hn : n = A.length) (hc : n ≤ c) (hm : c ≤ maxLen) : Sl w (.slice (some ⟨b, o, none⟩) n c) A := by
  subst hn
  refine ⟨_, c, rfl, hc, hm, fun e => (by cases e), ?_⟩
  rcases Nat.eq_zero_or_pos A.length with h0 | hp
  · exact .inl h0
  · refine .inr ⟨hp, b, o, rfl, hc, hm, fun i hi => ?_, hb⟩
    refine h i _ ?_
    rw [List.getElem?_map, List.getElem?_eq_getElem hi]
    simp [List.getD, List.getElem?_eq_getElem hi]
/-- A struct laid behind. -/
theorem wpList_append_it {w : World} {ops : Array Oper} {rest : List Oper} {o : Oper} {a : Act} {Q : Exit → Act → World → Prop} (hgd : o.guard = none) (s x : Operand) (ts t : TypeId) (k nb : Nat) (z : Value)
    (ho : o.op = .call { callee := .builtin .append, args := #[s, x], argTypes := #[ts, ts] }) (hu : Try.prog.underlying ts = some (.slice t)) (hI : (Try.prog.info? t).map (fun i => (i.zero, i.size, i.bytes)) = some (some z, k, nb)) (hcl : z.cells.size = k) (hk : 0 < k) (hnb : nb ≤ 1000)
    (B : Nat) (v : Value) (L : List (List Value)) (hs : a.eval s = v) (hown : RI t k w B v L) (g : Nat) (y : List Value) (cap : Nat) (hy : y.length = k) (hy1 : ∀ v ∈ y, v.oneCell' = true)
    (hx : a.eval x = .slice (some ⟨g, 0, none⟩) 1 cap) (hc : w.rangeAt g 0 y) (hbig : L.length ≤ 100000) (hbase : B ≤ w.heap.size)
    (h : ∀ v' w', RI t k w' B v' (L ++ [y]) → w.grownBy w' v.ownBlock → wpList Try.prog ops Q rest (a.put o.dst v') w') : wpList Try.prog ops Q (o :: rest) a w := by
  obtain ⟨i0, hi, hz0, hz1, hz2⟩ := info_parts hI
  refine wpList_append_own_wide w hgd s x ts ho B t i0 z k nb hu hi hz0 hz1 hz2 hcl hk v L.length L.flatten hs hown.1 ⟨g, 0, none⟩ 1 cap y hx (by rw [hy]; omega) ?_ hy1 (by unfold maxLen; omega) (by
    have := Nat.mul_le_mul (show L.length + 1 + (L.length + 1) / 4 + 192 ≤ 200000 by omega) hnb
    omega) hbase ?_
  · intro j u hj
    rw [Addr.add_lit]
    exact hc j u hj
  · intro v' w' ho' hg _
    refine h v' w' ⟨?_, hown.2.app (CL.one hy hy1)⟩ hg
    rw [List.length_append, List.flatten_append, List.flatten_cons, List.flatten_nil, List.append_nil]
    exact ho'
end Go.Proofs.Ytamjbmbflllbfaa
