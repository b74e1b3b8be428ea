/-
  Entries in a row of the call's own: their cells, one behind the other.
-/
import Derived.Test.YtajcabfeabbknaaDoorOw
namespace Go.Proofs.YtajcabfeabbknaaDoor
open Go.RowKit

/-- The cell at a place of a row of entries. -/
def cellE (l : List En) (U : Nat → Value) (j : Nat) : Value := if j % 3 = 0 then .string (atE l (j / 3)).p else if j % 3 = 1 then .bool (atE l (j / 3)).d else U (j / 3)
/-- The cells of entries. -/
def flat (l : List En) (U : Nat → Value) : List Value := (List.range (l.length * 3)).map (cellE l U)
/-- The values of Data, of two lists. -/
def behU (n : Nat) (U V : Nat → Value) : Nat → Value := fun i => if i < n then U i else V (i - n)
theorem flat_len (l : List En) (U : Nat → Value) : (flat l U).length = l.length * 3 := by simp [flat]
theorem flat_get (l : List En) (U : Nat → Value) (j : Nat) : (flat l U)[j]? = if j < l.length * 3 then some (cellE l U j) else none := by
  unfold flat
  rw [List.getElem?_map]
  by_cases h : j < l.length * 3
  · rw [List.getElem?_range h, if_pos h]; rfl
  · rw [if_neg h, List.getElem?_eq_none (by simpa using h)]; rfl
theorem atE_left (l m : List En) (i : Nat) (h : i < l.length) : atE (l ++ m) i = atE l i := by simp [atE, List.getD, List.getElem?_append_left h]
theorem atE_right (l m : List En) (i : Nat) : atE (l ++ m) (l.length + i) = atE m i := by
  simp only [atE, List.getD]
  rw [List.getElem?_append_right (by omega), show l.length + i - l.length = i by omega]
theorem flat_app (l m : List En) (U V : Nat → Value) : flat l U ++ flat m V = flat (l ++ m) (behU l.length U V) := by
  apply List.ext_getElem?
  intro j
  rw [flat_get]
  by_cases h : j < l.length * 3
  · rw [List.getElem?_append_left (by rw [flat_len]; exact h), flat_get, if_pos h, if_pos (by rw [List.length_append]; omega)]
    have hd : j / 3 < l.length := by omega
    unfold cellE behU
    rw [atE_left l m _ hd, if_pos hd]
  · rw [List.getElem?_append_right (by rw [flat_len]; omega), flat_len, flat_get]
    obtain ⟨q, rfl⟩ : ∃ q, j = l.length * 3 + q := ⟨j - l.length * 3, by omega⟩
    rw [show l.length * 3 + q - l.length * 3 = q by omega]
    have e1 : (l.length * 3 + q) / 3 = l.length + q / 3 := by omega
    have e2 : (l.length * 3 + q) % 3 = q % 3 := by omega
    have e3 : (if q < m.length * 3 then some (cellE m V q) else none) = if l.length * 3 + q < (l ++ m).length * 3 then some (cellE m V q) else none := by
      rw [List.length_append]
      by_cases hq : q < m.length * 3
      · rw [if_pos hq, if_pos (by omega)]
      · rw [if_neg hq, if_neg (by omega)]
    rw [e3]
    congr 2
    unfold cellE behU
    rw [e1, e2, atE_right, if_neg (show ¬ l.length + q / 3 < l.length by omega), show l.length + q / 3 - l.length = q / 3 by omega]
theorem flat_one (x : En) (u : Value) : [Value.string x.p, .bool x.d, u] = flat [x] (fun _ => u) := by
  show _ = [cellE [x] (fun _ => u) 0, cellE [x] (fun _ => u) 1, cellE [x] (fun _ => u) 2]
  simp [cellE, atE]
/-- Entries in a row of the call's own. -/
def RE (w : World) (B : Nat) (v : Value) (l : List En) (U : Nat → Value) : Prop := w.ownsRow B 43 3 v l.length (flat l U)
theorem RE.nil (w : World) (B : Nat) (U : Nat → Value) : RE w B (.slice none 0 0) [] U := ⟨rfl, .inl ⟨rfl, rfl⟩⟩
theorem own_below {w w' : World} {B n s : Nat} {e : TypeId} {v : Value} {xs : List Value} (h : w.ownsRow B e s v n xs) (hb : Below w.heap.size w w') : w'.ownsRow B e s v n xs := by
  obtain ⟨h1, h2⟩ := h
  refine ⟨h1, ?_⟩
  rcases h2 with h2 | ⟨g, cap, cur, hv, hg, hh, r⟩
  · exact .inl h2
  · exact .inr ⟨g, cap, cur, hv, hg, (hb.block g (Array.getElem?_eq_some_iff.1 hh).1).trans hh, r⟩
theorem RE.below {w w' : World} {B : Nat} {v : Value} {l : List En} {U : Nat → Value} (h : RE w B v l U) (hb : Below w.heap.size w w') : RE w' B v l U := own_below h hb
theorem RE.es {w : World} {B : Nat} {v : Value} {l : List En} {U : Nat → Value} (h : RE w B v l U) (hs : ∀ i, i < l.length → Sl w (U i) (atE l i).z) : ES w v l := by
  have h' := h
  rcases h.2 with ⟨rfl, h2⟩ | ⟨g, cap, cur, rfl, hg, hh, hl, hm, r⟩
  · obtain rfl : l = [] := List.length_eq_zero_iff.1 h2
    exact ES.nil w
  · refine ⟨U, _, cap, rfl, hl, hm, (fun e => by cases e), .inr ⟨g, 0, rfl, fun i hi => ?_⟩⟩
    have c : ∀ j, j < l.length * 3 → w.cell? ⟨g, 0 + j, none⟩ = some (cellE l U j) := fun j hj => by
      have := h'.cells (g := g) rfl j (cellE l U j) (by rw [flat_get, if_pos hj])
      rwa [Addr.add_lit] at this
    have c0 := c (i * 3) (by omega)
    have c1 := c (i * 3 + 1) (by omega)
    have c2 := c (i * 3 + 2) (by omega)
    unfold cellE at c0 c1 c2
    rw [if_pos (by omega), show i * 3 / 3 = i by omega] at c0
    rw [if_neg (by omega), if_pos (by omega), show (i * 3 + 1) / 3 = i by omega] at c1
    rw [if_neg (by omega), if_neg (by omega), show (i * 3 + 2) / 3 = i by omega] at c2
    exact ⟨c0, by rw [Nat.add_assoc]; exact c1, by rw [Nat.add_assoc]; exact c2, hs i hi⟩
/-- Entries of the call's own, with bytes of the call's own. -/
def OE (w : World) (B : Nat) (v : Value) (l : List En) : Prop := ∃ U, RE w B v l U ∧ ∀ i, i < l.length → w.ownsRow B 5 1 (U i) (atE l i).z.length ((atE l i).z.map (Value.int .u8)) ∧ ∀ k, 0 ≤ (atE l i).z.getD k 0 ∧ (atE l i).z.getD k 0 < 256
theorem OE.nil (w : World) (B : Nat) : OE w B (.slice none 0 0) [] := ⟨fun _ => .slice none 0 0, RE.nil _ _ _, fun i hi => by simp at hi⟩
theorem OE.below {w w' : World} {B : Nat} {v : Value} {l : List En} (h : OE w B v l) (hb : Below w.heap.size w w') : OE w' B v l := by
  obtain ⟨U, h1, h2⟩ := h
  exact ⟨U, h1.below hb, fun i hi => ⟨own_below (h2 i hi).1 hb, (h2 i hi).2⟩⟩
theorem OE.es {w : World} {B : Nat} {v : Value} {l : List En} (h : OE w B v l) : ES w v l := by
  obtain ⟨U, h1, h2⟩ := h
  exact h1.es fun i hi => sl_owned (h2 i hi).1 (h2 i hi).2
theorem OE.mono {w : World} {B B' : Nat} {v : Value} {l : List En} (h : OE w B v l) (hb : B' ≤ B) : OE w B' v l := by
  obtain ⟨U, h1, h2⟩ := h
  exact ⟨U, own_mono h1 hb, fun i hi => ⟨own_mono (h2 i hi).1 hb, (h2 i hi).2⟩⟩
theorem infoE : (Tryd.prog.info? 43).map (fun i => (i.zero, i.size, i.bytes)) = some (some (.agg #[.string ByteArray.empty, .bool false, .slice none 0 0]), 3, 48) := by kernel_rfl
/-- A row of another kind stays where a row of entries grows. -/
theorem own_apart {w w' : World} {B C n m s t : Nat} {e f : TypeId} {v u : Value} {xs ys : List Value} (h : w.ownsRow B e s v n xs) (k : w.ownsRow C f t u m ys) (hef : e ≠ f) (hg : w.grownBy w' v.ownBlock) : w'.ownsRow C f t u m ys := by
  obtain ⟨k1, k2⟩ := k
  refine ⟨k1, ?_⟩
  rcases k2 with k2 | ⟨g, cap, cur, hv, hgg, hh, r⟩
  · exact .inl k2
  · refine .inr ⟨g, cap, cur, hv, hgg, ?_, r⟩
    refine (hg.block g (Array.getElem?_eq_some_iff.1 hh).1 ?_).trans hh
    intro e2
    rcases h.2 with ⟨rfl, _⟩ | ⟨g', cap', cur', rfl, _, hh', _⟩
    · cases e2
    · cases e2
      rw [hh] at hh'
      simp at hh'
      exact hef hh'.2.symm
/-- Entries laid behind. -/
theorem wpList_append_at {w : World} {ops : Array Oper} {rest : List Oper} {o : Oper} {a : Act} {Q : Exit → Act → World → Prop} (hgd : o.guard = none) (s x : Operand)
    (ho : o.op = .call { callee := .builtin .append, args := #[s, x], argTypes := #[22, 22] })
    (B : Nat) (v : Value) (l : List En) (U : Nat → Value) (hs : a.eval s = v) (hown : RE w B v l U) (y : Addr) (n : Nat) (m : List En) (V : Nat → Value) (cap : Nat) (hn : n = m.length)
    (hx : a.eval x = .slice (some y) n cap) (hc : ∀ j, j < m.length * 3 → w.cell? (y.add j) = some (cellE m V j)) (hV : ∀ i, i < m.length → (V i).oneCell' = true) (hbig : l.length + m.length ≤ 100000) (hbase : B ≤ w.heap.size)
    (h : ∀ v' w', RE w' B v' (l ++ m) (behU l.length U V) → w.grownBy w' v.ownBlock → wpList Tryd.prog ops Q rest (a.put o.dst v') w') : wpList Tryd.prog ops Q (o :: rest) a w := by
  obtain ⟨i0, hi, hz0, hz1, hz2⟩ := info_parts infoE
  subst hn
  refine wpList_append_own_wide w hgd s x 22 ho B 43 i0 (.agg #[.string ByteArray.empty, .bool false, .slice none 0 0]) 3 48 Tryd.underlying22 hi hz0 hz1 hz2 rfl (by decide) v l.length (flat l U) hs hown y m.length cap (flat m V) hx (flat_len m V) ?_ ?_ (by unfold maxLen; omega) (by omega) hbase ?_
  · intro j u hj
    rw [flat_get] at hj
    split at hj
    · rename_i hj2
      rw [hc j hj2]
      exact hj
    · cases hj
  · intro u hu
    obtain ⟨j, hj⟩ := List.getElem?_of_mem hu
    rw [flat_get] at hj
    split at hj
    · rename_i hj2
      cases hj
      unfold cellE
      split
      · rfl
      split
      · rfl
      exact hV _ (by omega)
    · cases hj
  · intro v' w' ho' hg _
    refine h v' w' ?_ hg
    unfold RE
    rw [List.length_append, ← flat_app]
    exact ho'
/-- An entry laid behind. -/
theorem wpList_append_en {w : World} {ops : Array Oper} {rest : List Oper} {o : Oper} {a : Act} {Q : Exit → Act → World → Prop} (hgd : o.guard = none) (s x : Operand)
    (ho : o.op = .call { callee := .builtin .append, args := #[s, x], argTypes := #[22, 22] })
    (B : Nat) (v : Value) (l : List En) (U : Nat → Value) (hs : a.eval s = v) (hown : RE w B v l U) (g n : Nat) (m : List En) (V : Nat → Value) (cap : Nat) (off : Nat) (hn : n = m.length)
    (hx : a.eval x = .slice (some ⟨g, off, none⟩) n cap) (hc : ∀ j, j < m.length * 3 → w.cell? ⟨g, off + j, none⟩ = some (cellE m V j)) (hV : ∀ i, i < m.length → (V i).oneCell' = true) (hbig : l.length + m.length ≤ 100000) (hbase : B ≤ w.heap.size)
    (h : ∀ v' w', RE w' B v' (l ++ m) (behU l.length U V) → w.grownBy w' v.ownBlock → wpList Tryd.prog ops Q rest (a.put o.dst v') w') : wpList Tryd.prog ops Q (o :: rest) a w :=
  wpList_append_at hgd s x ho B v l U hs hown ⟨g, off, none⟩ n m V cap hn hx (fun j hj => by rw [Addr.add_lit]; exact hc j hj) hV hbig hbase h
theorem cellE_at {w : World} {b off : Nat} {l : List En} {U : Nat → Value} (h : ∀ i, i < l.length → w.cell? ⟨b, off + i * 3, none⟩ = some (.string (atE l i).p) ∧ w.cell? ⟨b, off + i * 3 + 1, none⟩ = some (.bool (atE l i).d) ∧ w.cell? ⟨b, off + i * 3 + 2, none⟩ = some (U i)) :
    ∀ j, j < l.length * 3 → w.cell? ⟨b, off + j, none⟩ = some (cellE l U j) := fun j hj => by
  obtain ⟨h0, h1, h2⟩ := h (j / 3) (by omega)
  have hd := Nat.div_add_mod j 3
  have hm := Nat.mod_lt j (show 0 < 3 by omega)
  unfold cellE
  rcases (show j % 3 = 0 ∨ j % 3 = 1 ∨ j % 3 = 2 by omega) with e | e | e
  · rw [if_pos e, ← h0]
    congr 2
    omega
  · rw [if_neg (by omega), if_pos e, ← h1]
    congr 2
    omega
  · rw [if_neg (by omega), if_neg (by omega), ← h2]
    congr 2
    omega
theorem wpList_append_es {w : World} {ops : Array Oper} {rest : List Oper} {o : Oper} {a : Act} {Q : Exit → Act → World → Prop} (hgd : o.guard = none) (s x : Operand)
    (ho : o.op = .call { callee := .builtin .append, args := #[s, x], argTypes := #[22, 22] })
    (B : Nat) (v : Value) (l : List En) (U : Nat → Value) (hs : a.eval s = v) (hown : RE w B v l U) (src : Value) (m : List En) (V : Nat → Value) (hx : a.eval x = src) (hsl : ESU w src m V) (hbig : l.length + m.length ≤ 100000) (hbase : B ≤ w.heap.size)
    (h : ∀ v' w', RE w' B v' (l ++ m) (behU l.length U V) → w.grownBy w' v.ownBlock → wpList Tryd.prog ops Q rest (a.put o.dst v') w') : wpList Tryd.prog ops Q (o :: rest) a w := by
  obtain ⟨ad, cap, rfl, h1, h2, h3, h4⟩ := hsl
  cases ad with
  | none =>
    obtain rfl := h3 rfl
    obtain rfl : m = [] := List.length_eq_zero_iff.1 (by omega)
    obtain ⟨i0, hi, hz0, hz1, hz2⟩ := info_parts infoE
    refine wpList_append_own_none hgd s x 22 ho B 43 i0 3 Tryd.underlying22 hi v l.length (flat l U) hs hown hx ?_
    refine h v w ?_ ⟨rfl, rfl, rfl, Nat.le_refl _, fun _ _ _ => rfl⟩
    have e := flat_app l [] U V
    unfold RE at hown ⊢
    rw [List.length_append, ← e]
    simpa [flat] using hown
  | some y =>
    refine wpList_append_at hgd s x ho B v l U hs hown y m.length m V cap rfl hx ?_ ?_ hbig hbase h
    · intro j hj
      rcases h4 with rfl | ⟨b, off, e, hc⟩
      · simp at hj
      · cases e
        rw [Addr.add_lit]
        exact cellE_at (fun i hi => ⟨(hc i hi).1, (hc i hi).2.1, (hc i hi).2.2.1⟩) j hj
    · intro i hi
      rcases h4 with rfl | ⟨b, off, e, hc⟩
      · simp at hi
      · obtain ⟨a, c, e2, _⟩ := (hc i hi).2.2.2
        rw [e2]
        rfl
end Go.Proofs.YtajcabfeabbknaaDoor
