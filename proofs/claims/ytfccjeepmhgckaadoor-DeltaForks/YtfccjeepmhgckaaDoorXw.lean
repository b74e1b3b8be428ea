/-
  Operations as the walks read them: slices of operations, operations in a row of the call's own.
-/
import Derived.Test.YtfccjeepmhgckaaDoorXp
import Derived.Laws.AppendOwnNone
namespace Go.Proofs.YtfccjeepmhgckaaDoor
open Go.RowKit

/-- Bytes, and where they lie. -/
def SlX (w : World) (v : Value) (l : List Int) : Prop := Sl w v l ∧ ∀ x n c, v = .slice (some x) n c → 0 < c → x.spot = none
theorem SlX.kept {w w' : World} {v : Value} {l : List Int} (h : SlX w v l) (hb : Below w.heap.size w w') : SlX w' v l := ⟨h.1.kept hb, h.2⟩
/-- A value that is a slice of the operations l; U: the values of their Data. -/
def XSU (w : World) (v : Value) (l : List Xp) (U : Nat → Value) : Prop :=
  ∃ a c, v = .slice a l.length c ∧ l.length ≤ c ∧ c ≤ maxLen ∧ (a = none → c = 0) ∧ (l = [] ∨ ∃ b off, a = some ⟨b, off, none⟩ ∧ ∀ i, i < l.length →
    w.cell? ⟨b, off + i * 4, none⟩ = some (.bool (atX l i).c) ∧ w.cell? ⟨b, off + i * 4 + 1, none⟩ = some (.int .i64 (atX l i).a) ∧ w.cell? ⟨b, off + i * 4 + 2, none⟩ = some (.int .i64 (atX l i).n) ∧ w.cell? ⟨b, off + i * 4 + 3, none⟩ = some (U i) ∧ Sl w (U i) (atX l i).d)
def XS (w : World) (v : Value) (l : List Xp) : Prop := ∃ U, XSU w v l U
theorem XSU.kept {w w' : World} {v : Value} {l : List Xp} {U : Nat → Value} (h : XSU w v l U) (hb : Below w.heap.size w w') : XSU w' v l U := by
  obtain ⟨a, c, h1, h2, h3, h4, h5⟩ := h
  refine ⟨a, c, h1, h2, h3, h4, ?_⟩
  rcases h5 with h5 | ⟨b, off, h6, h7⟩
  · exact .inl h5
  · refine .inr ⟨b, off, h6, fun i hi => ?_⟩
    obtain ⟨q0, q1, q2, q3, q4⟩ := h7 i hi
    exact ⟨(hb.cell (World.block_lt_of_cell? _ _ q0)).trans q0, (hb.cell (World.block_lt_of_cell? _ _ q1)).trans q1, (hb.cell (World.block_lt_of_cell? _ _ q2)).trans q2, (hb.cell (World.block_lt_of_cell? _ _ q3)).trans q3, q4.kept hb⟩
theorem XS.kept {w w' : World} {v : Value} {l : List Xp} (h : XS w v l) (hb : Below w.heap.size w w') : XS w' v l := by
  obtain ⟨U, h⟩ := h
  exact ⟨U, h.kept hb⟩
theorem XS.shape {w : World} {v : Value} {l : List Xp} (h : XS w v l) : ∃ a c, v = .slice a l.length c ∧ l.length ≤ c ∧ c ≤ maxLen ∧ (a = none → c = 0) := by
  obtain ⟨U, a, c, h1, h2, h3, h4, _⟩ := h
  exact ⟨a, c, h1, h2, h3, h4⟩
theorem XS.nil (w : World) : XS w (.slice none 0 0) [] := ⟨fun _ => .slice none 0 0, none, 0, rfl, Nat.le_refl _, by unfold maxLen; omega, fun _ => rfl, .inl rfl⟩
/-- An operation's cells. -/
theorem XS.at {w : World} {a : Option Addr} {n c : Nat} {l : List Xp} (h : XS w (.slice a n c) l) (i : Nat) (hi : i < l.length) :
    ∃ b off ua un uc, a = some ⟨b, off, none⟩ ∧ w.cell? ⟨b, off + i * 4, none⟩ = some (.bool (atX l i).c) ∧ w.cell? ⟨b, off + i * 4 + 1, none⟩ = some (.int .i64 (atX l i).a) ∧ w.cell? ⟨b, off + i * 4 + 2, none⟩ = some (.int .i64 (atX l i).n) ∧
      w.cell? ⟨b, off + i * 4 + 3, none⟩ = some (.slice ua un uc) ∧ un = (atX l i).d.length ∧ Sl w (.slice ua un uc) (atX l i).d := by
  obtain ⟨U, a', c', h1, h2, h3, h4, h5⟩ := h
  cases h1
  rcases h5 with h5 | ⟨b, off, h6, h7⟩
  · subst h5; simp at hi
  · obtain ⟨q0, q1, q2, q3, q4⟩ := h7 i hi
    obtain ⟨ua, uc, e, r⟩ := q4
    rw [e] at q3
    exact ⟨b, off, ua, _, uc, h6, q0, q1, q2, q3, rfl, ⟨ua, uc, rfl, r⟩⟩
/-- The cell at a place of a row of operations. -/
def cellX (l : List Xp) (U : Nat → Value) (j : Nat) : Value := if j % 4 = 0 then .bool (atX l (j / 4)).c else if j % 4 = 1 then .int .i64 (atX l (j / 4)).a else if j % 4 = 2 then .int .i64 (atX l (j / 4)).n else U (j / 4)
/-- The cells of operations. -/
def flatX (l : List Xp) (U : Nat → Value) : List Value := (List.range (l.length * 4)).map (cellX l U)
/-- The values of Data, of two lists. -/
def behU (n : Nat) (U V : Nat → Value) : Nat → Value := fun i => if i < n then U i else V (i - n)
theorem flatX_len (l : List Xp) (U : Nat → Value) : (flatX l U).length = l.length * 4 := by simp [flatX]
theorem flatX_get (l : List Xp) (U : Nat → Value) (j : Nat) : (flatX l U)[j]? = if j < l.length * 4 then some (cellX l U j) else none := by
  unfold flatX
  rw [List.getElem?_map]
  by_cases h : j < l.length * 4
  · rw [List.getElem?_range h, if_pos h]; rfl
  · rw [if_neg h, List.getElem?_eq_none (by simpa using h)]; rfl
theorem flatX_app (l m : List Xp) (U V : Nat → Value) : flatX l U ++ flatX m V = flatX (l ++ m) (behU l.length U V) := by
  apply List.ext_getElem?
  intro j
  rw [flatX_get]
  by_cases h : j < l.length * 4
  · rw [List.getElem?_append_left (by rw [flatX_len]; exact h), flatX_get, if_pos h, if_pos (by rw [List.length_append]; omega)]
    have hd : j / 4 < l.length := by omega
    unfold cellX behU
    rw [atX_left l m _ hd, if_pos hd]
  · rw [List.getElem?_append_right (by rw [flatX_len]; omega), flatX_len, flatX_get]
    obtain ⟨q, rfl⟩ : ∃ q, j = l.length * 4 + q := ⟨j - l.length * 4, by omega⟩
    rw [show l.length * 4 + q - l.length * 4 = q by omega]
    have e1 : (l.length * 4 + q) / 4 = l.length + q / 4 := by omega
    have e2 : (l.length * 4 + q) % 4 = q % 4 := by omega
    have e3 : (if q < m.length * 4 then some (cellX m V q) else none) = if l.length * 4 + q < (l ++ m).length * 4 then some (cellX m V q) else none := by
      rw [List.length_append]
      by_cases hq : q < m.length * 4
      · rw [if_pos hq, if_pos (by omega)]
      · rw [if_neg hq, if_neg (by omega)]
    rw [e3]
    congr 2
    unfold cellX behU
    rw [e1, e2, atX_right, if_neg (show ¬ l.length + q / 4 < l.length by omega), show l.length + q / 4 - l.length = q / 4 by omega]
theorem flatX_one (x : Xp) (u : Value) : [Value.bool x.c, .int .i64 x.a, .int .i64 x.n, u] = flatX [x] (fun _ => u) := by
  show _ = [cellX [x] (fun _ => u) 0, cellX [x] (fun _ => u) 1, cellX [x] (fun _ => u) 2, cellX [x] (fun _ => u) 3]
  simp [cellX, atX]
/-- Operations in a row of the call's own. -/
def RX (w : World) (B : Nat) (v : Value) (l : List Xp) (U : Nat → Value) : Prop := w.ownsRow B 46 4 v l.length (flatX l U)
theorem RX.nil (w : World) (B : Nat) (U : Nat → Value) : RX w B (.slice none 0 0) [] U := ⟨rfl, .inl ⟨rfl, rfl⟩⟩
theorem RX.below {w w' : World} {B : Nat} {v : Value} {l : List Xp} {U : Nat → Value} (h : RX w B v l U) (hb : Below w.heap.size w w') : RX w' B v l U := own_below h hb
theorem RX.xsu {w : World} {B : Nat} {v : Value} {l : List Xp} {U : Nat → Value} (h : RX w B v l U) (hs : ∀ i, i < l.length → Sl w (U i) (atX l i).d) : XSU w v l U := by
  have h' := h
  rcases h.2 with ⟨rfl, h2⟩ | ⟨g, cap, cur, rfl, hg, hh, hl, hm, r⟩
  · obtain rfl : l = [] := List.length_eq_zero_iff.1 h2
    exact ⟨none, 0, rfl, Nat.le_refl _, by unfold maxLen; omega, fun _ => rfl, .inl rfl⟩
  · refine ⟨_, cap, rfl, hl, hm, (fun e => by cases e), .inr ⟨g, 0, rfl, fun i hi => ?_⟩⟩
    have c : ∀ j, j < l.length * 4 → w.cell? ⟨g, 0 + j, none⟩ = some (cellX l U j) := fun j hj => by
      have := h'.cells (g := g) rfl j (cellX l U j) (by rw [flatX_get, if_pos hj])
      rwa [Addr.add_lit] at this
    have c0 := c (i * 4) (by omega)
    have c1 := c (i * 4 + 1) (by omega)
    have c2 := c (i * 4 + 2) (by omega)
    have c3 := c (i * 4 + 3) (by omega)
    unfold cellX at c0 c1 c2 c3
    rw [if_pos (by omega), show i * 4 / 4 = i by omega] at c0
    rw [if_neg (by omega), if_pos (by omega), show (i * 4 + 1) / 4 = i by omega] at c1
    rw [if_neg (by omega), if_neg (by omega), if_pos (by omega), show (i * 4 + 2) / 4 = i by omega] at c2
    rw [if_neg (by omega), if_neg (by omega), if_neg (by omega), show (i * 4 + 3) / 4 = i by omega] at c3
    exact ⟨c0, by rw [Nat.add_assoc]; exact c1, by rw [Nat.add_assoc]; exact c2, by rw [Nat.add_assoc]; exact c3, hs i hi⟩
/-- Operations of the call's own, with bytes of the call's own. -/
def OX (w : World) (B : Nat) (v : Value) (l : List Xp) : Prop := ∃ U, RX w B v l U ∧ ∀ i, i < l.length → w.ownsRow B 5 1 (U i) (atX l i).d.length ((atX l i).d.map (Value.int .u8)) ∧ ∀ k, 0 ≤ (atX l i).d.getD k 0 ∧ (atX l i).d.getD k 0 < 256
theorem OX.nil (w : World) (B : Nat) : OX w B (.slice none 0 0) [] := ⟨fun _ => .slice none 0 0, RX.nil _ _ _, fun i hi => by simp at hi⟩
theorem OX.below {w w' : World} {B : Nat} {v : Value} {l : List Xp} (h : OX w B v l) (hb : Below w.heap.size w w') : OX w' B v l := by
  obtain ⟨U, h1, h2⟩ := h
  exact ⟨U, h1.below hb, fun i hi => ⟨own_below (h2 i hi).1 hb, (h2 i hi).2⟩⟩
theorem OX.xs {w : World} {B : Nat} {v : Value} {l : List Xp} (h : OX w B v l) : XS w v l := by
  obtain ⟨U, h1, h2⟩ := h
  exact ⟨U, h1.xsu fun i hi => sl_owned (h2 i hi).1 (h2 i hi).2⟩
theorem OX.mono {w : World} {B B' : Nat} {v : Value} {l : List Xp} (h : OX w B v l) (hb : B' ≤ B) : OX w B' v l := by
  obtain ⟨U, h1, h2⟩ := h
  exact ⟨U, own_mono h1 hb, fun i hi => ⟨own_mono (h2 i hi).1 hb, (h2 i hi).2⟩⟩
theorem OX.shape {w : World} {B : Nat} {v : Value} {l : List Xp} (h : OX w B v l) : ∃ a c, v = .slice a l.length c ∧ l.length ≤ c ∧ c ≤ maxLen ∧ (a = none → c = 0) := h.xs.shape
theorem infoX : (Tryd.prog.info? 46).map (fun i => (i.zero, i.size, i.bytes)) = some (some (.agg #[.bool false, .int .i64 0, .int .i64 0, .slice none 0 0]), 4, 48) := by kernel_rfl
/-- Operations laid behind. -/
theorem wpList_append_xat {w : World} {ops : Array Oper} {rest : List Oper} {o : Oper} {a : Act} {Q : Exit → Act → World → Prop} (hgd : o.guard = none) (s x : Operand)
    (ho : o.op = .call { callee := .builtin .append, args := #[s, x], argTypes := #[29, 29] })
    (B : Nat) (v : Value) (l : List Xp) (U : Nat → Value) (hs : a.eval s = v) (hown : RX w B v l U) (y : Addr) (n : Nat) (m : List Xp) (V : Nat → Value) (cap : Nat) (hn : n = m.length)
    (hx : a.eval x = .slice (some y) n cap) (hc : ∀ j, j < m.length * 4 → w.cell? (y.add j) = some (cellX m V j)) (hV : ∀ i, i < m.length → (V i).oneCell' = true) (hbig : l.length + m.length ≤ 100000) (hbase : B ≤ w.heap.size)
    (h : ∀ v' w', RX w' B v' (l ++ m) (behU l.length U V) → w.grownBy w' v.ownBlock → wpList Tryd.prog ops Q rest (a.put o.dst v') w') : wpList Tryd.prog ops Q (o :: rest) a w := by
  obtain ⟨i0, hi, hz0, hz1, hz2⟩ := info_parts infoX
  subst hn
  refine wpList_append_own_wide w hgd s x 29 ho B 46 i0 (.agg #[.bool false, .int .i64 0, .int .i64 0, .slice none 0 0]) 4 48 Tryd.underlying29 hi hz0 hz1 hz2 rfl (by decide) v l.length (flatX l U) hs hown y m.length cap (flatX m V) hx (flatX_len m V) ?_ ?_ (by unfold maxLen; omega) (by omega) hbase ?_
  · intro j u hj
    rw [flatX_get] at hj
    split at hj
    · rename_i hj2
      rw [hc j hj2]
      exact hj
    · cases hj
  · intro u hu
    obtain ⟨j, hj⟩ := List.getElem?_of_mem hu
    rw [flatX_get] at hj
    split at hj
    · rename_i hj2
      cases hj
      unfold cellX
      split
      · rfl
      split
      · rfl
      split
      · rfl
      exact hV _ (by omega)
    · cases hj
  · intro v' w' ho' hg _
    refine h v' w' ?_ hg
    unfold RX
    rw [List.length_append, ← flatX_app]
    exact ho'
theorem cellX_at {w : World} {b off : Nat} {l : List Xp} {U : Nat → Value} (h : ∀ i, i < l.length → w.cell? ⟨b, off + i * 4, none⟩ = some (.bool (atX l i).c) ∧ w.cell? ⟨b, off + i * 4 + 1, none⟩ = some (.int .i64 (atX l i).a) ∧ w.cell? ⟨b, off + i * 4 + 2, none⟩ = some (.int .i64 (atX l i).n) ∧ w.cell? ⟨b, off + i * 4 + 3, none⟩ = some (U i)) :
    ∀ j, j < l.length * 4 → w.cell? ⟨b, off + j, none⟩ = some (cellX l U j) := fun j hj => by
  obtain ⟨h0, h1, h2, h3⟩ := h (j / 4) (by omega)
  have hd := Nat.div_add_mod j 4
  have hm := Nat.mod_lt j (show 0 < 4 by omega)
  unfold cellX
  rcases (show j % 4 = 0 ∨ j % 4 = 1 ∨ j % 4 = 2 ∨ j % 4 = 3 by omega) with e | e | e | e
  · rw [if_pos e, ← h0]
    congr 2
    omega
  · rw [if_neg (by omega), if_pos e, ← h1]
    congr 2
    omega
  · rw [if_neg (by omega), if_neg (by omega), if_pos e, ← h2]
    congr 2
    omega
  · rw [if_neg (by omega), if_neg (by omega), if_neg (by omega), ← h3]
    congr 2
    omega
theorem beh_own {w w' : World} {B : Nat} {v : Value} {l m : List Xp} {U V : Nat → Value} (hr : RX w B v l U) (hg : w.grownBy w' v.ownBlock) 
    (h1 : ∀ i, i < l.length → w.ownsRow B 5 1 (U i) (atX l i).d.length ((atX l i).d.map (Value.int .u8)) ∧ ∀ k, 0 ≤ (atX l i).d.getD k 0 ∧ (atX l i).d.getD k 0 < 256)
    (h2 : ∀ i, i < m.length → w.ownsRow B 5 1 (V i) (atX m i).d.length ((atX m i).d.map (Value.int .u8)) ∧ ∀ k, 0 ≤ (atX m i).d.getD k 0 ∧ (atX m i).d.getD k 0 < 256) :
    ∀ i, i < (l ++ m).length → w'.ownsRow B 5 1 (behU l.length U V i) (atX (l ++ m) i).d.length ((atX (l ++ m) i).d.map (Value.int .u8)) ∧ ∀ k, 0 ≤ (atX (l ++ m) i).d.getD k 0 ∧ (atX (l ++ m) i).d.getD k 0 < 256 := by
  intro i hi
  unfold behU
  by_cases hl : i < l.length
  · rw [if_pos hl, atX_left l m i hl]
    exact ⟨own_apart hr (h1 i hl).1 (by decide) hg, (h1 i hl).2⟩
  · rw [if_neg hl]
    obtain ⟨q, rfl⟩ : ∃ q, i = l.length + q := ⟨i - l.length, by omega⟩
    rw [atX_right, show l.length + q - l.length = q by omega]
    have hq : q < m.length := by rw [List.length_append] at hi; omega
    exact ⟨own_apart hr (h2 q hq).1 (by decide) hg, (h2 q hq).2⟩
/-- Operations of the call's own laid behind operations of the call's own. -/
theorem wpList_append_ox {w : World} {ops : Array Oper} {rest : List Oper} {o : Oper} {a : Act} {Q : Exit → Act → World → Prop} (hgd : o.guard = none) (s x : Operand)
    (ho : o.op = .call { callee := .builtin .append, args := #[s, x], argTypes := #[29, 29] })
    (B : Nat) (v : Value) (l : List Xp) (hs : a.eval s = v) (hown : OX w B v l) (src : Value) (m : List Xp) (hx : a.eval x = src) (hsl : OX w B src m) (hbig : l.length + m.length ≤ 100000) (hbase : B ≤ w.heap.size)
    (h : ∀ v' w', OX w' B v' (l ++ m) → Below B w w' → wpList Tryd.prog ops Q rest (a.put o.dst v') w') : wpList Tryd.prog ops Q (o :: rest) a w := by
  obtain ⟨U, r1, o1⟩ := hown
  obtain ⟨V, r2, o2⟩ := hsl
  have hsu := r2.xsu fun i hi => sl_owned (o2 i hi).1 (o2 i hi).2
  obtain ⟨ad, cap, rfl, h1, h2, h3, h4⟩ := hsu
  cases ad with
  | none =>
    obtain rfl := h3 rfl
    obtain rfl : m = [] := List.length_eq_zero_iff.1 (by omega)
    obtain ⟨i0, hi, hz0, hz1, hz2⟩ := info_parts infoX
    refine wpList_append_own_none hgd s x 29 ho B 46 i0 4 Tryd.underlying29 hi v l.length (flatX l U) hs r1 hx ?_
    refine h v w ?_ (Below.refl _ _)
    rw [List.append_nil]
    exact ⟨U, r1, o1⟩
  | some y =>
    refine wpList_append_xat hgd s x ho B v l U hs r1 y m.length m V cap rfl hx ?_ ?_ hbig hbase ?_
    · intro j hj
      rcases h4 with rfl | ⟨b, off, e, hc⟩
      · simp at hj
      · cases e
        rw [Addr.add_lit]
        exact cellX_at (fun i hi => ⟨(hc i hi).1, (hc i hi).2.1, (hc i hi).2.2.1, (hc i hi).2.2.2.1⟩) j hj
    · intro i hi
      rcases h4 with rfl | ⟨b, off, e, hc⟩
      · simp at hi
      · obtain ⟨a, c, e2, _⟩ := (hc i hi).2.2.2.2
        rw [e2]
        rfl
    · intro v' w' r' g'
      exact h v' w' ⟨_, r', beh_own r1 g' o1 o2⟩ ((Below.refl _ _).grown g' hbase (own_base r1))
/-- One operation that was built, in a row of its own. -/
theorem OX.one (w : World) (B : Nat) (hB : B ≤ w.heap.size) (x : Xp) (u : Value) (ho : w.ownsRow B 5 1 u x.d.length (x.d.map (Value.int .u8))) (hb : ∀ k, 0 ≤ x.d.getD k 0 ∧ x.d.getD k 0 < 256) :
    OX (w.alloc (.cells #[.bool x.c, .int .i64 x.a, .int .i64 x.n, u] 46)) B (.slice (some ⟨w.heap.size, 0, none⟩) 1 1) [x] := by
  refine ⟨fun _ => u, ⟨by rw [flatX_len], .inr ⟨w.heap.size, 1, _, rfl, hB, heap_alloc_new _ _, Nat.le_refl _, by unfold maxLen; omega, rfl, ?_⟩⟩, fun i hi => ?_⟩
  · rw [← flatX_one]
    rfl
  · obtain rfl : i = 0 := by simpa using hi
    exact ⟨ho.alloc _, hb⟩
/-- The last one's number of bytes is changed. -/
theorem OX.longer {w : World} {B : Nat} {v : Value} {l : List Xp} (h : OX w B v l) (hl : 0 < l.length) (z : Nat) :
    ∃ g cap, v = .slice (some ⟨g, 0, none⟩) l.length cap ∧ l.length ≤ cap ∧ B ≤ g ∧ w.frozen? ⟨g, (l.length - 1) * 4 + 2, none⟩ = false ∧ w.cell? ⟨g, (l.length - 1) * 4, none⟩ = some (.bool (atX l (l.length - 1)).c) ∧ w.cell? ⟨g, (l.length - 1) * 4 + 1, none⟩ = some (.int .i64 (atX l (l.length - 1)).a) ∧ w.cell? ⟨g, (l.length - 1) * 4 + 2, none⟩ = some (.int .i64 (atX l (l.length - 1)).n) ∧
      OX (w.setCell ⟨g, (l.length - 1) * 4 + 2, none⟩ (.int .i64 ((atX l (l.length - 1)).n + z))) B v (Go.Proofs.YtfccjeepmhgckaaDoor.longer l z) := by
  have hxs := h.xs
  obtain ⟨U, r1, o1⟩ := h
  have r1' := r1
  rcases r1.2 with ⟨rfl, h2⟩ | ⟨g, cap, cur, rfl, hg, hh, hlc, hm, hcs, hct⟩
  · omega
  obtain ⟨b, off, ua, un, uc, e, k0, k1, k2, k3, -⟩ := hxs.at (l.length - 1) (by omega)
  cases e
  simp only [Nat.zero_add] at k0 k1 k2 k3
  obtain ⟨n, hn⟩ : ∃ n, l.length = n + 1 := ⟨l.length - 1, by omega⟩
  have hll : (Go.Proofs.YtfccjeepmhgckaaDoor.longer l z).length = l.length := by unfold Go.Proofs.YtfccjeepmhgckaaDoor.longer; rw [List.length_set]
  have hat : ∀ i, i < l.length → i ≠ l.length - 1 → atX (Go.Proofs.YtfccjeepmhgckaaDoor.longer l z) i = atX l i := fun i hi hne => by
    unfold Go.Proofs.YtfccjeepmhgckaaDoor.longer
    simp only [atX, List.getD]
    rw [List.getElem?_set_ne (fun e => hne e.symm)]
  have hat2 : atX (Go.Proofs.YtfccjeepmhgckaaDoor.longer l z) (l.length - 1) = { atX l (l.length - 1) with n := (atX l (l.length - 1)).n + z } := by
    unfold Go.Proofs.YtfccjeepmhgckaaDoor.longer
    simp only [atX, List.getD]
    rw [List.getElem?_set_self (show l.length - 1 < l.length by omega)]
    rfl
  have hd : ∀ i, i < l.length → (atX (Go.Proofs.YtfccjeepmhgckaaDoor.longer l z) i).d = (atX l i).d := fun i hi => by
    by_cases hne : i = l.length - 1
    · subst hne; rw [hat2]
    · rw [hat i hi hne]
  refine ⟨g, cap, rfl, hlc, hg, frozen_of_row _ _ _ _ _ hh, k0, k1, k2, U, ?_, fun i hi => ?_⟩
  · refine ⟨by rw [flatX_len], .inr ⟨g, cap, cur.set! ((l.length - 1) * 4 + 2) (.int .i64 ((atX l (l.length - 1)).n + z)), by rw [hll], hg, ?_, by rw [hll]; exact hlc, hm, by simp [hcs], ?_⟩⟩
    · rw [heap_setCell_same _ _ _ _ _ _ hh]
      simp
    · have hsz : (l.length - 1) * 4 + 2 < cur.size := by rw [hcs]; omega
      rw [hll]
      apply List.ext_getElem?
      intro j
      rw [flatX_get, hll]
      by_cases hj : j < l.length * 4
      · rw [if_pos hj, List.getElem?_take, if_pos hj]
        have hold : cur.toList[j]? = some (cellX l U j) := by
          have h5 := congrArg (·[j]?) hct
          rw [flatX_get, if_pos hj, List.getElem?_take, if_pos hj] at h5
          exact h5
        simp only [Array.set!_eq_setIfInBounds, Array.toList_setIfInBounds]
        by_cases he : j = (l.length - 1) * 4 + 2
        · subst he
          rw [List.getElem?_set_self (by simpa using hsz)]
          unfold cellX
          rw [if_neg (by omega), if_neg (by omega), if_pos (by omega), show ((l.length - 1) * 4 + 2) / 4 = l.length - 1 by omega, hat2]
        · rw [List.getElem?_set_ne (fun e => he e.symm), hold]
          congr 1
          unfold cellX
          by_cases hq : j / 4 = l.length - 1
          · have hm2 : j % 4 ≠ 2 := by omega
            rw [hq, hat2]
            split
            · rfl
            split
            · rfl
            rfl
          · rw [hat _ (by omega) hq]
      · rw [if_neg hj, List.getElem?_eq_none]
        rw [List.length_take]
        omega
  · rw [hll] at hi
    rw [hd i hi]
    refine ⟨?_, (o1 i hi).2⟩
    refine ownsRow_setCell_other (o1 i hi).1 (fun e => ?_) _
    rcases (o1 i hi).1.2 with ⟨e2, _⟩ | ⟨g', cap', cur', e2, _, hh', _⟩
    · rw [e2] at e; cases e
    · rw [e2] at e
      cases e
      rw [hh] at hh'
      cases hh'
end Go.Proofs.YtfccjeepmhgckaaDoor
