/-
  Texts on En, Ow, Fl, Cp, Sm, Lg, Sz, in one.
-/
import Derived.Test.YtdnbiibijoggoaaGreatDoorBas
import Derived.Test.YtdnbiibijoggoaaGreatDoorPa
import Derived.Deep.QuietTactic
import Derived.BigQuiet
namespace Go.Proofs.YtdnbiibijoggoaaGreatDoor
open Go.RowKit

/-- An entry: its path, whether it is a directory, its bytes. -/
structure En where
  p : ByteArray
  d : Bool
  z : List Int
/-- The empty entry. -/
def e0 : En := ⟨⟨#[]⟩, false, []⟩
/-- The entry at a place. -/
abbrev atE (l : List En) (i : Nat) : En := l.getD i e0
theorem atE_eq (l : List En) (i : Nat) (h : i < l.length) : atE l i = l[i] := by simp [atE, List.getD, h]
theorem atE_mem (l : List En) (i : Nat) (h : i < l.length) : atE l i ∈ l := by rw [atE_eq l i h]; exact List.getElem_mem h
theorem atE_take (l : List En) (n i : Nat) (h : i < n) : atE (l.take n) i = atE l i := by
  simp [atE, List.getD, h]
theorem atE_drop (l : List En) (n i : Nat) : atE (l.drop n) i = atE l (n + i) := by
  simp [atE, List.getD, List.getElem?_drop]
/-- How many bytes there are. -/
def siz (l : List En) : Nat := (l.map fun y => y.z.length).sum
/-- Whether two entries, or lists, are the same. -/
def samE (x y : En) : Bool := decide (x.p = y.p) && decide (x.d = y.d) && decide (x.z = y.z)
def sam (l m : List En) : Bool := decide (l.length = m.length) && (List.range l.length).all fun i => samE (atE l i) (atE m i)
theorem samE_iff (x y : En) : samE x y = true ↔ x = y := by
  cases x; cases y
  simp [samE]
  constructor
  · rintro ⟨⟨a, b⟩, c⟩; exact ⟨a, b, c⟩
  · rintro ⟨a, b, c⟩; exact ⟨⟨a, b⟩, c⟩
theorem sam_iff (l m : List En) : sam l m = true ↔ l = m := by
  unfold sam
  rw [Bool.and_eq_true, decide_eq_true_eq, List.all_eq_true]
  constructor
  · rintro ⟨h1, h2⟩
    refine List.ext_getElem h1 fun i a b => ?_
    have := (samE_iff _ _).1 (h2 i (List.mem_range.2 a))
    rwa [atE_eq l i a, atE_eq m i b] at this
  · rintro rfl
    exact ⟨rfl, fun i _ => (samE_iff _ _).2 rfl⟩
/-- A search's answer: the first place. -/
theorem findIdx_of (l : List En) (f : En → Bool) (j : Nat) (hj : j < l.length) (h1 : ∀ k, k < j → f (atE l k) = false) (h2 : f (atE l j) = true) : l.findIdx f = j := by
  rw [List.findIdx_eq hj]
  refine ⟨by rw [← atE_eq l j hj]; exact h2, fun k hk => ?_⟩
  have := h1 k hk
  rwa [atE_eq l k (by omega)] at this
theorem findIdx_none (l : List En) (f : En → Bool) (h1 : ∀ k, k < l.length → f (atE l k) = false) : l.findIdx f = l.length := by
  rw [List.findIdx_eq_length]
  intro x hx
  obtain ⟨k, hk, rfl⟩ := List.getElem_of_mem hx
  have := h1 k hk
  rwa [atE_eq l k hk] at this
theorem findIdx_spec (l : List En) (f : En → Bool) : l.findIdx f ≤ l.length ∧ (∀ k, k < l.findIdx f → f (atE l k) = false) ∧ (l.findIdx f < l.length → f (atE l (l.findIdx f)) = true) := by
  refine ⟨List.findIdx_le_length, fun k hk => ?_, fun h => ?_⟩
  · have hl : k < l.length := by have := @List.findIdx_le_length En f l; omega
    rw [atE_eq l k hl]
    have := List.not_of_lt_findIdx hk
    simpa using this
  · rw [atE_eq l _ h]
    exact List.findIdx_getElem

/-- A value that is a slice of the entries l; U: the values of their Data. -/
def ESU (w : World) (v : Value) (l : List En) (U : Nat → Value) : Prop :=
  ∃ a c, v = .slice a l.length c ∧ l.length ≤ c ∧ c ≤ maxLen ∧ (a = none → c = 0) ∧ (l = [] ∨ ∃ b off, a = some ⟨b, off, none⟩ ∧ ∀ i, i < l.length →
    w.cell? ⟨b, off + i * 3, none⟩ = some (.string (atE l i).p) ∧ w.cell? ⟨b, off + i * 3 + 1, none⟩ = some (.bool (atE l i).d) ∧ w.cell? ⟨b, off + i * 3 + 2, none⟩ = some (U i) ∧ Sl w (U i) (atE l i).z)
def ES (w : World) (v : Value) (l : List En) : Prop := ∃ U, ESU w v l U
theorem ESU.kept {w w' : World} {v : Value} {l : List En} {U : Nat → Value} (h : ESU w v l U) (hb : Below w.heap.size w w') : ESU w' v l U := by
  obtain ⟨a, c, h1, h2, h3, h4, h5⟩ := h
  refine ⟨a, c, h1, h2, h3, h4, ?_⟩
  rcases h5 with h5 | ⟨b, off, h6, h7⟩
  · exact .inl h5
  · refine .inr ⟨b, off, h6, fun i hi => ?_⟩
    obtain ⟨q1, q2, q3, q4⟩ := h7 i hi
    exact ⟨(hb.cell (World.block_lt_of_cell? _ _ q1)).trans q1, (hb.cell (World.block_lt_of_cell? _ _ q2)).trans q2, (hb.cell (World.block_lt_of_cell? _ _ q3)).trans q3, q4.kept hb⟩
theorem ES.kept {w w' : World} {v : Value} {l : List En} (h : ES w v l) (hb : Below w.heap.size w w') : ES w' v l := by
  obtain ⟨U, h⟩ := h
  exact ⟨U, h.kept hb⟩
theorem ES.shape {w : World} {v : Value} {l : List En} (h : ES w v l) : ∃ a c, v = .slice a l.length c ∧ l.length ≤ c ∧ c ≤ maxLen ∧ (a = none → c = 0) := by
  obtain ⟨U, a, c, h1, h2, h3, h4, _⟩ := h
  exact ⟨a, c, h1, h2, h3, h4⟩
theorem ES.nil (w : World) : ES w (.slice none 0 0) [] := ⟨fun _ => .slice none 0 0, none, 0, rfl, Nat.le_refl _, by unfold maxLen; omega, fun _ => rfl, .inl rfl⟩
/-- An entry's cells. -/
theorem ES.at {w : World} {a : Option Addr} {n c : Nat} {l : List En} (h : ES w (.slice a n c) l) (i : Nat) (hi : i < l.length) :
    ∃ b off ua un uc, a = some ⟨b, off, none⟩ ∧ w.cell? ⟨b, off + i * 3, none⟩ = some (.string (atE l i).p) ∧ w.cell? ⟨b, off + i * 3 + 1, none⟩ = some (.bool (atE l i).d) ∧
      w.cell? ⟨b, off + i * 3 + 2, none⟩ = some (.slice ua un uc) ∧ un = (atE l i).z.length ∧ Sl w (.slice ua un uc) (atE l i).z := by
  obtain ⟨U, a', c', h1, h2, h3, h4, h5⟩ := h
  cases h1
  rcases h5 with h5 | ⟨b, off, h6, h7⟩
  · subst h5; simp at hi
  · obtain ⟨q1, q2, q3, q4⟩ := h7 i hi
    obtain ⟨ua, uc, e, r⟩ := q4
    rw [e] at q3
    exact ⟨b, off, ua, _, uc, h6, q1, q2, q3, rfl, ⟨ua, uc, rfl, r⟩⟩
/-- The first of them. -/
theorem ES.take {w : World} {a : Option Addr} {n c : Nat} {l : List En} (h : ES w (.slice a n c) l) (m : Nat) (hm : m ≤ n) : ES w (.slice a m c) (l.take m) := by
  obtain ⟨U, a', c', h1, h2, h3, h4, h5⟩ := h
  cases h1
  have hl : (l.take m).length = m := by rw [List.length_take]; omega
  refine ⟨U, a, c, by rw [hl], by omega, h3, h4, ?_⟩
  rcases h5 with h5 | ⟨b, off, h6, h7⟩
  · subst h5; exact .inl (by simp)
  · refine .inr ⟨b, off, h6, fun i hi => ?_⟩
    rw [hl] at hi
    rw [atE_take l m i hi]
    exact h7 i (by omega)
/-- How many, and how long, the walks take them to be. -/
def Lt (l : List En) : Prop := l.length ≤ 100 ∧ ∀ x ∈ l, x.p.size ≤ 1000 ∧ x.z.length ≤ 100000
theorem Lt.at {l : List En} (h : Lt l) (i : Nat) : (atE l i).p.size ≤ 1000 ∧ (atE l i).z.length ≤ 100000 := by
  by_cases hi : i < l.length
  · exact h.2 _ (atE_mem l i hi)
  · have e : atE l i = e0 := by simp [atE, List.getD, List.getElem?_eq_none (show l.length ≤ i by omega)]
    rw [e]
    decide
theorem Lt.take {l : List En} (h : Lt l) (m : Nat) : Lt (l.take m) := ⟨by rw [List.length_take]; have := h.1; omega, fun x hx => h.2 x (List.mem_of_mem_take hx)⟩
end Go.Proofs.YtdnbiibijoggoaaGreatDoor

namespace Go.Proofs.YtdnbiibijoggoaaGreatDoor
open Go.RowKit

/-- A value that is an entry. -/
def EV (w : World) (v : Value) (x : En) : Prop := ∃ ua un uc, v = .agg #[.string x.p, .bool x.d, .slice ua un uc] ∧ Sl w (.slice ua un uc) x.z
theorem EV.kept {w w' : World} {v : Value} {x : En} (h : EV w v x) (hb : Below w.heap.size w w') : EV w' v x := by
  obtain ⟨ua, un, uc, h1, h2⟩ := h
  exact ⟨ua, un, uc, h1, h2.kept hb⟩
theorem own_shape {w : World} {B n : Nat} {e : TypeId} {s : Nat} {v : Value} {xs : List Value} (h : w.ownsRow B e s v n xs) : ∃ a c, v = .slice a n c := by
  obtain ⟨h1, h2⟩ := h
  rcases h2 with ⟨rfl, h2⟩ | ⟨g, cap, cur, hv, _⟩
  · exact ⟨none, 0, by rw [h2]⟩
  · exact ⟨_, cap, hv⟩

/-- The three cells of a block. -/
theorem trio {w : World} {b : Nat} {x y z : Value} {t : TypeId} (h : w.heap[b]? = some (.cells #[x, y, z] t (0, 0))) : w.cell? ⟨b, 0, none⟩ = some x ∧ w.cell? ⟨b, 1, none⟩ = some y ∧ w.cell? ⟨b, 2, none⟩ = some z ∧
    w.frozen? ⟨b, 0, none⟩ = false ∧ w.frozen? ⟨b, 1, none⟩ = false ∧ w.frozen? ⟨b, 2, none⟩ = false := by
  refine ⟨?_, ?_, ?_, ?_, ?_, ?_⟩ <;> simp [World.cell?, World.frozen?, h]
end Go.Proofs.YtdnbiibijoggoaaGreatDoor

namespace Go.Proofs.YtdnbiibijoggoaaGreatDoor
open Go.RowKit

/-- The cell at a place of a row of entries. -/
def cellE (l : List En) (U : Nat → Value) (j : Nat) : Value := if j % 3 = 0 then .string (atE l (j / 3)).p else if j % 3 = 1 then .bool (atE l (j / 3)).d else U (j / 3)
/-- The cells of entries. -/
def flat (l : List En) (U : Nat → Value) : List Value := (List.range (l.length * 3)).map (cellE l U)
/-- The values of Data, of two lists. -/
def behU (n : Nat) (U V : Nat → Value) : Nat → Value := fun i => if i < n then U i else V (i - n)
theorem flat_len (l : List En) (U : Nat → Value) : (flat l U).length = l.length * 3 := by simp [flat]
theorem flat_get (l : List En) (U : Nat → Value) (j : Nat) : (flat l U)[j]? = if j < l.length * 3 then some (cellE l U j) else none := by
  unfold flat
  rw [List.getElem?_map]
  by_cases h : j < l.length * 3
  · rw [List.getElem?_range h, if_pos h]; rfl
  · rw [if_neg h, List.getElem?_eq_none (by simpa using h)]; rfl
theorem atE_left (l m : List En) (i : Nat) (h : i < l.length) : atE (l ++ m) i = atE l i := by simp [atE, List.getD, List.getElem?_append_left h]
theorem atE_right (l m : List En) (i : Nat) : atE (l ++ m) (l.length + i) = atE m i := by
  simp only [atE, List.getD]
  rw [List.getElem?_append_right (by omega), show l.length + i - l.length = i by omega]
theorem flat_app (l m : List En) (U V : Nat → Value) : flat l U ++ flat m V = flat (l ++ m) (behU l.length U V) := by
  apply List.ext_getElem?
  intro j
  rw [flat_get]
  by_cases h : j < l.length * 3
  · rw [List.getElem?_append_left (by rw [flat_len]; exact h), flat_get, if_pos h, if_pos (by rw [List.length_append]; omega)]
    have hd : j / 3 < l.length := by omega
    unfold cellE behU
    rw [atE_left l m _ hd, if_pos hd]
  · rw [List.getElem?_append_right (by rw [flat_len]; omega), flat_len, flat_get]
    obtain ⟨q, rfl⟩ : ∃ q, j = l.length * 3 + q := ⟨j - l.length * 3, by omega⟩
    rw [show l.length * 3 + q - l.length * 3 = q by omega]
    have e1 : (l.length * 3 + q) / 3 = l.length + q / 3 := by omega
    have e2 : (l.length * 3 + q) % 3 = q % 3 := by omega
    have e3 : (if q < m.length * 3 then some (cellE m V q) else none) = if l.length * 3 + q < (l ++ m).length * 3 then some (cellE m V q) else none := by
      rw [List.length_append]
      by_cases hq : q < m.length * 3
      · rw [if_pos hq, if_pos (by omega)]
      · rw [if_neg hq, if_neg (by omega)]
    rw [e3]
    congr 2
    unfold cellE behU
    rw [e1, e2, atE_right, if_neg (show ¬ l.length + q / 3 < l.length by omega), show l.length + q / 3 - l.length = q / 3 by omega]
theorem flat_one (x : En) (u : Value) : [Value.string x.p, .bool x.d, u] = flat [x] (fun _ => u) := by
  show _ = [cellE [x] (fun _ => u) 0, cellE [x] (fun _ => u) 1, cellE [x] (fun _ => u) 2]
  simp [cellE, atE]
/-- Entries in a row of the call's own. -/
def RE (w : World) (B : Nat) (v : Value) (l : List En) (U : Nat → Value) : Prop := w.ownsRow B 54 3 v l.length (flat l U)
theorem RE.nil (w : World) (B : Nat) (U : Nat → Value) : RE w B (.slice none 0 0) [] U := ⟨rfl, .inl ⟨rfl, rfl⟩⟩
theorem own_below {w w' : World} {B n s : Nat} {e : TypeId} {v : Value} {xs : List Value} (h : w.ownsRow B e s v n xs) (hb : Below w.heap.size w w') : w'.ownsRow B e s v n xs := by
  obtain ⟨h1, h2⟩ := h
  refine ⟨h1, ?_⟩
  rcases h2 with h2 | ⟨g, cap, cur, hv, hg, hh, r⟩
  · exact .inl h2
  · exact .inr ⟨g, cap, cur, hv, hg, (hb.block g (Array.getElem?_eq_some_iff.1 hh).1).trans hh, r⟩
theorem RE.below {w w' : World} {B : Nat} {v : Value} {l : List En} {U : Nat → Value} (h : RE w B v l U) (hb : Below w.heap.size w w') : RE w' B v l U := own_below h hb
theorem RE.es {w : World} {B : Nat} {v : Value} {l : List En} {U : Nat → Value} (h : RE w B v l U) (hs : ∀ i, i < l.length → Sl w (U i) (atE l i).z) : ES w v l := by
  have h' := h
  rcases h.2 with ⟨rfl, h2⟩ | ⟨g, cap, cur, rfl, hg, hh, hl, hm, r⟩
  · obtain rfl : l = [] := List.length_eq_zero_iff.1 h2
    exact ES.nil w
  · refine ⟨U, _, cap, rfl, hl, hm, (fun e => by cases e), .inr ⟨g, 0, rfl, fun i hi => ?_⟩⟩
    have c : ∀ j, j < l.length * 3 → w.cell? ⟨g, 0 + j, none⟩ = some (cellE l U j) := fun j hj => by
      have := h'.cells (g := g) rfl j (cellE l U j) (by rw [flat_get, if_pos hj])
      rwa [Addr.add_lit] at this
    have c0 := c (i * 3) (by omega)
    have c1 := c (i * 3 + 1) (by omega)
    have c2 := c (i * 3 + 2) (by omega)
    unfold cellE at c0 c1 c2
    rw [if_pos (by omega), show i * 3 / 3 = i by omega] at c0
    rw [if_neg (by omega), if_pos (by omega), show (i * 3 + 1) / 3 = i by omega] at c1
    rw [if_neg (by omega), if_neg (by omega), show (i * 3 + 2) / 3 = i by omega] at c2
    exact ⟨c0, by rw [Nat.add_assoc]; exact c1, by rw [Nat.add_assoc]; exact c2, hs i hi⟩
/-- Entries of the call's own, with bytes of the call's own. -/
def OE (w : World) (B : Nat) (v : Value) (l : List En) : Prop := ∃ U, RE w B v l U ∧ ∀ i, i < l.length → w.ownsRow B 5 1 (U i) (atE l i).z.length ((atE l i).z.map (Value.int .u8)) ∧ ∀ k, 0 ≤ (atE l i).z.getD k 0 ∧ (atE l i).z.getD k 0 < 256
theorem OE.nil (w : World) (B : Nat) : OE w B (.slice none 0 0) [] := ⟨fun _ => .slice none 0 0, RE.nil _ _ _, fun i hi => by simp at hi⟩
theorem OE.below {w w' : World} {B : Nat} {v : Value} {l : List En} (h : OE w B v l) (hb : Below w.heap.size w w') : OE w' B v l := by
  obtain ⟨U, h1, h2⟩ := h
  exact ⟨U, h1.below hb, fun i hi => ⟨own_below (h2 i hi).1 hb, (h2 i hi).2⟩⟩
theorem OE.es {w : World} {B : Nat} {v : Value} {l : List En} (h : OE w B v l) : ES w v l := by
  obtain ⟨U, h1, h2⟩ := h
  exact h1.es fun i hi => sl_owned (h2 i hi).1 (h2 i hi).2
theorem OE.mono {w : World} {B B' : Nat} {v : Value} {l : List En} (h : OE w B v l) (hb : B' ≤ B) : OE w B' v l := by
  obtain ⟨U, h1, h2⟩ := h
  exact ⟨U, own_mono h1 hb, fun i hi => ⟨own_mono (h2 i hi).1 hb, (h2 i hi).2⟩⟩
theorem infoE : (Tryz.prog.info? 54).map (fun i => (i.zero, i.size, i.bytes)) = some (some (.agg #[.string ByteArray.empty, .bool false, .slice none 0 0]), 3, 48) := by kernel_rfl
/-- A row of another kind stays where a row of entries grows. -/
theorem own_apart {w w' : World} {B C n m s t : Nat} {e f : TypeId} {v u : Value} {xs ys : List Value} (h : w.ownsRow B e s v n xs) (k : w.ownsRow C f t u m ys) (hef : e ≠ f) (hg : w.grownBy w' v.ownBlock) : w'.ownsRow C f t u m ys := by
  obtain ⟨k1, k2⟩ := k
  refine ⟨k1, ?_⟩
  rcases k2 with k2 | ⟨g, cap, cur, hv, hgg, hh, r⟩
  · exact .inl k2
  · refine .inr ⟨g, cap, cur, hv, hgg, ?_, r⟩
    refine (hg.block g (Array.getElem?_eq_some_iff.1 hh).1 ?_).trans hh
    intro e2
    rcases h.2 with ⟨rfl, _⟩ | ⟨g', cap', cur', rfl, _, hh', _⟩
    · cases e2
    · cases e2
      rw [hh] at hh'
      simp at hh'
      exact hef hh'.2.symm
/-- Entries laid behind. -/
theorem wpList_append_at {w : World} {ops : Array Oper} {rest : List Oper} {o : Oper} {a : Act} {Q : Exit → Act → World → Prop} (hgd : o.guard = none) (s x : Operand)
    (ho : o.op = .call { callee := .builtin .append, args := #[s, x], argTypes := #[22, 22] })
    (B : Nat) (v : Value) (l : List En) (U : Nat → Value) (hs : a.eval s = v) (hown : RE w B v l U) (y : Addr) (n : Nat) (m : List En) (V : Nat → Value) (cap : Nat) (hn : n = m.length)
    (hx : a.eval x = .slice (some y) n cap) (hc : ∀ j, j < m.length * 3 → w.cell? (y.add j) = some (cellE m V j)) (hV : ∀ i, i < m.length → (V i).oneCell' = true) (hbig : l.length + m.length ≤ 100000) (hbase : B ≤ w.heap.size)
    (h : ∀ v' w', RE w' B v' (l ++ m) (behU l.length U V) → w.grownBy w' v.ownBlock → wpList Tryz.prog ops Q rest (a.put o.dst v') w') : wpList Tryz.prog ops Q (o :: rest) a w := by
  obtain ⟨i0, hi, hz0, hz1, hz2⟩ := info_parts infoE
  subst hn
  refine wpList_append_own_wide w hgd s x 22 ho B 54 i0 (.agg #[.string ByteArray.empty, .bool false, .slice none 0 0]) 3 48 Tryz.underlying22 hi hz0 hz1 hz2 rfl (by decide) v l.length (flat l U) hs hown y m.length cap (flat m V) hx (flat_len m V) ?_ ?_ (by unfold maxLen; omega) (by omega) hbase ?_
  · intro j u hj
    rw [flat_get] at hj
    split at hj
    · rename_i hj2
      rw [hc j hj2]
      exact hj
    · cases hj
  · intro u hu
    obtain ⟨j, hj⟩ := List.getElem?_of_mem hu
    rw [flat_get] at hj
    split at hj
    · rename_i hj2
      cases hj
      unfold cellE
      split
      · rfl
      split
      · rfl
      exact hV _ (by omega)
    · cases hj
  · intro v' w' ho' hg _
    refine h v' w' ?_ hg
    unfold RE
    rw [List.length_append, ← flat_app]
    exact ho'
/-- An entry laid behind. -/
theorem wpList_append_en {w : World} {ops : Array Oper} {rest : List Oper} {o : Oper} {a : Act} {Q : Exit → Act → World → Prop} (hgd : o.guard = none) (s x : Operand)
    (ho : o.op = .call { callee := .builtin .append, args := #[s, x], argTypes := #[22, 22] })
    (B : Nat) (v : Value) (l : List En) (U : Nat → Value) (hs : a.eval s = v) (hown : RE w B v l U) (g n : Nat) (m : List En) (V : Nat → Value) (cap : Nat) (off : Nat) (hn : n = m.length)
    (hx : a.eval x = .slice (some ⟨g, off, none⟩) n cap) (hc : ∀ j, j < m.length * 3 → w.cell? ⟨g, off + j, none⟩ = some (cellE m V j)) (hV : ∀ i, i < m.length → (V i).oneCell' = true) (hbig : l.length + m.length ≤ 100000) (hbase : B ≤ w.heap.size)
    (h : ∀ v' w', RE w' B v' (l ++ m) (behU l.length U V) → w.grownBy w' v.ownBlock → wpList Tryz.prog ops Q rest (a.put o.dst v') w') : wpList Tryz.prog ops Q (o :: rest) a w :=
  wpList_append_at hgd s x ho B v l U hs hown ⟨g, off, none⟩ n m V cap hn hx (fun j hj => by rw [Addr.add_lit]; exact hc j hj) hV hbig hbase h
theorem cellE_at {w : World} {b off : Nat} {l : List En} {U : Nat → Value} (h : ∀ i, i < l.length → w.cell? ⟨b, off + i * 3, none⟩ = some (.string (atE l i).p) ∧ w.cell? ⟨b, off + i * 3 + 1, none⟩ = some (.bool (atE l i).d) ∧ w.cell? ⟨b, off + i * 3 + 2, none⟩ = some (U i)) :
    ∀ j, j < l.length * 3 → w.cell? ⟨b, off + j, none⟩ = some (cellE l U j) := fun j hj => by
  obtain ⟨h0, h1, h2⟩ := h (j / 3) (by omega)
  have hd := Nat.div_add_mod j 3
  have hm := Nat.mod_lt j (show 0 < 3 by omega)
  unfold cellE
  rcases (show j % 3 = 0 ∨ j % 3 = 1 ∨ j % 3 = 2 by omega) with e | e | e
  · rw [if_pos e, ← h0]
    congr 2
    omega
  · rw [if_neg (by omega), if_pos e, ← h1]
    congr 2
    omega
  · rw [if_neg (by omega), if_neg (by omega), ← h2]
    congr 2
    omega
theorem wpList_append_es {w : World} {ops : Array Oper} {rest : List Oper} {o : Oper} {a : Act} {Q : Exit → Act → World → Prop} (hgd : o.guard = none) (s x : Operand)
    (ho : o.op = .call { callee := .builtin .append, args := #[s, x], argTypes := #[22, 22] })
    (B : Nat) (v : Value) (l : List En) (U : Nat → Value) (hs : a.eval s = v) (hown : RE w B v l U) (src : Value) (m : List En) (V : Nat → Value) (hx : a.eval x = src) (hsl : ESU w src m V) (hbig : l.length + m.length ≤ 100000) (hbase : B ≤ w.heap.size)
    (h : ∀ v' w', RE w' B v' (l ++ m) (behU l.length U V) → w.grownBy w' v.ownBlock → wpList Tryz.prog ops Q rest (a.put o.dst v') w') : wpList Tryz.prog ops Q (o :: rest) a w := by
  obtain ⟨ad, cap, rfl, h1, h2, h3, h4⟩ := hsl
  cases ad with
  | none =>
    obtain rfl := h3 rfl
    obtain rfl : m = [] := List.length_eq_zero_iff.1 (by omega)
    obtain ⟨i0, hi, hz0, hz1, hz2⟩ := info_parts infoE
    refine wpList_append_own_none hgd s x 22 ho B 54 i0 3 Tryz.underlying22 hi v l.length (flat l U) hs hown hx ?_
    refine h v w ?_ ⟨rfl, rfl, rfl, Nat.le_refl _, fun _ _ _ => rfl⟩
    have e := flat_app l [] U V
    unfold RE at hown ⊢
    rw [List.length_append, ← e]
    simpa [flat] using hown
  | some y =>
    refine wpList_append_at hgd s x ho B v l U hs hown y m.length m V cap rfl hx ?_ ?_ hbig hbase h
    · intro j hj
      rcases h4 with rfl | ⟨b, off, e, hc⟩
      · simp at hj
      · cases e
        rw [Addr.add_lit]
        exact cellE_at (fun i hi => ⟨(hc i hi).1, (hc i hi).2.1, (hc i hi).2.2.1⟩) j hj
    · intro i hi
      rcases h4 with rfl | ⟨b, off, e, hc⟩
      · simp at hi
      · obtain ⟨a, c, e2, _⟩ := (hc i hi).2.2.2
        rw [e2]
        rfl
end Go.Proofs.YtdnbiibijoggoaaGreatDoor

namespace Go.Proofs.YtdnbiibijoggoaaGreatDoor
open Go.RowKit

theorem sl_one {w : World} {v : Value} {xs : List Int} (h : Sl w v xs) : v.oneCell' = true := by
  obtain ⟨a, c, rfl, _⟩ := h
  rfl
theorem take_at (l : List En) (j : Nat) (h : j < l.length) : l.take (j + 1) = l.take j ++ [atE l j] := by
  rw [List.take_add_one, List.getElem?_eq_getElem h, atE_eq l j h]
  rfl
/-- What is laid behind, where an entry with bytes of the call's own was built. -/
theorem OE.step {w3 w4 : World} {B : Nat} {v v4 : Value} {L : List En} {U : Nat → Value} {x : En} {u : Value} (ho : ∀ i, i < L.length → w3.ownsRow B 5 1 (U i) (atE L i).z.length ((atE L i).z.map (Value.int .u8)) ∧ ∀ k, 0 ≤ (atE L i).z.getD k 0 ∧ (atE L i).z.getD k 0 < 256)
    (hr : RE w3 B v L U) (hu : w3.ownsRow B 5 1 u x.z.length (x.z.map (Value.int .u8))) (hx : ∀ k, 0 ≤ x.z.getD k 0 ∧ x.z.getD k 0 < 256)
    (h4 : RE w4 B v4 (L ++ [x]) (behU L.length U (fun _ => u))) (hg : w3.grownBy w4 v.ownBlock) : OE w4 B v4 (L ++ [x]) := by
  refine ⟨_, h4, fun i hi => ?_⟩
  rw [List.length_append, List.length_singleton] at hi
  rcases Nat.lt_or_ge i L.length with h | h
  · rw [atE_left L [x] i h]
    unfold behU
    rw [if_pos h]
    exact ⟨own_apart hr (ho i h).1 (by decide) hg, (ho i h).2⟩
  · obtain rfl : i = L.length := by omega
    have e := atE_right L [x] 0
    rw [Nat.add_zero] at e
    rw [e]
    unfold behU
    rw [if_neg (by omega)]
    exact ⟨own_apart hr hu (by decide) hg, hx⟩

end Go.Proofs.YtdnbiibijoggoaaGreatDoor

namespace Go.Proofs.YtdnbiibijoggoaaGreatDoor
open Go.RowKit

theorem strB_toList (X : List Int) : (strB X).toList = X.map fun n => UInt8.ofNat n.toNat := ByteArray.toList_mk _
theorem strB_inj {X Y : List Int} (hX : ∀ i, 0 ≤ X.getD i 0 ∧ X.getD i 0 < 256) (hY : ∀ i, 0 ≤ Y.getD i 0 ∧ Y.getD i 0 < 256) (h : (strB X).toList = (strB Y).toList) : X = Y := by
  rw [strB_toList, strB_toList] at h
  have hl : X.length = Y.length := by have := congrArg List.length h; simpa using this
  refine List.ext_getElem hl fun i h1 h2 => ?_
  have h3 := congrArg (fun l => l[i]?) h
  simp only [List.getElem?_map, List.getElem?_eq_getElem h1, List.getElem?_eq_getElem h2, Option.map_some, Option.some.injEq] at h3
  have h4 := congrArg UInt8.toNat h3
  simp only [UInt8.toNat_ofNat'] at h4
  have h5 := hX i
  have h6 := hY i
  simp only [List.getD, List.getElem?_eq_getElem h1, List.getElem?_eq_getElem h2, Option.getD_some] at h5 h6
  omega
theorem strB_beq {X Y : List Int} (hX : ∀ i, 0 ≤ X.getD i 0 ∧ X.getD i 0 < 256) (hY : ∀ i, 0 ≤ Y.getD i 0 ∧ Y.getD i 0 < 256) : ((strB X).toList == (strB Y).toList) = decide (X = Y) := by
  by_cases h : X = Y
  · subst h; simp
  · rw [decide_eq_false h]
    have : ¬ (strB X).toList = (strB Y).toList := fun e => h (strB_inj hX hY e)
    simpa using this

set_option maxHeartbeats 1000000 in
theorem equal_any (v u : Value) (X Y : List Int) (w : World) (s1 : Sl w v X) (s2 : Sl w u Y) :
    Calls Tryz.prog 44 #[v, u] w fun r w' => r = .returned (.bool (decide (X = Y))) ∧ w' = w := by
  have HD : Hid (((strB X).toList == (strB Y).toList) = decide (X = Y)) := strB_beq s1.bytes s2.bytes
  obtain ⟨a, cap, rfl, _⟩ := id s1
  obtain ⟨a', cap', rfl, _⟩ := id s2
  have c1 := s1.conv
  have c2 := s2.conv
  clear s1 s2
  generalize X.length = L1 at *
  generalize Y.length = L2 at *
  generalize strB X = S1 at *
  generalize strB Y = S2 at *
  go_enter Tryz.func44, Tryz.ntmps44
  go_wp2
  go_ret
  exact ⟨by rw [← HD.out]; rfl, rfl⟩

theorem sam_hit (l m : List En) (j : Nat) (h : samE (atE l j) (atE m j) = false) : sam l m = false := by
  cases hb : sam l m with
  | false => rfl
  | true =>
    rw [(sam_iff l m).1 hb, (samE_iff _ _).2 rfl] at h
    cases h
theorem sam_ok (l m : List En) (hl : l.length = m.length) (h : ∀ k, k < l.length → samE (atE l k) (atE m k) = true) : sam l m = true := by
  unfold sam
  rw [Bool.and_eq_true, decide_eq_true_eq, List.all_eq_true]
  exact ⟨hl, fun i hi => h i (List.mem_range.1 hi)⟩
end Go.Proofs.YtdnbiibijoggoaaGreatDoor

namespace Go.Proofs.YtdnbiibijoggoaaGreatDoor
open Go.RowKit

/-- An answer that, if it is true, tells G; the world is as it was. -/
def LR (G : Prop) (w : World) (e : Ending) (w' : World) : Prop := ∃ r, e = .returned (.bool r) ∧ w' = w ∧ (r = true → G)
theorem LR.no (G : Prop) (w : World) : LR G w (.returned (.bool false)) w := ⟨false, rfl, rfl, fun h => by cases h⟩
theorem LR.yes {G : Prop} (w : World) (h : G) : LR G w (.returned (.bool true)) w := ⟨true, rfl, rfl, fun _ => h⟩
set_option maxHeartbeats 2000000 in
theorem light_any (v : Value) (l : List En) (most bytes : Nat) (w : World) (h : ES w v l) (hb : bytes ≤ 100000) (hmo : most ≤ 100000) (hl9 : l.length ≤ 9223372036854775807) :
    Calls Tryz.prog 6 #[v, .int .i64 most, .int .i64 bytes] w (LR (l.length ≤ most ∧ ∀ x ∈ l, x.p.size ≤ 1000 ∧ x.z.length ≤ bytes) w) := by
  obtain ⟨a, c, rfl, g2, g3, _⟩ := h.shape
  have HS : Hid (ES w (.slice a l.length c) l) := h
  have HD : Hid (l.length ≤ most → (∀ k, k < l.length → (atE l k).p.size ≤ 1000 ∧ (atE l k).z.length ≤ bytes) → l.length ≤ most ∧ ∀ x ∈ l, x.p.size ≤ 1000 ∧ x.z.length ≤ bytes) := fun h1 h2 => ⟨h1, fun x hx => by
    obtain ⟨i, hi, rfl⟩ := List.getElem_of_mem hx
    have := h2 i hi
    rwa [atE_eq l i hi] at this⟩
  obtain ⟨G, hG⟩ : ∃ G : Prop, G = (l.length ≤ most ∧ ∀ x ∈ l, x.p.size ≤ 1000 ∧ x.z.length ≤ bytes) := ⟨_, rfl⟩
  rw [← hG] at HD ⊢
  clear hG
  obtain ⟨n, hn'⟩ : ∃ n, n = l.length := ⟨_, rfl⟩
  have HN : Hid (n = l.length) := hn'
  rw [← hn'] at HS HD g2 hl9 ⊢
  clear h hn' g3
  by_cases hlong : most < n
  · have h1 : (most : Int) < (n : Int) := by omega
    clear HD HS
    go_enter Tryz.func6, Tryz.ntmps6
    go_wp2
    go_ret
    exact LR.no _ _
  have h1 : ¬ (most : Int) < (n : Int) := by omega
  have HD2 : Hid ((∀ k, k < n → (atE l k).p.size ≤ 1000 ∧ (atE l k).z.length ≤ bytes) → G) := HD.out (by omega)
  clear HD
  go_enter Tryz.func6, Tryz.ntmps6
  go_wp2
  go_loop [7, 8] (fun s q => ∃ j t : Nat, j ≤ n ∧ q = .int .i64 j ∧ s = .int .i64 t ∧ t ≤ bytes ∧ ∀ k, k < j → (atE l k).p.size ≤ 1000 ∧ (atE l k).z.length ≤ bytes) (fun _ q => n - (intOf q).toNat)
  case atStart => exact ⟨0, 0, by omega, rfl, rfl, by omega, fun k hk => by omega⟩
  case round =>
    obtain ⟨j, t, hj, rfl, rfl, ht, ok⟩ := hrel
    have OK : Hid (∀ k, k < j → (atE l k).p.size ≤ 1000 ∧ (atE l k).z.length ≤ bytes) := ok
    clear ok
    by_cases hlt : j < n
    · have lt2 : (j : Int) < (n : Int) := by omega
      obtain ⟨b, off, ua, un, uc, rfl, c1, c2, c3, hun, s1⟩ := HS.out.at j (by rw [← HN.out]; exact hlt)
      have q1 : IntKind.i64.wrap ((j : Int) + 1) = ((j + 1 : Nat) : Int) := by simp [IntKind.wrap, IntKind.bits, IntKind.signed]; omega
      have NX : Hid ((atE l j).p.size ≤ 1000 → un ≤ bytes → ∀ k, k < j + 1 → (atE l k).p.size ≤ 1000 ∧ (atE l k).z.length ≤ bytes) := fun h1 h2 k hk => by
        rcases Nat.lt_or_ge k j with h' | h'
        · exact OK.out k h'
        · rw [show k = j by omega]; exact ⟨h1, by rw [← hun]; exact h2⟩
      have hun9 : un ≤ 9223372036854775807 := by
        obtain ⟨_, _, e, h1, h2, _⟩ := s1
        cases e
        unfold maxLen at h2
        omega
      clear hun s1 OK c2
      generalize (atE l j).p = xp at *
      by_cases hp : 1000 < xp.size
      · have hp2 : 1000 < (xp.size : Int) := by omega
        go_wp2
        go_ret
        exact LR.no _ _
      have hp2 : ¬ 1000 < (xp.size : Int) := by omega
      by_cases hu : un ≤ bytes
      · have hu2 : (un : Int) ≤ (bytes : Int) := by omega
        have hmin : min (un : Int) ((bytes : Int) + 1) = (un : Int) := by omega
        have NX2 : Hid (∀ k, k < j + 1 → (atE l k).p.size ≤ 1000 ∧ (atE l k).z.length ≤ bytes) := NX.out (by omega) hu
        have q2 : IntKind.i64.wrap ((t : Int) + (un : Int)) = ((t + un : Nat) : Int) := by simp [IntKind.wrap, IntKind.bits, IntKind.signed]; omega
        clear NX
        by_cases ho : bytes < t + un
        · have ho2 : (bytes : Int) < (t : Int) + (un : Int) := by omega
          go_wp2
          go_ret
          exact LR.no _ _
        · have ho2 : ¬ (bytes : Int) < (t : Int) + (un : Int) := by omega
          go_wp2
          exact ⟨⟨j + 1, t + un, by omega, by go_num, by go_num, by omega, NX2.out⟩, by simp [intOf]; omega⟩
      · have hu2 : (bytes : Int) < (un : Int) := by omega
        have hmin : min (un : Int) ((bytes : Int) + 1) = (bytes : Int) + 1 := by omega
        have q2 : IntKind.i64.wrap ((t : Int) + ((bytes : Int) + 1)) = ((t + (bytes + 1) : Nat) : Int) := by simp [IntKind.wrap, IntKind.bits, IntKind.signed]; omega
        have ho2 : (bytes : Int) < (t : Int) + ((bytes : Int) + 1) := by omega
        clear NX
        go_wp2
        go_ret
        exact LR.no _ _
    · obtain rfl : j = n := by omega
      have HG : Hid G := HD2.out OK.out
      clear HD2 OK
      go_wp2
      go_ret
      exact LR.yes _ HG.out
set_option maxHeartbeats 1000000 in
theorem rsameEntry_any (v u : Value) (x y : En) (w : World) (h1 : EV w v x) (h2 : EV w u y) :
    Calls Tryz.prog 38 #[v, u] w fun e w' => e = .returned (.bool (samE x y)) ∧ Below w.heap.size w w' := by
  obtain ⟨ua, un, uc, rfl, s1⟩ := h1
  obtain ⟨va, vn, vc, rfl, s2⟩ := h2
  have HR : Hid (samE x y = (decide (x.p = y.p) && decide (x.d = y.d) && decide (x.z = y.z))) := rfl
  have tp := tl_beq x.p y.p
  have tz := strB_beq s1.bytes s2.bytes
  have B2 : Hid (Below w.heap.size w ((w.alloc (.cells #[.string x.p, .bool x.d, .slice ua un uc] 54)).alloc (.cells #[.string y.p, .bool y.d, .slice va vn vc] 54))) := ((Below.refl _ _).alloc (Nat.le_refl _) _).alloc (by simp) _
  have v1 := (s1.kept B2.out).conv
  have v2 := (s2.kept B2.out).conv
  generalize samE x y = r at *
  generalize decide (x.p = y.p) = t1 at *
  generalize decide (x.z = y.z) = t3 at *
  have td : (x.d == y.d) = decide (x.d = y.d) := by cases x.d <;> cases y.d <;> rfl
  generalize decide (x.d = y.d) = t2 at *
  generalize x.p = xp at *
  generalize x.d = xd at *
  generalize y.p = yp at *
  generalize y.d = yd at *
  generalize strB x.z = xs at *
  generalize strB y.z = ys at *
  clear s1 s2
  cases t1 with
  | false =>
    go_enter Tryz.func38, Tryz.ntmps38
    go_wp2
    go_ret
    exact ⟨by rw [HR.out]; rfl, B2.out⟩
  | true =>
    cases t2 with
    | false =>
      go_enter Tryz.func38, Tryz.ntmps38
      go_wp2
      go_ret
      exact ⟨by rw [HR.out]; rfl, B2.out⟩
    | true =>
      go_enter Tryz.func38, Tryz.ntmps38
      go_wp2
      go_ret
      exact ⟨by rw [HR.out]; rfl, B2.out⟩
end Go.Proofs.YtdnbiibijoggoaaGreatDoor

namespace Go.Proofs.YtdnbiibijoggoaaGreatDoor
open Go.RowKit

theorem siz_succ (l : List En) (j : Nat) (h : j < l.length) : siz (l.take (j + 1)) = siz (l.take j) + (atE l j).z.length := by
  unfold siz
  rw [List.take_add_one, List.getElem?_eq_getElem h, List.map_append, List.sum_append, atE_eq l j h]
  simp
end Go.Proofs.YtdnbiibijoggoaaGreatDoor
