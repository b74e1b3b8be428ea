/-
  Lists of entries, plainly; and as the walks read them: slices of entries, entries in a row of the call's own.
  What own answers: the entry with bytes of its own.
  Entries in a row of the call's own: their cells, one behind the other.
  What Copy answers.
-/
import Derived.Test.YtajcabfeabbknaaGreatDoorBas
namespace Go.Proofs.YtajcabfeabbknaaGreatDoor
open Go.RowKit

/-- An entry: its path, whether it is a directory, its bytes. -/
structure En where
  p : ByteArray
  d : Bool
  z : List Int
/-- The empty entry. -/
def e0 : En := ⟨⟨#[]⟩, false, []⟩
/-- The entry at a place. -/
abbrev atE (l : List En) (i : Nat) : En := l.getD i e0
theorem atE_eq (l : List En) (i : Nat) (h : i < l.length) : atE l i = l[i] := by simp [atE, List.getD, h]
theorem atE_mem (l : List En) (i : Nat) (h : i < l.length) : atE l i ∈ l := by rw [atE_eq l i h]; exact List.getElem_mem h
theorem atE_take (l : List En) (n i : Nat) (h : i < n) : atE (l.take n) i = atE l i := by
  simp [atE, List.getD, h]
theorem atE_drop (l : List En) (n i : Nat) : atE (l.drop n) i = atE l (n + i) := by
  simp [atE, List.getD, List.getElem?_drop]
/-- How many bytes there are. -/
def siz (l : List En) : Nat := (l.map fun y => y.z.length).sum
/-- Whether two entries, or lists, are the same. -/
def samE (x y : En) : Bool := decide (x.p = y.p) && decide (x.d = y.d) && decide (x.z = y.z)
def sam (l m : List En) : Bool := decide (l.length = m.length) && (List.range l.length).all fun i => samE (atE l i) (atE m i)
theorem samE_iff (x y : En) : samE x y = true ↔ x = y := by
  cases x; cases y
  simp [samE]
  constructor
  · rintro ⟨⟨a, b⟩, c⟩; exact ⟨a, b, c⟩
  · rintro ⟨a, b, c⟩; exact ⟨⟨a, b⟩, c⟩
theorem sam_iff (l m : List En) : sam l m = true ↔ l = m := by
  unfold sam
  rw [Bool.and_eq_true, decide_eq_true_eq, List.all_eq_true]
  constructor
  · rintro ⟨h1, h2⟩
    refine List.ext_getElem h1 fun i a b => ?_
    have := (samE_iff _ _).1 (h2 i (List.mem_range.2 a))
    rwa [atE_eq l i a, atE_eq m i b] at this
  · rintro rfl
    exact ⟨rfl, fun i _ => (samE_iff _ _).2 rfl⟩
/-- A search's answer: the first place. -/
theorem findIdx_of (l : List En) (f : En → Bool) (j : Nat) (hj : j < l.length) (h1 : ∀ k, k < j → f (atE l k) = false) (h2 : f (atE l j) = true) : l.findIdx f = j := by
  rw [List.findIdx_eq hj]
  refine ⟨by rw [← atE_eq l j hj]; exact h2, fun k hk => ?_⟩
  have := h1 k hk
  rwa [atE_eq l k (by omega)] at this
theorem findIdx_none (l : List En) (f : En → Bool) (h1 : ∀ k, k < l.length → f (atE l k) = false) : l.findIdx f = l.length := by
  rw [List.findIdx_eq_length]
  intro x hx
  obtain ⟨k, hk, rfl⟩ := List.getElem_of_mem hx
  have := h1 k hk
  rwa [atE_eq l k hk] at this
theorem findIdx_spec (l : List En) (f : En → Bool) : l.findIdx f ≤ l.length ∧ (∀ k, k < l.findIdx f → f (atE l k) = false) ∧ (l.findIdx f < l.length → f (atE l (l.findIdx f)) = true) := by
  refine ⟨List.findIdx_le_length, fun k hk => ?_, fun h => ?_⟩
  · have hl : k < l.length := by have := @List.findIdx_le_length En f l; omega
    rw [atE_eq l k hl]
    have := List.not_of_lt_findIdx hk
    simpa using this
  · rw [atE_eq l _ h]
    exact List.findIdx_getElem

/-- A value that is a slice of the entries l; U: the values of their Data. -/
def ESU (w : World) (v : Value) (l : List En) (U : Nat → Value) : Prop :=
  ∃ a c, v = .slice a l.length c ∧ l.length ≤ c ∧ c ≤ maxLen ∧ (a = none → c = 0) ∧ (l = [] ∨ ∃ b off, a = some ⟨b, off, none⟩ ∧ ∀ i, i < l.length →
    w.cell? ⟨b, off + i * 3, none⟩ = some (.string (atE l i).p) ∧ w.cell? ⟨b, off + i * 3 + 1, none⟩ = some (.bool (atE l i).d) ∧ w.cell? ⟨b, off + i * 3 + 2, none⟩ = some (U i) ∧ Sl w (U i) (atE l i).z)
def ES (w : World) (v : Value) (l : List En) : Prop := ∃ U, ESU w v l U
theorem ESU.kept {w w' : World} {v : Value} {l : List En} {U : Nat → Value} (h : ESU w v l U) (hb : Below w.heap.size w w') : ESU w' v l U := by
  obtain ⟨a, c, h1, h2, h3, h4, h5⟩ := h
  refine ⟨a, c, h1, h2, h3, h4, ?_⟩
  rcases h5 with h5 | ⟨b, off, h6, h7⟩
  · exact .inl h5
  · refine .inr ⟨b, off, h6, fun i hi => ?_⟩
    obtain ⟨q1, q2, q3, q4⟩ := h7 i hi
    exact ⟨(hb.cell (World.block_lt_of_cell? _ _ q1)).trans q1, (hb.cell (World.block_lt_of_cell? _ _ q2)).trans q2, (hb.cell (World.block_lt_of_cell? _ _ q3)).trans q3, q4.kept hb⟩
theorem ES.kept {w w' : World} {v : Value} {l : List En} (h : ES w v l) (hb : Below w.heap.size w w') : ES w' v l := by
  obtain ⟨U, h⟩ := h
  exact ⟨U, h.kept hb⟩
theorem ES.shape {w : World} {v : Value} {l : List En} (h : ES w v l) : ∃ a c, v = .slice a l.length c ∧ l.length ≤ c ∧ c ≤ maxLen ∧ (a = none → c = 0) := by
  obtain ⟨U, a, c, h1, h2, h3, h4, _⟩ := h
  exact ⟨a, c, h1, h2, h3, h4⟩
theorem ES.nil (w : World) : ES w (.slice none 0 0) [] := ⟨fun _ => .slice none 0 0, none, 0, rfl, Nat.le_refl _, by unfold maxLen; omega, fun _ => rfl, .inl rfl⟩
/-- An entry's cells. -/
theorem ES.at {w : World} {a : Option Addr} {n c : Nat} {l : List En} (h : ES w (.slice a n c) l) (i : Nat) (hi : i < l.length) :
    ∃ b off ua un uc, a = some ⟨b, off, none⟩ ∧ w.cell? ⟨b, off + i * 3, none⟩ = some (.string (atE l i).p) ∧ w.cell? ⟨b, off + i * 3 + 1, none⟩ = some (.bool (atE l i).d) ∧
      w.cell? ⟨b, off + i * 3 + 2, none⟩ = some (.slice ua un uc) ∧ un = (atE l i).z.length ∧ Sl w (.slice ua un uc) (atE l i).z := by
  obtain ⟨U, a', c', h1, h2, h3, h4, h5⟩ := h
  cases h1
  rcases h5 with h5 | ⟨b, off, h6, h7⟩
  · subst h5; simp at hi
  · obtain ⟨q1, q2, q3, q4⟩ := h7 i hi
    obtain ⟨ua, uc, e, r⟩ := q4
    rw [e] at q3
    exact ⟨b, off, ua, _, uc, h6, q1, q2, q3, rfl, ⟨ua, uc, rfl, r⟩⟩
/-- The first of them. -/
theorem ES.take {w : World} {a : Option Addr} {n c : Nat} {l : List En} (h : ES w (.slice a n c) l) (m : Nat) (hm : m ≤ n) : ES w (.slice a m c) (l.take m) := by
  obtain ⟨U, a', c', h1, h2, h3, h4, h5⟩ := h
  cases h1
  have hl : (l.take m).length = m := by rw [List.length_take]; omega
  refine ⟨U, a, c, by rw [hl], by omega, h3, h4, ?_⟩
  rcases h5 with h5 | ⟨b, off, h6, h7⟩
  · subst h5; exact .inl (by simp)
  · refine .inr ⟨b, off, h6, fun i hi => ?_⟩
    rw [hl] at hi
    rw [atE_take l m i hi]
    exact h7 i (by omega)
/-- How many, and how long, the walks take them to be. -/
def Lt (l : List En) : Prop := l.length ≤ 100 ∧ ∀ x ∈ l, x.p.size ≤ 1000 ∧ x.z.length ≤ 100000
theorem Lt.at {l : List En} (h : Lt l) (i : Nat) : (atE l i).p.size ≤ 1000 ∧ (atE l i).z.length ≤ 100000 := by
  by_cases hi : i < l.length
  · exact h.2 _ (atE_mem l i hi)
  · have e : atE l i = e0 := by simp [atE, List.getD, List.getElem?_eq_none (show l.length ≤ i by omega)]
    rw [e]
    decide
theorem Lt.take {l : List En} (h : Lt l) (m : Nat) : Lt (l.take m) := ⟨by rw [List.length_take]; have := h.1; omega, fun x hx => h.2 x (List.mem_of_mem_take hx)⟩
end Go.Proofs.YtajcabfeabbknaaGreatDoor
namespace Go.Proofs.YtajcabfeabbknaaGreatDoor
open Go.RowKit

/-- A value that is an entry. -/
def EV (w : World) (v : Value) (x : En) : Prop := ∃ ua un uc, v = .agg #[.string x.p, .bool x.d, .slice ua un uc] ∧ Sl w (.slice ua un uc) x.z
theorem EV.kept {w w' : World} {v : Value} {x : En} (h : EV w v x) (hb : Below w.heap.size w w') : EV w' v x := by
  obtain ⟨ua, un, uc, h1, h2⟩ := h
  exact ⟨ua, un, uc, h1, h2.kept hb⟩
theorem own_shape {w : World} {B n : Nat} {e : TypeId} {s : Nat} {v : Value} {xs : List Value} (h : w.ownsRow B e s v n xs) : ∃ a c, v = .slice a n c := by
  obtain ⟨h1, h2⟩ := h
  rcases h2 with ⟨rfl, h2⟩ | ⟨g, cap, cur, hv, _⟩
  · exact ⟨none, 0, by rw [h2]⟩
  · exact ⟨_, cap, hv⟩

set_option maxHeartbeats 1000000 in
theorem joinB_any (u : Value) (Z : List Int) (w : World) (g : Nat) (hc : w.cell? ⟨g, 0, none⟩ = some u) (hu : Sl w u Z) (hb : Z.length ≤ 100000) :
    Calls Tryz.prog 81 #[.slice (some ⟨g, 0, none⟩) 1 1] w fun e w' => ∃ v, e = .returned v ∧ w'.ownsRow w.heap.size 5 1 v Z.length (Z.map (Value.int .u8)) ∧ Below w.heap.size w w' := by
  have HU : Hid (Sl w u Z) := hu
  have HZ : Hid (Z.length ≤ 100000) := hb
  have o0 : Hid (w.ownsRow w.heap.size 5 1 (.slice none 0 0) 0 []) := World.ownsRow_nil _ _ _ _
  clear hu hb
  go_enter Tryz.func81, Tryz.ntmps81
  go_wp2
  refine wp_loop_rounds 2 ?_
  rw [rounds_succ]
  go_wp2_with (at_builtin; refine wpList_append_sl rfl _ _ rfl w.heap.size _ 0 [] rfl o0.out u Z rfl HU.out (by have := HZ.out; omega) (Nat.le_refl _) (Hid.out ?_))
  unfold Hid
  intro v' w1 o1 g1
  have O1 : Hid (w1.ownsRow w.heap.size 5 1 v' Z.length (Z.map (Value.int .u8))) := o1
  have B1 : Hid (Below w.heap.size w w1) := (Below.refl _ _).grown g1 (Nat.le_refl _) (own_base o0.out)
  clear o1 g1 o0
  go_wp2
  rw [rounds_succ]
  go_wp2
  go_ret
  exact ⟨_, rfl, O1.out, B1.out⟩
/-- The three cells of a block. -/
theorem trio {w : World} {b : Nat} {x y z : Value} {t : TypeId} (h : w.heap[b]? = some (.cells #[x, y, z] t (0, 0))) : w.cell? ⟨b, 0, none⟩ = some x ∧ w.cell? ⟨b, 1, none⟩ = some y ∧ w.cell? ⟨b, 2, none⟩ = some z ∧
    w.frozen? ⟨b, 0, none⟩ = false ∧ w.frozen? ⟨b, 1, none⟩ = false ∧ w.frozen? ⟨b, 2, none⟩ = false := by
  refine ⟨?_, ?_, ?_, ?_, ?_, ?_⟩ <;> simp [World.cell?, World.frozen?, h]
set_option maxHeartbeats 1000000 in
theorem own_any (v : Value) (x : En) (w : World) (h : EV w v x) (hb : x.z.length ≤ 100000) :
    Calls Tryz.prog 58 #[v] w fun e w' => ∃ u, e = .returned (.agg #[.string x.p, .bool x.d, u]) ∧ w'.ownsRow w.heap.size 5 1 u x.z.length (x.z.map (Value.int .u8)) ∧ Below w.heap.size w w' := by
  obtain ⟨ua, un, uc, rfl, hs⟩ := h
  have HC : Hid (∀ (W : World) (g : Nat), Below w.heap.size w W → W.cell? ⟨g, 0, none⟩ = some (.slice ua un uc) → Calls Tryz.prog 81 #[.slice (some ⟨g, 0, none⟩) 1 1] W fun e w' => ∃ v, e = .returned v ∧ w'.ownsRow W.heap.size 5 1 v x.z.length (x.z.map (Value.int .u8)) ∧ Below W.heap.size W w') := fun W g hb2 hc => joinB_any _ _ W g hc (hs.kept hb2) hb
  generalize x.p = pp at *
  generalize x.d = dd at *
  clear hs hb
  generalize x.z.length = nz at *
  go_enter Tryz.func58, Tryz.ntmps58
  obtain ⟨W3, hW3⟩ : ∃ W3, W3 = ((w.alloc (.cells #[.string pp, .bool dd, .slice ua un uc] 46)).alloc (.cells #[.string ⟨#[]⟩, .bool false, .slice none 0 0] 46)).alloc (.cells #[.slice ua un uc] 44) := ⟨_, rfl⟩
  have b3 : Below w.heap.size w W3 := by rw [hW3]; exact (((Below.refl _ _).alloc (Nat.le_refl _) _).alloc (by simp) _).alloc (by simp; omega) _
  have B3 : Hid (Below w.heap.size w W3) := b3
  have k3 : W3.cell? ⟨w.heap.size + 1 + 1, 0, none⟩ = some (.slice ua un uc) := by rw [hW3, World.cell?_alloc_at _ _ _ _ (by simp)]; rfl
  have c := HC.out W3 _ b3 k3
  have s3 : W3.heap.size = w.heap.size + 1 + 1 + 1 := by rw [hW3]; simp
  have HA : Hid (W3.heap[w.heap.size]? = some (.cells #[.string pp, .bool dd, .slice ua un uc] 46 (0, 0))) := by
    unfold Hid
    rw [hW3, heap_alloc_old _ _ (by simp; omega), heap_alloc_old _ _ (by simp), heap_alloc_new]
  have HA2 : Hid (W3.heap[w.heap.size + 1]? = some (.cells #[.string ⟨#[]⟩, .bool false, .slice none 0 0] 46 (0, 0))) := by
    unfold Hid
    have := heap_alloc_new (w.alloc (.cells #[.string pp, .bool dd, .slice ua un uc] 46)) (.cells #[.string ⟨#[]⟩, .bool false, .slice none 0 0] 46)
    rw [hW3, heap_alloc_old _ _ (by simp)]
    simpa using this
  go_wp2_with fail
  rw [← hW3]
  clear hW3 b3 k3 HC
  refine c.mono ?_
  rintro e w4 ⟨u, rfl, o4, b4⟩
  clear c
  have X1 := trio ((b4.block _ (by omega)).trans HA.out)
  have X2 := trio ((b4.block _ (by omega)).trans HA2.out)
  obtain ⟨p0, p1, p2, f0, f1, f2⟩ := X1
  obtain ⟨r0, r1, r2, g0, g1, g2⟩ := X2
  have O4 : Hid (w4.ownsRow W3.heap.size 5 1 u nz (x.z.map (Value.int .u8))) := o4
  have B4 : Hid (Below W3.heap.size W3 w4) := b4
  have s4 := b4.size
  rw [s3] at s4
  obtain ⟨au, cu, rfl⟩ := own_shape o4
  clear o4 b4 HA HA2
  go_wp2
  refine bodyPost_ret (v := .agg #[.string pp, .bool dd, .slice au nz cu]) ?hres rfl ?_
  case hres => simp [results, Tryz.results58, go_sem, *]
  have ne : ∀ k, k < W3.heap.size → (Value.slice au nz cu).ownBlock ≠ some k := fun k hk e => by
    have := own_base O4.out k e
    omega
  refine ⟨_, rfl, ?_, ?_⟩
  · refine own_mono (base := W3.heap.size) ?_ (by omega)
    refine ownsRow_setCell_other ?_ (ne _ (show _ < W3.heap.size by rw [s3]; first | omega | (dsimp only; omega))) _
    refine ownsRow_setCell_other ?_ (ne _ (show _ < W3.heap.size by rw [s3]; first | omega | (dsimp only; omega))) _
    refine ownsRow_setCell_other ?_ (ne _ (show _ < W3.heap.size by rw [s3]; first | omega | (dsimp only; omega))) _
    refine ownsRow_setCell_other ?_ (ne _ (show _ < W3.heap.size by rw [s3]; first | omega | (dsimp only; omega))) _
    exact O4.out
  · exact ((((B3.out.trans (B4.out.mono (by omega))).setCell (Nat.le_refl _) _).setCell (Nat.le_succ _) _).setCell (Nat.le_succ _) _).setCell (Nat.le_succ _) _
end Go.Proofs.YtajcabfeabbknaaGreatDoor
namespace Go.Proofs.YtajcabfeabbknaaGreatDoor
open Go.RowKit

/-- The cell at a place of a row of entries. -/
def cellE (l : List En) (U : Nat → Value) (j : Nat) : Value := if j % 3 = 0 then .string (atE l (j / 3)).p else if j % 3 = 1 then .bool (atE l (j / 3)).d else U (j / 3)
/-- The cells of entries. -/
def flat (l : List En) (U : Nat → Value) : List Value := (List.range (l.length * 3)).map (cellE l U)
/-- The values of Data, of two lists. -/
def behU (n : Nat) (U V : Nat → Value) : Nat → Value := fun i => if i < n then U i else V (i - n)
theorem flat_len (l : List En) (U : Nat → Value) : (flat l U).length = l.length * 3 := by simp [flat]
theorem flat_get (l : List En) (U : Nat → Value) (j : Nat) : (flat l U)[j]? = if j < l.length * 3 then some (cellE l U j) else none := by
  unfold flat
  rw [List.getElem?_map]
  by_cases h : j < l.length * 3
  · rw [List.getElem?_range h, if_pos h]; rfl
  · rw [if_neg h, List.getElem?_eq_none (by simpa using h)]; rfl
theorem atE_left (l m : List En) (i : Nat) (h : i < l.length) : atE (l ++ m) i = atE l i := by simp [atE, List.getD, List.getElem?_append_left h]
theorem atE_right (l m : List En) (i : Nat) : atE (l ++ m) (l.length + i) = atE m i := by
  simp only [atE, List.getD]
  rw [List.getElem?_append_right (by omega), show l.length + i - l.length = i by omega]
theorem flat_app (l m : List En) (U V : Nat → Value) : flat l U ++ flat m V = flat (l ++ m) (behU l.length U V) := by
  apply List.ext_getElem?
  intro j
  rw [flat_get]
  by_cases h : j < l.length * 3
  · rw [List.getElem?_append_left (by rw [flat_len]; exact h), flat_get, if_pos h, if_pos (by rw [List.length_append]; omega)]
    have hd : j / 3 < l.length := by omega
    unfold cellE behU
    rw [atE_left l m _ hd, if_pos hd]
  · rw [List.getElem?_append_right (by rw [flat_len]; omega), flat_len, flat_get]
    obtain ⟨q, rfl⟩ : ∃ q, j = l.length * 3 + q := ⟨j - l.length * 3, by omega⟩
    rw [show l.length * 3 + q - l.length * 3 = q by omega]
    have e1 : (l.length * 3 + q) / 3 = l.length + q / 3 := by omega
    have e2 : (l.length * 3 + q) % 3 = q % 3 := by omega
    have e3 : (if q < m.length * 3 then some (cellE m V q) else none) = if l.length * 3 + q < (l ++ m).length * 3 then some (cellE m V q) else none := by
      rw [List.length_append]
      by_cases hq : q < m.length * 3
      · rw [if_pos hq, if_pos (by omega)]
      · rw [if_neg hq, if_neg (by omega)]
    rw [e3]
    congr 2
    unfold cellE behU
    rw [e1, e2, atE_right, if_neg (show ¬ l.length + q / 3 < l.length by omega), show l.length + q / 3 - l.length = q / 3 by omega]
theorem flat_one (x : En) (u : Value) : [Value.string x.p, .bool x.d, u] = flat [x] (fun _ => u) := by
  show _ = [cellE [x] (fun _ => u) 0, cellE [x] (fun _ => u) 1, cellE [x] (fun _ => u) 2]
  simp [cellE, atE]
/-- Entries in a row of the call's own. -/
def RE (w : World) (B : Nat) (v : Value) (l : List En) (U : Nat → Value) : Prop := w.ownsRow B 46 3 v l.length (flat l U)
theorem RE.nil (w : World) (B : Nat) (U : Nat → Value) : RE w B (.slice none 0 0) [] U := ⟨rfl, .inl ⟨rfl, rfl⟩⟩
theorem own_below {w w' : World} {B n s : Nat} {e : TypeId} {v : Value} {xs : List Value} (h : w.ownsRow B e s v n xs) (hb : Below w.heap.size w w') : w'.ownsRow B e s v n xs := by
  obtain ⟨h1, h2⟩ := h
  refine ⟨h1, ?_⟩
  rcases h2 with h2 | ⟨g, cap, cur, hv, hg, hh, r⟩
  · exact .inl h2
  · exact .inr ⟨g, cap, cur, hv, hg, (hb.block g (Array.getElem?_eq_some_iff.1 hh).1).trans hh, r⟩
theorem RE.below {w w' : World} {B : Nat} {v : Value} {l : List En} {U : Nat → Value} (h : RE w B v l U) (hb : Below w.heap.size w w') : RE w' B v l U := own_below h hb
theorem RE.es {w : World} {B : Nat} {v : Value} {l : List En} {U : Nat → Value} (h : RE w B v l U) (hs : ∀ i, i < l.length → Sl w (U i) (atE l i).z) : ES w v l := by
  have h' := h
  rcases h.2 with ⟨rfl, h2⟩ | ⟨g, cap, cur, rfl, hg, hh, hl, hm, r⟩
  · obtain rfl : l = [] := List.length_eq_zero_iff.1 h2
    exact ES.nil w
  · refine ⟨U, _, cap, rfl, hl, hm, (fun e => by cases e), .inr ⟨g, 0, rfl, fun i hi => ?_⟩⟩
    have c : ∀ j, j < l.length * 3 → w.cell? ⟨g, 0 + j, none⟩ = some (cellE l U j) := fun j hj => by
      have := h'.cells (g := g) rfl j (cellE l U j) (by rw [flat_get, if_pos hj])
      rwa [Addr.add_lit] at this
    have c0 := c (i * 3) (by omega)
    have c1 := c (i * 3 + 1) (by omega)
    have c2 := c (i * 3 + 2) (by omega)
    unfold cellE at c0 c1 c2
    rw [if_pos (by omega), show i * 3 / 3 = i by omega] at c0
    rw [if_neg (by omega), if_pos (by omega), show (i * 3 + 1) / 3 = i by omega] at c1
    rw [if_neg (by omega), if_neg (by omega), show (i * 3 + 2) / 3 = i by omega] at c2
    exact ⟨c0, by rw [Nat.add_assoc]; exact c1, by rw [Nat.add_assoc]; exact c2, hs i hi⟩
/-- Entries of the call's own, with bytes of the call's own. -/
def OE (w : World) (B : Nat) (v : Value) (l : List En) : Prop := ∃ U, RE w B v l U ∧ ∀ i, i < l.length → w.ownsRow B 5 1 (U i) (atE l i).z.length ((atE l i).z.map (Value.int .u8)) ∧ ∀ k, 0 ≤ (atE l i).z.getD k 0 ∧ (atE l i).z.getD k 0 < 256
theorem OE.nil (w : World) (B : Nat) : OE w B (.slice none 0 0) [] := ⟨fun _ => .slice none 0 0, RE.nil _ _ _, fun i hi => by simp at hi⟩
theorem OE.below {w w' : World} {B : Nat} {v : Value} {l : List En} (h : OE w B v l) (hb : Below w.heap.size w w') : OE w' B v l := by
  obtain ⟨U, h1, h2⟩ := h
  exact ⟨U, h1.below hb, fun i hi => ⟨own_below (h2 i hi).1 hb, (h2 i hi).2⟩⟩
theorem OE.es {w : World} {B : Nat} {v : Value} {l : List En} (h : OE w B v l) : ES w v l := by
  obtain ⟨U, h1, h2⟩ := h
  exact h1.es fun i hi => sl_owned (h2 i hi).1 (h2 i hi).2
theorem OE.mono {w : World} {B B' : Nat} {v : Value} {l : List En} (h : OE w B v l) (hb : B' ≤ B) : OE w B' v l := by
  obtain ⟨U, h1, h2⟩ := h
  exact ⟨U, own_mono h1 hb, fun i hi => ⟨own_mono (h2 i hi).1 hb, (h2 i hi).2⟩⟩
theorem infoE : (Tryz.prog.info? 46).map (fun i => (i.zero, i.size, i.bytes)) = some (some (.agg #[.string ByteArray.empty, .bool false, .slice none 0 0]), 3, 48) := by kernel_rfl
/-- A row of another kind stays where a row of entries grows. -/
theorem own_apart {w w' : World} {B C n m s t : Nat} {e f : TypeId} {v u : Value} {xs ys : List Value} (h : w.ownsRow B e s v n xs) (k : w.ownsRow C f t u m ys) (hef : e ≠ f) (hg : w.grownBy w' v.ownBlock) : w'.ownsRow C f t u m ys := by
  obtain ⟨k1, k2⟩ := k
  refine ⟨k1, ?_⟩
  rcases k2 with k2 | ⟨g, cap, cur, hv, hgg, hh, r⟩
  · exact .inl k2
  · refine .inr ⟨g, cap, cur, hv, hgg, ?_, r⟩
    refine (hg.block g (Array.getElem?_eq_some_iff.1 hh).1 ?_).trans hh
    intro e2
    rcases h.2 with ⟨rfl, _⟩ | ⟨g', cap', cur', rfl, _, hh', _⟩
    · cases e2
    · cases e2
      rw [hh] at hh'
      simp at hh'
      exact hef hh'.2.symm
/-- Entries laid behind. -/
theorem wpList_append_at {w : World} {ops : Array Oper} {rest : List Oper} {o : Oper} {a : Act} {Q : Exit → Act → World → Prop} (hgd : o.guard = none) (s x : Operand)
    (ho : o.op = .call { callee := .builtin .append, args := #[s, x], argTypes := #[22, 22] })
    (B : Nat) (v : Value) (l : List En) (U : Nat → Value) (hs : a.eval s = v) (hown : RE w B v l U) (y : Addr) (n : Nat) (m : List En) (V : Nat → Value) (cap : Nat) (hn : n = m.length)
    (hx : a.eval x = .slice (some y) n cap) (hc : ∀ j, j < m.length * 3 → w.cell? (y.add j) = some (cellE m V j)) (hV : ∀ i, i < m.length → (V i).oneCell' = true) (hbig : l.length + m.length ≤ 100000) (hbase : B ≤ w.heap.size)
    (h : ∀ v' w', RE w' B v' (l ++ m) (behU l.length U V) → w.grownBy w' v.ownBlock → wpList Tryz.prog ops Q rest (a.put o.dst v') w') : wpList Tryz.prog ops Q (o :: rest) a w := by
  obtain ⟨i0, hi, hz0, hz1, hz2⟩ := info_parts infoE
  subst hn
  refine wpList_append_own_wide w hgd s x 22 ho B 46 i0 (.agg #[.string ByteArray.empty, .bool false, .slice none 0 0]) 3 48 Tryz.underlying22 hi hz0 hz1 hz2 rfl (by decide) v l.length (flat l U) hs hown y m.length cap (flat m V) hx (flat_len m V) ?_ ?_ (by unfold maxLen; omega) (by omega) hbase ?_
  · intro j u hj
    rw [flat_get] at hj
    split at hj
    · rename_i hj2
      rw [hc j hj2]
      exact hj
    · cases hj
  · intro u hu
    obtain ⟨j, hj⟩ := List.getElem?_of_mem hu
    rw [flat_get] at hj
    split at hj
    · rename_i hj2
      cases hj
      unfold cellE
      split
      · rfl
      split
      · rfl
      exact hV _ (by omega)
    · cases hj
  · intro v' w' ho' hg _
    refine h v' w' ?_ hg
    unfold RE
    rw [List.length_append, ← flat_app]
    exact ho'
/-- An entry laid behind. -/
theorem wpList_append_en {w : World} {ops : Array Oper} {rest : List Oper} {o : Oper} {a : Act} {Q : Exit → Act → World → Prop} (hgd : o.guard = none) (s x : Operand)
    (ho : o.op = .call { callee := .builtin .append, args := #[s, x], argTypes := #[22, 22] })
    (B : Nat) (v : Value) (l : List En) (U : Nat → Value) (hs : a.eval s = v) (hown : RE w B v l U) (g n : Nat) (m : List En) (V : Nat → Value) (cap : Nat) (off : Nat) (hn : n = m.length)
    (hx : a.eval x = .slice (some ⟨g, off, none⟩) n cap) (hc : ∀ j, j < m.length * 3 → w.cell? ⟨g, off + j, none⟩ = some (cellE m V j)) (hV : ∀ i, i < m.length → (V i).oneCell' = true) (hbig : l.length + m.length ≤ 100000) (hbase : B ≤ w.heap.size)
    (h : ∀ v' w', RE w' B v' (l ++ m) (behU l.length U V) → w.grownBy w' v.ownBlock → wpList Tryz.prog ops Q rest (a.put o.dst v') w') : wpList Tryz.prog ops Q (o :: rest) a w :=
  wpList_append_at hgd s x ho B v l U hs hown ⟨g, off, none⟩ n m V cap hn hx (fun j hj => by rw [Addr.add_lit]; exact hc j hj) hV hbig hbase h
theorem cellE_at {w : World} {b off : Nat} {l : List En} {U : Nat → Value} (h : ∀ i, i < l.length → w.cell? ⟨b, off + i * 3, none⟩ = some (.string (atE l i).p) ∧ w.cell? ⟨b, off + i * 3 + 1, none⟩ = some (.bool (atE l i).d) ∧ w.cell? ⟨b, off + i * 3 + 2, none⟩ = some (U i)) :
    ∀ j, j < l.length * 3 → w.cell? ⟨b, off + j, none⟩ = some (cellE l U j) := fun j hj => by
  obtain ⟨h0, h1, h2⟩ := h (j / 3) (by omega)
  have hd := Nat.div_add_mod j 3
  have hm := Nat.mod_lt j (show 0 < 3 by omega)
  unfold cellE
  rcases (show j % 3 = 0 ∨ j % 3 = 1 ∨ j % 3 = 2 by omega) with e | e | e
  · rw [if_pos e, ← h0]
    congr 2
    omega
  · rw [if_neg (by omega), if_pos e, ← h1]
    congr 2
    omega
  · rw [if_neg (by omega), if_neg (by omega), ← h2]
    congr 2
    omega
theorem wpList_append_es {w : World} {ops : Array Oper} {rest : List Oper} {o : Oper} {a : Act} {Q : Exit → Act → World → Prop} (hgd : o.guard = none) (s x : Operand)
    (ho : o.op = .call { callee := .builtin .append, args := #[s, x], argTypes := #[22, 22] })
    (B : Nat) (v : Value) (l : List En) (U : Nat → Value) (hs : a.eval s = v) (hown : RE w B v l U) (src : Value) (m : List En) (V : Nat → Value) (hx : a.eval x = src) (hsl : ESU w src m V) (hbig : l.length + m.length ≤ 100000) (hbase : B ≤ w.heap.size)
    (h : ∀ v' w', RE w' B v' (l ++ m) (behU l.length U V) → w.grownBy w' v.ownBlock → wpList Tryz.prog ops Q rest (a.put o.dst v') w') : wpList Tryz.prog ops Q (o :: rest) a w := by
  obtain ⟨ad, cap, rfl, h1, h2, h3, h4⟩ := hsl
  cases ad with
  | none =>
    obtain rfl := h3 rfl
    obtain rfl : m = [] := List.length_eq_zero_iff.1 (by omega)
    obtain ⟨i0, hi, hz0, hz1, hz2⟩ := info_parts infoE
    refine wpList_append_own_none hgd s x 22 ho B 46 i0 3 Tryz.underlying22 hi v l.length (flat l U) hs hown hx ?_
    refine h v w ?_ ⟨rfl, rfl, rfl, Nat.le_refl _, fun _ _ _ => rfl⟩
    have e := flat_app l [] U V
    unfold RE at hown ⊢
    rw [List.length_append, ← e]
    simpa [flat] using hown
  | some y =>
    refine wpList_append_at hgd s x ho B v l U hs hown y m.length m V cap rfl hx ?_ ?_ hbig hbase h
    · intro j hj
      rcases h4 with rfl | ⟨b, off, e, hc⟩
      · simp at hj
      · cases e
        rw [Addr.add_lit]
        exact cellE_at (fun i hi => ⟨(hc i hi).1, (hc i hi).2.1, (hc i hi).2.2.1⟩) j hj
    · intro i hi
      rcases h4 with rfl | ⟨b, off, e, hc⟩
      · simp at hi
      · obtain ⟨a, c, e2, _⟩ := (hc i hi).2.2.2
        rw [e2]
        rfl
end Go.Proofs.YtajcabfeabbknaaGreatDoor
namespace Go.Proofs.YtajcabfeabbknaaGreatDoor
open Go.RowKit

theorem sl_one {w : World} {v : Value} {xs : List Int} (h : Sl w v xs) : v.oneCell' = true := by
  obtain ⟨a, c, rfl, _⟩ := h
  rfl
theorem take_at (l : List En) (j : Nat) (h : j < l.length) : l.take (j + 1) = l.take j ++ [atE l j] := by
  rw [List.take_add_one, List.getElem?_eq_getElem h, atE_eq l j h]
  rfl
/-- What is laid behind, where an entry with bytes of the call's own was built. -/
theorem OE.step {w3 w4 : World} {B : Nat} {v v4 : Value} {L : List En} {U : Nat → Value} {x : En} {u : Value} (ho : ∀ i, i < L.length → w3.ownsRow B 5 1 (U i) (atE L i).z.length ((atE L i).z.map (Value.int .u8)) ∧ ∀ k, 0 ≤ (atE L i).z.getD k 0 ∧ (atE L i).z.getD k 0 < 256)
    (hr : RE w3 B v L U) (hu : w3.ownsRow B 5 1 u x.z.length (x.z.map (Value.int .u8))) (hx : ∀ k, 0 ≤ x.z.getD k 0 ∧ x.z.getD k 0 < 256)
    (h4 : RE w4 B v4 (L ++ [x]) (behU L.length U (fun _ => u))) (hg : w3.grownBy w4 v.ownBlock) : OE w4 B v4 (L ++ [x]) := by
  refine ⟨_, h4, fun i hi => ?_⟩
  rw [List.length_append, List.length_singleton] at hi
  rcases Nat.lt_or_ge i L.length with h | h
  · rw [atE_left L [x] i h]
    unfold behU
    rw [if_pos h]
    exact ⟨own_apart hr (ho i h).1 (by decide) hg, (ho i h).2⟩
  · obtain rfl : i = L.length := by omega
    have e := atE_right L [x] 0
    rw [Nat.add_zero] at e
    rw [e]
    unfold behU
    rw [if_neg (by omega)]
    exact ⟨own_apart hr hu (by decide) hg, hx⟩

set_option maxHeartbeats 1000000 in
theorem copy_any (v : Value) (l : List En) (w : World) (h : ES w v l) (hl : Lt l) :
    Calls Tryz.prog 25 #[v] w fun e w' => ∃ v', e = .returned v' ∧ OE w' w.heap.size v' l ∧ Below w.heap.size w w' := by
  obtain ⟨a, c, rfl, h2, h3, h4⟩ := h.shape
  have HS : Hid (ES w (.slice a l.length c) l) := h
  have HL : Hid (Lt l) := hl
  have hn := hl.1
  obtain ⟨n, hn'⟩ : ∃ n, n = l.length := ⟨_, rfl⟩
  have HN : Hid (n = l.length) := hn'
  rw [← hn'] at HS h2 hn ⊢
  clear h hl h3 h4 hn'
  go_enter Tryz.func25, Tryz.ntmps25
  go_wp2
  go_loopw [3, 8] (fun s q wr => ∃ j : Nat, j ≤ n ∧ q = .int .i64 j ∧ OE wr w.heap.size s (l.take j) ∧ Below w.heap.size w wr) (fun _ q _ => n - (intOf q).toNat)
  case atStart => exact ⟨0, by omega, rfl, OE.nil _ _, Below.refl _ _⟩
  case round =>
    obtain ⟨j, hj, rfl, oe, bel⟩ := hrel
    have HB : Hid (Below w.heap.size w wr) := bel
    have HO : Hid (OE wr w.heap.size u3 (l.take j)) := oe
    obtain ⟨va, vc, rfl, hv, _, _⟩ := oe.es.shape
    have hlj : (l.take j).length = j := by rw [List.length_take, ← HN.out]; omega
    rw [hlj] at HO ⊢
    clear bel hv oe
    by_cases hlt : j < n
    · have lt2 : (j : Int) < (n : Int) := by omega
      obtain ⟨b, off, ua, un, uc, rfl, c1, c2, c3, hun, hsl⟩ := (HS.out.kept HB.out).at j (by rw [← HN.out]; exact hlt)
      have q1 : IntKind.i64.wrap ((j : Int) + 1) = ((j + 1 : Nat) : Int) := by simp [IntKind.wrap, IntKind.bits, IntKind.signed]; omega
      have HT : Hid (l.take (j + 1) = l.take j ++ [atE l j]) := take_at l j (by rw [← HN.out]; exact hlt)
      have HX : Hid (∀ k, 0 ≤ (atE l j).z.getD k 0 ∧ (atE l j).z.getD k 0 < 256) := hsl.bytes
      obtain ⟨W1, hW1⟩ : ∃ W1, W1 = wr.alloc (.cells #[.string (atE l j).p, .bool (atE l j).d, .slice ua un uc] 46) := ⟨_, rfl⟩
      have b1 : Below wr.heap.size wr W1 := by rw [hW1]; exact (Below.refl _ _).alloc (Nat.le_refl _) _
      have CO := own_any (.agg #[.string (atE l j).p, .bool (atE l j).d, .slice ua un uc]) (atE l j) W1 ⟨ua, un, uc, rfl, hsl.kept b1⟩ (HL.out.at j).2
      have B1 : Hid (Below w.heap.size w W1) := HB.out.trans (b1.mono HB.out.size)
      have O1 : Hid (OE W1 w.heap.size (.slice va j vc) (l.take j)) := HO.out.below b1
      clear b1 hun hsl HO
      generalize hx : atE l j = x at *
      generalize l.take j = L at *
      obtain ⟨U, RU, OU⟩ := O1.out
      have R1 : Hid (RE W1 w.heap.size (.slice va j vc) L U) := RU
      have Q1 : Hid (∀ i, i < L.length → W1.ownsRow w.heap.size 5 1 (U i) (atE L i).z.length ((atE L i).z.map (Value.int .u8)) ∧ ∀ k, 0 ≤ (atE L i).z.getD k 0 ∧ (atE L i).z.getD k 0 < 256) := OU
      have HJ : Hid (L.length = j) := hlj
      clear RU OU O1 hlj
      go_wp2_with fail
      rw [← hW1]
      clear hW1
      refine CO.mono ?_
      rintro e w2 ⟨u, rfl, o2, b2⟩
      clear CO
      have hs2 := o2
      obtain ⟨au, cu, rfl⟩ := own_shape o2
      obtain ⟨W3, hW3⟩ : ∃ W3, W3 = w2.alloc (.cells #[.string x.p, .bool x.d, .slice au x.z.length cu] 46) := ⟨_, rfl⟩
      have b3 : Below w2.heap.size w2 W3 := by rw [hW3]; exact (Below.refl _ _).alloc (Nat.le_refl _) _
      have b13 : Below W1.heap.size W1 W3 := b2.trans (b3.mono b2.size)
      have B3 : Hid (Below w.heap.size w W3) := B1.out.trans (b13.mono B1.out.size)
      have R3 : Hid (RE W3 w.heap.size (.slice va j vc) L U) := R1.out.below b13
      have Q3 : Hid (∀ i, i < L.length → W3.ownsRow w.heap.size 5 1 (U i) (atE L i).z.length ((atE L i).z.map (Value.int .u8)) ∧ ∀ k, 0 ≤ (atE L i).z.getD k 0 ∧ (atE L i).z.getD k 0 < 256) := fun i hi => ⟨own_below (Q1.out i hi).1 b13, (Q1.out i hi).2⟩
      have O3 : Hid (W3.ownsRow w.heap.size 5 1 (.slice au x.z.length cu) x.z.length (x.z.map (Value.int .u8))) := own_mono (own_below o2 b3) B1.out.size
      have K3 : Hid (∀ j, j < [x].length * 3 → W3.cell? ⟨w2.heap.size, 0 + j, none⟩ = some (cellE [x] (fun _ => .slice au x.z.length cu) j)) := fun j hj => by
        have e := flat_get [x] (fun _ => Value.slice au x.z.length cu) j
        rw [if_pos hj, ← flat_one] at e
        rw [hW3, Nat.zero_add, World.cell?_alloc_at _ _ _ _ rfl, ← e]
        simp
      clear o2 hs2 b2 b3 b13 R1 Q1
      subst hW3
      obtain ⟨nz, hnz⟩ : ∃ nz, nz = x.z.length := ⟨_, rfl⟩
      have HNZ : Hid (nz = x.z.length) := hnz
      rw [← hnz] at O3 K3 R3 Q3 B3 ⊢
      clear hnz
      go_wp2_with (at_builtin; refine wpList_append_en rfl _ _ rfl w.heap.size _ L U rfl R3.out w2.heap.size 1 [x] (fun _ => .slice au nz cu) 1 0 rfl rfl K3.out (fun _ _ => rfl) (by rw [HJ.out]; simp; omega) B3.out.size (Hid.out ?_))
      unfold Hid
      intro v4 w4 r4 g4
      have B4 : Hid (Below w.heap.size w w4) := B3.out.grown g4 B3.out.size (own_base R3.out)
      have O4 : Hid (OE w4 w.heap.size v4 (l.take (j + 1))) := by
        unfold Hid
        rw [HT.out]
        have hz := HNZ.out
        subst hz
        exact OE.step Q3.out R3.out O3.out HX.out r4 g4
      clear r4 g4 R3 Q3 O3 K3
      go_wp2
      go_roundw
      case rel => exact ⟨j + 1, by omega, by go_num, O4.out, B4.out⟩
      case measure => simp [intOf]; omega
    · obtain rfl : j = n := by omega
      have HR : Hid (OE wr w.heap.size (.slice va j vc) l) := by
        have h1 := HO.out
        have h2 : l.take j = l := by rw [HN.out, List.take_length]
        rw [h2] at h1
        exact h1
      go_wp2
      go_ret
      exact ⟨_, rfl, HR.out, HB.out⟩
end Go.Proofs.YtajcabfeabbknaaGreatDoor
