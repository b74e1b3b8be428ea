/-
  Parts in rows of the call's own: a list of texts, each in a row of the call's own; laid behind; joined.
-/
import Derived.Test.YtfccjeepmhgckaaDoorXw
import Derived.Test.YtfccjeepmhgckaaDoorFiNums
namespace Go.Proofs.YtfccjeepmhgckaaDoor
open Go.RowKit
set_option maxRecDepth 100000

theorem fsl {w : World} {v : Value} {xs : List Int} (h : Sl w v xs) : Fi.Sl w v xs := h
theorem slf {w : World} {v : Value} {xs : List Int} (h : Fi.Sl w v xs) : Sl w v xs := h

/-- Bytes in a row of the call's own. -/
def Ow (w : World) (B : Nat) (v : Value) (X : List Int) : Prop := w.ownsRow B 5 1 v X.length (X.map (Value.int .u8)) ∧ ∀ k, 0 ≤ X.getD k 0 ∧ X.getD k 0 < 256
theorem Ow.sl {w : World} {B : Nat} {v : Value} {X : List Int} (h : Ow w B v X) : Sl w v X := sl_owned h.1 h.2
theorem Ow.below {w w' : World} {B : Nat} {v : Value} {X : List Int} (h : Ow w B v X) (hb : Below w.heap.size w w') : Ow w' B v X := ⟨own_below h.1 hb, h.2⟩
theorem Ow.mono {w : World} {B B' : Nat} {v : Value} {X : List Int} (h : Ow w B v X) (hb : B' ≤ B) : Ow w B' v X := ⟨own_mono h.1 hb, h.2⟩
theorem Ow.shape {w : World} {B : Nat} {v : Value} {X : List Int} (h : Ow w B v X) : ∃ a c, v = .slice a X.length c := own_shape h.1
/-- A list of texts. -/
def LP (w : World) (B : Nat) (v : Value) (ZZ : List (List Int)) : Prop :=
  ∃ V : List Value, w.ownsRow B 26 1 v ZZ.length V ∧ ∀ i, i < ZZ.length → ∃ u, V[i]? = some u ∧ Ow w B u (ZZ.getD i [])
theorem LP.below {w w' : World} {B : Nat} {v : Value} {ZZ : List (List Int)} (h : LP w B v ZZ) (hb : Below w.heap.size w w') : LP w' B v ZZ := by
  obtain ⟨V, h1, h2⟩ := h
  refine ⟨V, own_below h1 hb, fun i hi => ?_⟩
  obtain ⟨u, h3, h4⟩ := h2 i hi
  exact ⟨u, h3, h4.below hb⟩
theorem LP.parts {w : World} {B : Nat} {v : Value} {ZZ : List (List Int)} (h : LP w B v ZZ) (hm : ZZ.length ≤ 100000) : ∃ p c, v = .slice p ZZ.length c ∧ Fi.Parts w p ZZ := by
  obtain ⟨V, ho, h⟩ := h
  have ho' := ho
  rcases ho.2 with ⟨rfl, h0⟩ | ⟨g, cap, cur, rfl, _⟩
  · exact ⟨none, 0, by rw [h0], by omega, .inl (List.length_eq_zero_iff.1 h0)⟩
  · refine ⟨_, cap, rfl, by omega, .inr ⟨g, 0, rfl, fun i hi => ?_⟩⟩
    obtain ⟨u, hu, sl⟩ := h i hi
    refine ⟨u, ?_, fsl sl.sl⟩
    have := ho'.cells (g := g) rfl i u hu
    rwa [Addr.add_lit] at this
theorem LP.one {w : World} {B : Nat} {u : Value} {X : List Int} (h : Ow w B u X) (hB : B ≤ w.heap.size) : LP (w.alloc (.cells #[u] 26)) B (.slice (some ⟨w.heap.size, 0, none⟩) 1 1) [X] := by
  refine ⟨[u], ⟨rfl, .inr ⟨w.heap.size, 1, #[u], rfl, hB, heap_alloc_new _ _, Nat.le_refl _, by unfold maxLen; omega, rfl, rfl⟩⟩, fun i hi => ?_⟩
  obtain rfl : i = 0 := by simpa using hi
  exact ⟨u, rfl, h.below (al_below _ _)⟩
theorem infoB : (Tryd.prog.info? 26).map (fun i => (i.zero, i.size, i.bytes)) = some (some (.slice none 0 0), 1, 24) := by kernel_rfl
/-- A text laid behind. -/
theorem wpList_append_lp {w : World} {ops : Array Oper} {rest : List Oper} {o : Oper} {a : Act} {Q : Exit → Act → World → Prop} (hgd : o.guard = none) (s x : Operand)
    (ho : o.op = .call { callee := .builtin .append, args := #[s, x], argTypes := #[22, 22] })
    (B : Nat) (v : Value) (ZZ : List (List Int)) (hs : a.eval s = v) (hown : LP w B v ZZ) (g : Nat) (u : Value) (X : List Int) (cap : Nat) (hX : Ow w B u X)
    (hx : a.eval x = .slice (some ⟨g, 0, none⟩) 1 cap) (hc : w.cell? ⟨g, 0, none⟩ = some u) (hbig : ZZ.length ≤ 100000) (hbase : B ≤ w.heap.size)
    (h : ∀ v' w', LP w' B v' (ZZ ++ [X]) → Below B w w' → wpList Tryd.prog ops Q rest (a.put o.dst v') w') : wpList Tryd.prog ops Q (o :: rest) a w := by
  obtain ⟨i0, hi, hz0, hz1, hz2⟩ := info_parts infoB
  obtain ⟨V, hV, hall⟩ := hown
  refine wpList_append_own_wide w hgd s x 22 ho B 26 i0 (.slice none 0 0) 1 24 Tryd.underlying22 hi hz0 hz1 hz2 rfl (by decide) v ZZ.length V hs hV ⟨g, 0, none⟩ 1 cap [u] hx rfl ?_ ?_ (by unfold maxLen; omega) (by omega) hbase ?_
  · intro j z hj
    rw [Addr.add_lit]
    cases j with
    | zero => simp at hj; subst hj; exact hc
    | succ j => simp at hj
  · intro z hz
    simp at hz
    subst hz
    obtain ⟨_, _, rfl⟩ := hX.shape
    rfl
  · intro v' w' ho' hg _
    have ap : ∀ {y : Value} {Y : List Int}, Ow w B y Y → Ow w' B y Y := fun hy => ⟨own_apart hV hy.1 (by decide) hg, hy.2⟩
    have hVl : V.length = ZZ.length := by have := hV.1; simpa using this
    refine h v' w' ⟨V ++ [u], by rw [List.length_append]; exact ho', fun i hi => ?_⟩ ((Below.refl B w).grown hg hbase (own_base hV))
    rw [List.length_append, List.length_singleton] at hi
    rcases Nat.lt_or_ge i ZZ.length with h' | h'
    · obtain ⟨z, hz, oz⟩ := hall i h'
      refine ⟨z, by rw [List.getElem?_append_left (by omega)]; exact hz, ?_⟩
      have e : (ZZ ++ [X]).getD i [] = ZZ.getD i [] := by simp [List.getD, List.getElem?_append_left h']
      rw [e]
      exact ap oz
    · obtain rfl : i = ZZ.length := by omega
      refine ⟨u, by rw [List.getElem?_append_right (by omega), hVl]; simp, ?_⟩
      have e : (ZZ ++ [X]).getD ZZ.length [] = X := by simp [List.getD]
      rw [e]
      exact ap hX
/-- Values that are slices, in a row, as parts. -/
theorem partsL {w : World} (us : List Value) (XX : List (List Int)) (hl : XX.length ≤ 100000) (h : ∀ i, i < XX.length → ∃ u, us[i]? = some u ∧ Sl w u (XX.getD i [])) : Fi.Parts (w.alloc (.cells us.toArray 26)) (some ⟨w.heap.size, 0, none⟩) XX := by
  refine ⟨by omega, .inr ⟨w.heap.size, 0, rfl, fun i hi => ?_⟩⟩
  obtain ⟨u, hu, su⟩ := h i hi
  refine ⟨u, ?_, fsl (su.kept (al_below _ _))⟩
  rw [World.cell?_alloc_at _ _ _ _ rfl]
  simpa using hu
theorem fparts_kept {w w' : World} {p : Option Addr} {ZZ : List (List Int)} (h : Fi.Parts w p ZZ) (hb : Below w.heap.size w w') : Fi.Parts w' p ZZ := by
  refine ⟨h.1, ?_⟩
  rcases h.2 with h | ⟨b, off, e, h⟩
  · exact .inl h
  · refine .inr ⟨b, off, e, fun i hi => ?_⟩
    obtain ⟨v, h1, h2⟩ := h i hi
    exact ⟨v, (hb.cell (World.block_lt_of_cell? _ _ h1)).trans h1, h2.kept hb⟩
theorem parts_bytes {w : World} {p : Option Addr} {ZZ : List (List Int)} (h : Fi.Parts w p ZZ) : ∀ i, 0 ≤ ZZ.flatten.getD i 0 ∧ ZZ.flatten.getD i 0 < 256 := by
  refine bytes_flat ZZ fun X hX => ?_
  obtain ⟨i, hi, rfl⟩ := List.getElem_of_mem hX
  rcases h.2 with h | ⟨b, off, e, h⟩
  · subst h; simp at hi
  · obtain ⟨v, _, s⟩ := h i hi
    have := (slf s).bytes
    simpa [List.getD, List.getElem?_eq_getElem hi] using this
theorem fjoin_any (p : Option Addr) (kc : Nat) (ZZ : List (List Int)) (w : World) (hP : Fi.Parts w p ZZ) (hbig : ZZ.flatten.length ≤ 200000000000000) :
    Calls Tryd.prog 24 #[.slice p ZZ.length kc] w fun r w' => ∃ v, r = .returned v ∧ Ow w' w.heap.size v ZZ.flatten ∧ Below w.heap.size w w' :=
  (Fi.join_any p kc ZZ w hP hbig).mono fun _ _ ⟨v, e1, o, b⟩ => ⟨v, e1, ⟨o, parts_bytes hP⟩, b⟩
theorem wp_append_owx {w : World} {o : Oper} {a : Act} {KK : Act → World → Prop} {Q : Exit → Act → World → Prop} (s x : Operand)
    (ho : o.op = .call { callee := .builtin .append, args := #[s, x], argTypes := #[26, 26] })
    (B : Nat) (v : Value) (X : List Int) (hs : a.eval s = v) (hown : Ow w B v X)
    (src : Value) (Z : List Int) (hx : a.eval x = src) (hsl : Sl w src Z) (hbig : X.length + Z.length ≤ 200000000000000) (hbase : B ≤ w.heap.size)
    (h : ∀ v' w', Ow w' B v' (X ++ Z) → Below B w w' → (∀ (i : Nat) (cs : Array Value) (t : TypeId) (fr : Nat × Nat), t ≠ 5 → w.heap[i]? = some (Obj.cells cs t fr) → w'.heap[i]? = some (Obj.cells cs t fr)) → KK (a.put o.dst v') w') : o.wp Tryd.prog a w KK Q := by
  have hzb := hsl.bytes
  have hXZ : ∀ k, 0 ≤ (X ++ Z).getD k 0 ∧ (X ++ Z).getD k 0 < 256 := fun k => by
    rcases Nat.lt_or_ge k X.length with h | h
    · have : (X ++ Z).getD k 0 = X.getD k 0 := by simp [List.getD, List.getElem?_append_left h]
      rw [this]; exact hown.2 k
    · have : (X ++ Z).getD k 0 = Z.getD (k - X.length) 0 := by simp [List.getD, List.getElem?_append_right h]
      rw [this]; exact hzb _
  obtain ⟨i0, hi, hz0, hz1, hz2⟩ := info_parts info5'
  obtain ⟨ad, cap, rfl, h1, h2, h3, h4⟩ := hsl
  cases ad with
  | none =>
    obtain rfl := h3 rfl
    obtain rfl : Z = [] := List.length_eq_zero_iff.1 (by omega)
    have hrun := run_append_owned_none (P := Tryd.prog) (w := w) B 26 o.type 5 i0 1 Tryd.underlying26 hi v X.length _ hown.1
    have hx' : a.eval x = .slice none 0 0 := hx
    unfold Oper.wp
    simp [execOp, ho, resolve, invoke, builtin, hs, hx', hrun, Result.andThen]
    exact h v w (by rw [List.append_nil]; exact hown) (Below.refl _ _) (fun _ _ _ _ _ hh => hh)
  | some y =>
    refine wp_append_own_wide w s x 26 ho B 5 i0 (.int .u8 0) 1 1 Tryd.underlying26 hi hz0 hz1 hz2 rfl (by decide) v X.length _ hs hown.1 y Z.length cap (Z.map (Value.int .u8)) hx (by rw [List.length_map, Nat.mul_one]) (news_row h4) (ints_one Z) (by unfold maxLen; omega) (by omega) hbase
      (fun v' w' ho' hg _ => h v' w' ⟨by rw [List.length_append, List.map_append]; exact ho', hXZ⟩ ((Below.refl B w).grown hg hbase (own_base hown.1)) (fun i cs t fr ht hh => (hg.block i (Array.getElem?_eq_some_iff.1 hh).1 (fun e => by
        rcases hown.1.2 with ⟨rfl, _⟩ | ⟨g, cap', cur, rfl, _, hg', _⟩
        · cases e
        · cases e
          rw [hh] at hg'
          simp at hg'
          exact ht hg'.2.1)).trans hh))
theorem wp_append_ow {w : World} {o : Oper} {a : Act} {KK : Act → World → Prop} {Q : Exit → Act → World → Prop} (s x : Operand)
    (ho : o.op = .call { callee := .builtin .append, args := #[s, x], argTypes := #[26, 26] })
    (B : Nat) (v : Value) (X : List Int) (hs : a.eval s = v) (hown : Ow w B v X)
    (src : Value) (Z : List Int) (hx : a.eval x = src) (hsl : Sl w src Z) (hbig : X.length + Z.length ≤ 200000000000000) (hbase : B ≤ w.heap.size)
    (h : ∀ v' w', Ow w' B v' (X ++ Z) → Below B w w' → KK (a.put o.dst v') w') : o.wp Tryd.prog a w KK Q :=
  wp_append_owx s x ho B v X hs hown src Z hx hsl hbig hbase fun v' w' h1 h2 _ => h v' w' h1 h2
/-- The same, with what stays: blocks of another kind. -/
theorem wpList_append_owx {w : World} {ops : Array Oper} {rest : List Oper} {o : Oper} {a : Act} {Q : Exit → Act → World → Prop} (hgd : o.guard = none) (s x : Operand)
    (ho : o.op = .call { callee := .builtin .append, args := #[s, x], argTypes := #[26, 26] })
    (B : Nat) (v : Value) (X : List Int) (hs : a.eval s = v) (hown : Ow w B v X)
    (src : Value) (Z : List Int) (hx : a.eval x = src) (hsl : Sl w src Z) (hbig : X.length + Z.length ≤ 200000000000000) (hbase : B ≤ w.heap.size)
    (h : ∀ v' w', Ow w' B v' (X ++ Z) → Below B w w' → (∀ (i : Nat) (cs : Array Value) (t : TypeId) (fr : Nat × Nat), t ≠ 5 → w.heap[i]? = some (Obj.cells cs t fr) → w'.heap[i]? = some (Obj.cells cs t fr)) → wpList Tryd.prog ops Q rest (a.put o.dst v') w') : wpList Tryd.prog ops Q (o :: rest) a w :=
  wpList_plain hgd fun _ hK => wp_append_owx s x ho B v X hs hown src Z hx hsl hbig hbase fun v' w' h1 h2 h3 => hK _ _ (h v' w' h1 h2 h3)
theorem wpList_append_ow {w : World} {ops : Array Oper} {rest : List Oper} {o : Oper} {a : Act} {Q : Exit → Act → World → Prop} (hgd : o.guard = none) (s x : Operand)
    (ho : o.op = .call { callee := .builtin .append, args := #[s, x], argTypes := #[26, 26] })
    (B : Nat) (v : Value) (X : List Int) (hs : a.eval s = v) (hown : Ow w B v X)
    (src : Value) (Z : List Int) (hx : a.eval x = src) (hsl : Sl w src Z) (hbig : X.length + Z.length ≤ 200000000000000) (hbase : B ≤ w.heap.size)
    (h : ∀ v' w', Ow w' B v' (X ++ Z) → Below B w w' → wpList Tryd.prog ops Q rest (a.put o.dst v') w') : wpList Tryd.prog ops Q (o :: rest) a w :=
  wpList_plain hgd fun _ hK => wp_append_ow s x ho B v X hs hown src Z hx hsl hbig hbase fun v' w' h1 h2 => hK _ _ (h v' w' h1 h2)
theorem two_get {P : Value → List Int → Prop} {u0 u1 : Value} {X0 X1 : List Int} (h0 : P u0 X0) (h1 : P u1 X1) : ∀ i, i < [X0, X1].length → ∃ u, [u0, u1][i]? = some u ∧ P u ([X0, X1].getD i []) := fun i hi => by
  rcases (show i = 0 ∨ i = 1 by simp at hi; omega) with rfl | rfl
  · exact ⟨u0, rfl, h0⟩
  · exact ⟨u1, rfl, h1⟩
theorem sl_lit {w : World} (z : Int) (h0 : 0 ≤ z) (h1 : z < 256) : Sl (w.alloc (.cells #[.int .u8 z] 5)) (.slice (some ⟨w.heap.size, 0, none⟩) 1 1) [z] := by
  refine ⟨_, 1, rfl, Nat.le_refl _, by unfold maxLen; omega, (fun e => by cases e), .inr ⟨by simp, w.heap.size, 0, rfl, Nat.le_refl _, by unfold maxLen; omega, fun i hi => ?_, byteList _ (by simp; omega)⟩⟩
  obtain rfl : i = 0 := by simpa using hi
  rw [cell_of_row _ _ _ _ _ _ (heap_alloc_new _ _)]
  rfl
/-- A row without its first bytes, as Go cuts it. -/
def cuv (a : Option Addr) (L cap n : Nat) : Value :=
  if cap = n then .slice a 0 0 else match a with
    | none => .slice none 0 0
    | some x => .slice (some ⟨x.block, x.off + n, none⟩) (L - n) (cap - n)
theorem cuv_sl {w : World} {a : Option Addr} {L cap n : Nat} {hs : List Int} (h : Sl w (.slice a L cap) hs) (hn : n ≤ L) (hsp : ∀ x, a = some x → 0 < cap → x.spot = none) : Sl w (cuv a L cap n) (hs.drop n) := by
  unfold cuv
  have h' := h
  obtain ⟨a', cap', e, h1, h2, h3, h4⟩ := h'
  cases e
  by_cases hc : cap = n
  · rw [if_pos hc]
    have : hs.drop n = [] := List.drop_of_length_le (by omega)
    rw [this]
    exact ⟨a, 0, rfl, Nat.le_refl _, by simp [maxLen], fun _ => rfl, .inl rfl⟩
  · rw [if_neg hc]
    cases a with
    | none => have := h3 rfl; omega
    | some x =>
      obtain ⟨b, off, spot⟩ := x
      obtain rfl : spot = none := hsp _ rfl (by omega)
      exact h.drop n hn
theorem own_spot {w : World} {base n : Nat} {a : Option Addr} {L cap : Nat} {xs : List Value} (h : w.ownsRow base 5 1 (.slice a L cap) n xs) : ∀ x, a = some x → x.spot = none := by
  intro x hx
  subst hx
  rcases h.2 with ⟨e, _⟩ | ⟨g, c, cur, e, _⟩
  · cases e
  · cases e; rfl
theorem Ow.slx {w : World} {B : Nat} {v : Value} {X : List Int} (h : Ow w B v X) : SlX w v X := ⟨h.sl, fun x n c e _ => by subst e; exact own_spot h.1 x rfl⟩
theorem Ow.nil (w : World) (B : Nat) : Ow w B (.slice none 0 0) [] := ⟨World.ownsRow_nil _ _ _ _, fun k => by simp⟩
/-- What bytes.Clone answers: bytes in a row of its own. -/
theorem clone_ow (v : Value) (xs : List Int) (w : World) (h : Sl w v xs) (hbig : xs.length ≤ 200000000000000) :
    Calls Tryd.prog 18 #[v] w fun r w' => ∃ v', r = .returned v' ∧ Ow w' w.heap.size v' xs ∧ Below w.heap.size w w' :=
  (Fi.clone_any v xs w h hbig).mono fun _ _ ⟨v', e, o, b⟩ => ⟨v', e, ⟨o, h.bytes⟩, b⟩
/-- Bytes cut off the middle. -/
theorem sl_cut {w : World} {bb off len cap : Nat} {b : List Int} (h : Sl w (.slice (some ⟨bb, off, none⟩) len cap) b) (i n : Nat) (hi : i + n ≤ len) : Sl w (.slice (some ⟨bb, off + i, none⟩) n (cap - i)) (cut b i n) := by
  have h1 := h.drop i (by omega)
  exact h1.take n (by omega)
theorem LP.nil (w : World) (B : Nat) : LP w B (.slice none 0 0) [] := ⟨[], World.ownsRow_nil _ _ _ _, fun i hi => by simp at hi⟩
end Go.Proofs.YtfccjeepmhgckaaDoor
