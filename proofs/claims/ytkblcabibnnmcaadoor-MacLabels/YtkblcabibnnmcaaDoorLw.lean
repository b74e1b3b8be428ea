/-
  What the laws share: mac.Of of one part and of two; equal sums.
-/
import Derived.Test.YtkblcabibnnmcaaDoorFr
namespace Go.Proofs.YtkblcabibnnmcaaDoor
open Go.RowKit

theorem own_none (w : World) : (w.alloc (.cells #[] 5)).ownsRow w.heap.size 5 1 (.slice (some ⟨w.heap.size, 0, none⟩) 0 0) 0 [] :=
  World.ownsRow_made (base := w.heap.size) (e := 5) (size := 1) w #[] 0 (Nat.le_refl _) (by unfold maxLen; omega) rfl
theorem own_on {w w' : World} {base : Nat} {e : TypeId} {size : Nat} {v : Value} {n : Nat} {xs : List Value} (h : w.ownsRow base e size v n xs) (hk : Below w.heap.size w w') : w'.ownsRow base e size v n xs := by
  obtain ⟨h1, h2⟩ := h
  rcases h2 with h2 | ⟨g, cap, cur, hv, hg, hh, r⟩
  · exact ⟨h1, .inl h2⟩
  · exact ⟨h1, .inr ⟨g, cap, cur, hv, hg, (hk.block g (Array.getElem?_eq_some_iff.1 hh).1).trans hh, r⟩⟩
theorem sl_byte (w : World) (z : Int) (h0 : 0 ≤ z) (h1 : z < 256) : Sl (w.alloc (.cells #[.int .u8 z] 5)) (.slice (some ⟨w.heap.size, 0, none⟩) 1 1) [z] :=
  sl_row (xs := [z]) (heap_alloc_new w (.cells #[.int .u8 z] 5)) (byteList _ (by simp; omega)) (by simp [maxLen])
theorem mof1 (kv v : Value) (K X : List Int) (w : World) (ht : Tab w) (sk : Sl w kv K) (s : Sl w v X) (hk : K.length ≤ 100000) (hX : X.length ≤ 100000) :
    Calls Tryd.prog 9 #[kv, .slice (some ⟨w.heap.size, 0, none⟩) 1 1] (w.alloc (.cells #[v] 22)) fun e w' => e = .returned (.agg (u8s (hmac K X))) ∧ Below w.heap.size w w' := by
  have hb : Below w.heap.size w (w.alloc (.cells #[v] 22)) := al_below _ _
  have hf : [X].flatten = X := by simp
  have := mof_any kv K (some ⟨w.heap.size, 0, none⟩) 1 [X] _ (ht.below hb ht.size) (sk.kept hb) (parts1 s) (fun h => by cases h) (by simp) (by omega) (by rw [hf]; omega)
  rw [hf] at this
  refine this.mono ?_
  rintro e w' ⟨rfl, b⟩
  exact ⟨rfl, hb.trans (b.mono hb.size)⟩
theorem mof2 (kv v1 v2 : Value) (K X Y : List Int) (w : World) (ht : Tab w) (sk : Sl w kv K) (s1 : Sl w v1 X) (s2 : Sl w v2 Y) (hk : K.length ≤ 100000) (hX : X.length + Y.length ≤ 100000) :
    Calls Tryd.prog 9 #[kv, .slice (some ⟨w.heap.size, 0, none⟩) 2 2] (w.alloc (.cells #[v1, v2] 22)) fun e w' => e = .returned (.agg (u8s (hmac K (X ++ Y)))) ∧ Below w.heap.size w w' := by
  have hb : Below w.heap.size w (w.alloc (.cells #[v1, v2] 22)) := al_below _ _
  have hf : [X, Y].flatten = X ++ Y := by simp
  have := mof_any kv K (some ⟨w.heap.size, 0, none⟩) 2 [X, Y] _ (ht.below hb ht.size) (sk.kept hb) (parts2 w v1 v2 X Y s1 s2) (fun h => by cases h) (by simp) (by omega) (by rw [hf, List.length_append]; omega)
  rw [hf] at this
  refine this.mono ?_
  rintro e w' ⟨rfl, b⟩
  exact ⟨rfl, hb.trans (b.mono hb.size)⟩
theorem eq_same (M : List Int) (hM : M.length = 32) (w : World) : (Op.equalIn 10000 26 (.agg (u8s M)) (.agg (u8s M))).run Tryd.prog w = .ok true w := by
  rw [eq_u8s M M hM hM w]
  simp
theorem eqb_of {U V : Array Value} {b : Bool} {w : World} (h : (Op.equalIn 10000 26 (.agg U) (.agg V)).run Tryd.prog w = .ok b w) : (binOp BinOp.eql 26 (.agg U) (.agg V)).run Tryd.prog w = .ok (.bool b) w := by
  have h' : (Op.equal 26 (.agg U) (.agg V)).run Tryd.prog w = .ok b w := h
  show (do pure (.bool (← Op.equal 26 (.agg U) (.agg V))) : Sem Value).run Tryd.prog w = _
  rw [Sem.run_bind, h']
  rfl
theorem eqb_same (M : List Int) (hM : M.length = 32) (w : World) : (binOp BinOp.eql 26 (.agg (u8s M)) (.agg (u8s M))).run Tryd.prog w = .ok (.bool true) w := eqb_of (eq_same M hM w)
theorem eg26 : Tryd.prog.eqGuardType Tryd.prog.depth 26 = false := by kernel_rfl
theorem eg_run (x y : Operand) (U V : Array Value) (w : World) : (eqGuard BinOp.eql 26 x y (.agg U) (.agg V)).run Tryd.prog w = .ok () w := run_eqGuard_agg _ _ _ _ _ _ _ eg26
/-- '==' of two sums, as one step of a walk. -/
theorem wpList_eql {w : World} {ops : Array Oper} {rest : List Oper} {o : Oper} {a : Act} {Q : Exit → Act → World → Prop} (hgd : o.guard = none) (x y : Operand) (t : TypeId) (ho : o.op = .binOp .eql 26 x y t)
    (U V : Array Value) (b : Bool) (hx : a.eval x = .agg U) (hy : a.eval y = .agg V) (hE : (binOp BinOp.eql 26 (.agg U) (.agg V)).run Tryd.prog w = .ok (.bool b) w)
    (h : wpList Tryd.prog ops Q rest (a.put o.dst (.bool b)) w) : wpList Tryd.prog ops Q (o :: rest) a w := by
  refine wpList_plain hgd fun KK hKK => ?_
  unfold Oper.wp
  simp only [execOp, ho, hx, hy, Sem.run_bind, eg_run, hE, Result.andThen_ok, Sem.run_pure, Oper.upon]
  exact hKK _ _ h
/-- The same, in a region that draws its order. -/
theorem yields_eql {S : World → Prop} {ops : Array Oper} {o : Oper} {a : Act} (hw : Region.wanted o (yielded ops a.tmps) = true) (x y : Operand) (t : TypeId) (ho : o.op = .binOp .eql 26 x y t)
    (U V : Array Value) (b : Bool) (hx : a.eval x = .agg U) (hy : a.eval y = .agg V) (hE : ∀ w, (binOp BinOp.eql 26 (.agg U) (.agg V)).run Tryd.prog w = .ok (.bool b) w) : YieldsIf Tryd.prog ops S o (.bool b) a :=
  .inl ⟨hw, fun w _ => by
    unfold execOp
    simp only [ho, hx, hy, Sem.run_bind, eg_run, hE, Result.andThen_ok, Sem.run_pure]⟩
theorem hmac_nought (K X : List Int) (h : K.length < 64) : hmac (K ++ [0]) X = hmac K X := by
  have h1 : key0 (K ++ [0]) = K ++ [0] := by unfold key0; rw [if_neg (by rw [List.length_append]; simp; omega)]
  have h2 : key0 K = K := by unfold key0; rw [if_neg (by omega)]
  have h3 : ∀ m, msk (K ++ [0]) m = msk K m := fun m => by
    unfold msk
    refine List.map_congr_left fun i _ => ?_
    rcases Nat.lt_or_ge i K.length with h | h
    · rw [getD_append_left _ _ _ h]
    · rw [getD_append_right _ _ _ h]
      have e1 : K.getD i 0 = 0 := by rw [List.getD, List.getElem?_eq_none h]; rfl
      have e2 : ([0] : List Int).getD (i - K.length) 0 = 0 := by
        cases i - K.length with
        | zero => rfl
        | succ k => rfl
      rw [e1, e2]
  unfold hmac hin
  rw [h1, h2, h3, h3]
theorem hmac_long (K X : List Int) (h : 64 < K.length) : hmac (Pl.sha K) X = hmac K X := by
  have h1 : key0 (Pl.sha K) = Pl.sha K := by unfold key0; rw [if_neg (by rw [sha_len]; omega)]
  have h2 : key0 K = Pl.sha K := by unfold key0; rw [if_pos h]
  unfold hmac hin
  rw [h1, h2]
theorem sl_strx {w : World} {v : Value} {xs : List Int} (sl : Sl w v xs) : ∃ a c, v = .slice a xs.length c ∧ ∀ W, Below w.heap.size w W → (convert 22 9 (.slice a xs.length c)).run Tryd.prog W = .ok (.string (strB xs)) W := by
  have h := fun W (hW : Below w.heap.size w W) => sl.kept hW
  obtain ⟨a, c, rfl, -⟩ := sl
  exact ⟨a, c, rfl, fun W hW => (h W hW).conv⟩
end Go.Proofs.YtkblcabibnnmcaaDoor
