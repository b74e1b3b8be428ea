/-
  What lay answers: the bytes of two sums, in a row of the call's own.
-/
import Derived.Test.YtjiefndjgkhcjaaDoorLp
import Derived.Test.YtjiefndjgkhcjaaDoorSc
namespace Go.Proofs.YtjiefndjgkhcjaaDoor
open Go.RowKit
set_option maxRecDepth 100000

/-- The four bytes of a weak sum, the highest first. -/
def be4 (k : Int) : List Int := [k / 16777216 % 256, k / 65536 % 256, k / 256 % 256, k % 256]
theorem be4_bytes (k : Int) : ∀ i, 0 ≤ (be4 k).getD i 0 ∧ (be4 k).getD i 0 < 256 := by
  refine byteList _ ?_
  have h : ∀ x : Int, (decide (0 ≤ x % 256) && decide (x % 256 < 256)) = true := fun x => by
    rw [Bool.and_eq_true, decide_eq_true_eq, decide_eq_true_eq]; omega
  simp only [be4, List.all_cons, List.all_nil, h, Bool.and_true]
/-- The bytes of two sums. -/
def layG (x : Sg) : List Int := be4 x.k ++ x.s
theorem layG_len (x : Sg) (h : x.ok) : (layG x).length = 36 := by simp [layG, be4, h.1]
theorem wp_append_owx {w : World} {o : Oper} {a : Act} {KK : Act → World → Prop} {Q : Exit → Act → World → Prop} (s x : Operand)
    (ho : o.op = .call { callee := .builtin .append, args := #[s, x], argTypes := #[22, 22] })
    (B : Nat) (v : Value) (X : List Int) (hs : a.eval s = v) (hown : Ow w B v X)
    (src : Value) (Z : List Int) (hx : a.eval x = src) (hsl : Sl w src Z) (hbig : X.length + Z.length ≤ 200000000000000) (hbase : B ≤ w.heap.size)
    (h : ∀ v' w', Ow w' B v' (X ++ Z) → Below B w w' → (∀ (i : Nat) (cs : Array Value) (t : TypeId) (fr : Nat × Nat), t ≠ 5 → w.heap[i]? = some (Obj.cells cs t fr) → w'.heap[i]? = some (Obj.cells cs t fr)) → KK (a.put o.dst v') w') : o.wp Tryd.prog a w KK Q := by
  have hzb := hsl.bytes
  have hXZ : ∀ k, 0 ≤ (X ++ Z).getD k 0 ∧ (X ++ Z).getD k 0 < 256 := fun k => by
    rcases Nat.lt_or_ge k X.length with h | h
    · have : (X ++ Z).getD k 0 = X.getD k 0 := by simp [List.getD, List.getElem?_append_left h]
      rw [this]; exact hown.2 k
    · have : (X ++ Z).getD k 0 = Z.getD (k - X.length) 0 := by simp [List.getD, List.getElem?_append_right h]
      rw [this]; exact hzb _
  obtain ⟨i0, hi, hz0, hz1, hz2⟩ := info_parts info5'
  obtain ⟨ad, cap, rfl, h1, h2, h3, h4⟩ := hsl
  cases ad with
  | none =>
    obtain rfl := h3 rfl
    obtain rfl : Z = [] := List.length_eq_zero_iff.1 (by omega)
    have hrun := run_append_owned_none (P := Tryd.prog) (w := w) B 22 o.type 5 i0 1 Tryd.underlying22 hi v X.length _ hown.1
    have hx' : a.eval x = .slice none 0 0 := hx
    unfold Oper.wp
    simp [execOp, ho, resolve, invoke, builtin, hs, hx', hrun, Result.andThen]
    exact h v w (by rw [List.append_nil]; exact hown) (Below.refl _ _) (fun _ _ _ _ _ hh => hh)
  | some y =>
    refine wp_append_own_wide w s x 22 ho B 5 i0 (.int .u8 0) 1 1 Tryd.underlying22 hi hz0 hz1 hz2 rfl (by decide) v X.length _ hs hown.1 y Z.length cap (Z.map (Value.int .u8)) hx (by rw [List.length_map, Nat.mul_one]) (news_row h4) (ints_one Z) (by unfold maxLen; omega) (by omega) hbase
      (fun v' w' ho' hg _ => h v' w' ⟨by rw [List.length_append, List.map_append]; exact ho', hXZ⟩ ((Below.refl B w).grown hg hbase (own_base hown.1)) (fun i cs t fr ht hh => (hg.block i (Array.getElem?_eq_some_iff.1 hh).1 (fun e => by
        rcases hown.1.2 with ⟨rfl, _⟩ | ⟨g, cap', cur, rfl, _, hg', _⟩
        · cases e
        · cases e
          rw [hh] at hg'
          simp at hg'
          exact ht hg'.2.1)).trans hh))
theorem wp_append_ow {w : World} {o : Oper} {a : Act} {KK : Act → World → Prop} {Q : Exit → Act → World → Prop} (s x : Operand)
    (ho : o.op = .call { callee := .builtin .append, args := #[s, x], argTypes := #[22, 22] })
    (B : Nat) (v : Value) (X : List Int) (hs : a.eval s = v) (hown : Ow w B v X)
    (src : Value) (Z : List Int) (hx : a.eval x = src) (hsl : Sl w src Z) (hbig : X.length + Z.length ≤ 200000000000000) (hbase : B ≤ w.heap.size)
    (h : ∀ v' w', Ow w' B v' (X ++ Z) → Below B w w' → KK (a.put o.dst v') w') : o.wp Tryd.prog a w KK Q :=
  wp_append_owx s x ho B v X hs hown src Z hx hsl hbig hbase fun v' w' h1 h2 _ => h v' w' h1 h2
/-- The same, with what stays: blocks of another kind. -/
theorem wpList_append_owx {w : World} {ops : Array Oper} {rest : List Oper} {o : Oper} {a : Act} {Q : Exit → Act → World → Prop} (hgd : o.guard = none) (s x : Operand)
    (ho : o.op = .call { callee := .builtin .append, args := #[s, x], argTypes := #[22, 22] })
    (B : Nat) (v : Value) (X : List Int) (hs : a.eval s = v) (hown : Ow w B v X)
    (src : Value) (Z : List Int) (hx : a.eval x = src) (hsl : Sl w src Z) (hbig : X.length + Z.length ≤ 200000000000000) (hbase : B ≤ w.heap.size)
    (h : ∀ v' w', Ow w' B v' (X ++ Z) → Below B w w' → (∀ (i : Nat) (cs : Array Value) (t : TypeId) (fr : Nat × Nat), t ≠ 5 → w.heap[i]? = some (Obj.cells cs t fr) → w'.heap[i]? = some (Obj.cells cs t fr)) → wpList Tryd.prog ops Q rest (a.put o.dst v') w') : wpList Tryd.prog ops Q (o :: rest) a w :=
  wpList_plain hgd fun _ hK => wp_append_owx s x ho B v X hs hown src Z hx hsl hbig hbase fun v' w' h1 h2 h3 => hK _ _ (h v' w' h1 h2 h3)
theorem wpList_append_ow {w : World} {ops : Array Oper} {rest : List Oper} {o : Oper} {a : Act} {Q : Exit → Act → World → Prop} (hgd : o.guard = none) (s x : Operand)
    (ho : o.op = .call { callee := .builtin .append, args := #[s, x], argTypes := #[22, 22] })
    (B : Nat) (v : Value) (X : List Int) (hs : a.eval s = v) (hown : Ow w B v X)
    (src : Value) (Z : List Int) (hx : a.eval x = src) (hsl : Sl w src Z) (hbig : X.length + Z.length ≤ 200000000000000) (hbase : B ≤ w.heap.size)
    (h : ∀ v' w', Ow w' B v' (X ++ Z) → Below B w w' → wpList Tryd.prog ops Q rest (a.put o.dst v') w') : wpList Tryd.prog ops Q (o :: rest) a w :=
  wpList_plain hgd fun _ hK => wp_append_ow s x ho B v X hs hown src Z hx hsl hbig hbase fun v' w' h1 h2 => hK _ _ (h v' w' h1 h2)
theorem sl_lit {w : World} (z : Int) (h0 : 0 ≤ z) (h1 : z < 256) : Sl (w.alloc (.cells #[.int .u8 z] 5)) (.slice (some ⟨w.heap.size, 0, none⟩) 1 1) [z] := by
  refine sl_range (A := [z]) (fun j v hv => ?_) (byteList _ (by simp; omega)) rfl (Nat.le_refl _) (by unfold maxLen; omega)
  rw [World.cell?_alloc_at _ _ _ _ rfl]
  simpa using hv
theorem two_get {P : Value → List Int → Prop} {u0 u1 : Value} {X0 X1 : List Int} (h0 : P u0 X0) (h1 : P u1 X1) : ∀ i, i < [X0, X1].length → ∃ u, [u0, u1][i]? = some u ∧ P u ([X0, X1].getD i []) := fun i hi => by
  rcases (show i = 0 ∨ i = 1 by simp at hi; omega) with rfl | rfl
  · exact ⟨u0, rfl, h0⟩
  · exact ⟨u1, rfl, h1⟩
set_option maxHeartbeats 2000000 in
theorem lay_any (x : Sg) (w : World) (hx : x.ok) :
    Calls Tryd.prog 34 #[x.val] w fun e w' => ∃ u, e = .returned u ∧ Ow w' w.heap.size u (layG x) ∧ Below w.heap.size w w' := by
  obtain ⟨W1, hW1⟩ : ∃ W1, W1 = w.alloc (.cells x.cells.toArray 57) := ⟨_, rfl⟩
  have b1 : Below w.heap.size w W1 := by rw [hW1]; exact al_below _ _
  have g1 : IB W1 w.heap.size x := by rw [hW1]; exact IB.new w x
  have B1 : Hid (Below w.heap.size w W1) := b1
  have FT : Hid (∀ W, Below W1.heap.size W1 W → W.cell? ⟨w.heap.size, 0, none⟩ = some (.int .u32 x.k)) := fun W hb => range_head (g1.kept hb).range
  have FS : Hid (∀ W, Below W1.heap.size W1 W → Sl W (.slice (some ⟨w.heap.size, 1, none⟩) 32 32) x.s) := fun W hb => sl_range (by simpa using range_sum (g1.kept hb).range) hx.2.1 hx.1.symm (Nat.le_refl _) (by unfold maxLen; omega)
  have hkr := hx.2.2
  have HY : Hid (layG x = be4 x.k ++ x.s) := rfl
  have HSL : Hid (x.s.length = 32) := hx.1
  clear b1 g1 hx
  unfold Sg.val
  generalize layG x = Y at *
  generalize x.s = S at *
  generalize x.cells.toArray = cs at *
  generalize x.k = kk at *
  have HBB : Hid (∀ i, 0 ≤ (be4 kk).getD i 0 ∧ (be4 kk).getD i 0 < 256) := be4_bytes kk
  go_enter Tryd.func34, Tryd.ntmps34
  go_wp2_with fail
  rw [← hW1]
  clear hW1
  go_loopw [3, 5] (fun s q wr => ∃ j : Nat, j ≤ 4 ∧ q = .int .i64 j ∧ Ow wr W1.heap.size s ((be4 kk).take j) ∧ Below W1.heap.size W1 wr) (fun _ q _ => 4 - (intOf q).toNat)
  case atStart => exact ⟨0, by omega, rfl, ⟨World.ownsRow_nil _ _ _ _, fun k => by simp⟩, Below.refl _ _⟩
  case round =>
    obtain ⟨j, hj, rfl, ow, bel⟩ := hrel
    have HB : Hid (Below W1.heap.size W1 wr) := bel
    have HO : Hid (Ow wr W1.heap.size u3 ((be4 kk).take j)) := ow
    obtain ⟨va, vc, rfl⟩ := ow.shape
    have hlj : ((be4 kk).take j).length = j := by rw [List.length_take]; simp [be4]; omega
    rw [hlj] at HO ⊢
    have k0 := FT.out wr bel
    clear bel ow hlj
    by_cases h4 : j < 4
    · have HT : Hid (∀ z : Int, z = (be4 kk).getD j 0 → (be4 kk).take (j + 1) = (be4 kk).take j ++ [z]) := fun z hz => by
        rw [List.take_add_one, hz]
        have : j < (be4 kk).length := h4
        simp [List.getD, List.getElem?_eq_getElem this]
      have B3 : Hid (∀ o, Below W1.heap.size W1 (wr.alloc o)) := fun o => HB.out.trans ((al_below _ _).mono HB.out.size)
      rcases (show j = 0 ∨ j = 1 ∨ j = 2 ∨ j = 3 by omega) with rfl | rfl | rfl | rfl
      · have O3 : Hid (∀ o, Ow (wr.alloc o) W1.heap.size (.slice va 0 vc) ((be4 kk).take 0)) := fun o => HO.out.below (al_below _ _)
        clear HO
        go_wp2_with (at_builtin; refine wpList_append_ow rfl _ _ rfl W1.heap.size _ ((be4 kk).take 0) rfl (O3.out _) _ [_] rfl (sl_lit _ (by omega) (by omega)) (by simp [be4]) (B3.out _).size (Hid.out ?_))
        unfold Hid
        intro v4 w4 o4 b4
        have B4 : Hid (Below W1.heap.size W1 w4) := (B3.out _).trans b4
        have O4 : Hid (Ow w4 W1.heap.size v4 ((be4 kk).take (0 + 1))) := by
          unfold Hid
          rw [HT.out _ ?_]
          · exact o4
          · simp [be4, List.getD]
            try omega
        clear o4 b4 O3 k0
        go_wp2
        go_roundw
        case rel => exact ⟨0 + 1, by omega, by go_num, O4.out, B4.out⟩
        case measure => simp [intOf]
      · have O3 : Hid (∀ o, Ow (wr.alloc o) W1.heap.size (.slice va 1 vc) ((be4 kk).take 1)) := fun o => HO.out.below (al_below _ _)
        clear HO
        go_wp2_with (at_builtin; refine wpList_append_ow rfl _ _ rfl W1.heap.size _ ((be4 kk).take 1) rfl (O3.out _) _ [_] rfl (sl_lit _ (by omega) (by omega)) (by simp [be4]) (B3.out _).size (Hid.out ?_))
        unfold Hid
        intro v4 w4 o4 b4
        have B4 : Hid (Below W1.heap.size W1 w4) := (B3.out _).trans b4
        have O4 : Hid (Ow w4 W1.heap.size v4 ((be4 kk).take (1 + 1))) := by
          unfold Hid
          rw [HT.out _ ?_]
          · exact o4
          · simp [be4, List.getD]
            try omega
        clear o4 b4 O3 k0
        go_wp2
        go_roundw
        case rel => exact ⟨1 + 1, by omega, by go_num, O4.out, B4.out⟩
        case measure => simp [intOf]
      · have O3 : Hid (∀ o, Ow (wr.alloc o) W1.heap.size (.slice va 2 vc) ((be4 kk).take 2)) := fun o => HO.out.below (al_below _ _)
        clear HO
        go_wp2_with (at_builtin; refine wpList_append_ow rfl _ _ rfl W1.heap.size _ ((be4 kk).take 2) rfl (O3.out _) _ [_] rfl (sl_lit _ (by omega) (by omega)) (by simp [be4]) (B3.out _).size (Hid.out ?_))
        unfold Hid
        intro v4 w4 o4 b4
        have B4 : Hid (Below W1.heap.size W1 w4) := (B3.out _).trans b4
        have O4 : Hid (Ow w4 W1.heap.size v4 ((be4 kk).take (2 + 1))) := by
          unfold Hid
          rw [HT.out _ ?_]
          · exact o4
          · simp [be4, List.getD]
            try omega
        clear o4 b4 O3 k0
        go_wp2
        go_roundw
        case rel => exact ⟨2 + 1, by omega, by go_num, O4.out, B4.out⟩
        case measure => simp [intOf]
      · have O3 : Hid (∀ o, Ow (wr.alloc o) W1.heap.size (.slice va 3 vc) ((be4 kk).take 3)) := fun o => HO.out.below (al_below _ _)
        clear HO
        go_wp2_with (at_builtin; refine wpList_append_ow rfl _ _ rfl W1.heap.size _ ((be4 kk).take 3) rfl (O3.out _) _ [_] rfl (sl_lit _ (by omega) (by omega)) (by simp [be4]) (B3.out _).size (Hid.out ?_))
        unfold Hid
        intro v4 w4 o4 b4
        have B4 : Hid (Below W1.heap.size W1 w4) := (B3.out _).trans b4
        have O4 : Hid (Ow w4 W1.heap.size v4 ((be4 kk).take (3 + 1))) := by
          unfold Hid
          rw [HT.out _ ?_]
          · exact o4
          · simp [be4, List.getD]
            try omega
        clear o4 b4 O3 k0
        go_wp2
        go_roundw
        case rel => exact ⟨3 + 1, by omega, by go_num, O4.out, B4.out⟩
        case measure => simp [intOf]
    · obtain rfl : j = 4 := by omega
      have HO4 : Hid (Ow wr W1.heap.size (.slice va 4 vc) (be4 kk)) := HO.out
      have hs := FS.out wr HB.out
      have P4 := partsL (w := wr) [.slice va 4 vc, .slice (some ⟨w.heap.size, 1, none⟩) 32 32] [be4 kk, S] (by simp) (two_get (P := fun u X => Sl wr u X) HO4.out.sl hs)
      obtain ⟨W4, hW4⟩ : ∃ W4, W4 = wr.alloc (.cells #[.slice va 4 vc, .slice (some ⟨w.heap.size, 1, none⟩) 32 32] 22) := ⟨_, rfl⟩
      have b4 : Below wr.heap.size wr W4 := by rw [hW4]; exact al_below _ _
      have B4 : Hid (Below w.heap.size w W4) := B1.out.trans ((HB.out.trans (b4.mono HB.out.size)).mono B1.out.size)
      have cj := fjoin_any (some ⟨wr.heap.size, 0, none⟩) 2 [be4 kk, S] W4 (by rw [hW4]; exact P4) (by rw [List.flatten_cons, List.length_append]; simp [be4, HSL.out])
      rw [show [be4 kk, S].flatten = Y by rw [HY.out]; simp] at cj
      have hw4 : wr.alloc (.cells #[.slice va 4 vc, .slice (some ⟨w.heap.size, 1, none⟩) 32 32] 22) = W4 := hW4.symm
      clear hs P4 hW4 b4 k0 FT FS HO HO4 h4
      simp only [List.length_cons, List.length_nil] at cj
      go_wp2_with fail
      try rw [hw4]
      clear hw4
      refine cj.mono ?_
      rintro e w5 ⟨v5, rfl, o5, b5⟩
      clear cj
      have OZ : Hid (Ow w5 w.heap.size v5 Y) := o5.mono B4.out.size
      have BZ : Hid (Below w.heap.size w w5) := B4.out.trans (b5.mono B4.out.size)
      obtain ⟨ja, jc, rfl⟩ := o5.shape
      clear o5 b5
      go_wp2
      go_ret
      exact ⟨_, rfl, OZ.out, BZ.out⟩
end Go.Proofs.YtjiefndjgkhcjaaDoor
