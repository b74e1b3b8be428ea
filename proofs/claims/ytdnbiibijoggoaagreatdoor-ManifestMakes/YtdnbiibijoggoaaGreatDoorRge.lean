/-
  What the document's Get of items answers.
-/
import Derived.Test.YtdnbiibijoggoaaGreatDoorIh
import Derived.Test.YtdnbiibijoggoaaGreatDoorRpt
import Derived.Test.YtdnbiibijoggoaaGreatDoorFg
import Derived.Test.YtdnbiibijoggoaaGreatDoorRmk
namespace Go.Proofs.YtdnbiibijoggoaaGreatDoor
open Go.RowKit
set_option maxRecDepth 100000

theorem rvText (sv : Value) (xs : List Int) (e m : Int) (w : World) (h : Fi.Rv w sv xs) :
    Calls Tryz.prog 46 #[.agg #[sv, .int .i64 e], .int .i64 m] w fun r w' => ∃ sv', r = .returned (.tuple #[.agg #[sv', .int .i64 (rT xs e m).2.2], .string (Fi.strB (rT xs e m).1)]) ∧ (∀ W, Fi.Rv W sv xs → Fi.Rv W sv' (rT xs e m).2.1) ∧ Below w.heap.size w w' := by
  obtain ⟨a, c, rfl, _⟩ := id h
  unfold rT
  split
  · rename_i he; subst he; exact Fi.rtext_any a c xs m w h
  · rename_i he
    exact (Fi.rtext_stop a xs.length c e m w he).mono fun _ _ ⟨e1, b⟩ => ⟨_, e1, fun _ hW => hW, b⟩
theorem rvByte (sv : Value) (xs : List Int) (e : Int) (w : World) (h : Fi.Rv w sv xs) :
    Calls Tryz.prog 47 #[.agg #[sv, .int .i64 e]] w fun r w' => ∃ sv', r = .returned (.tuple #[.agg #[sv', .int .i64 (rB xs e).2.2], .int .u8 (rB xs e).1]) ∧ (∀ W, Fi.Rv W sv xs → Fi.Rv W sv' (rB xs e).2.1) ∧ Below w.heap.size w w' := by
  obtain ⟨a, c, rfl, _⟩ := id h
  unfold rB
  split
  · rename_i he; subst he; exact Fi.rbyte_any a c xs w h
  · rename_i he
    exact (Fi.rbyte_stop a xs.length c e w he).mono fun _ _ ⟨e1, b⟩ => ⟨_, e1, fun _ hW => hW, b⟩
theorem rvNum (sv : Value) (xs : List Int) (e m : Int) (w : World) (h : Fi.Rv w sv xs) :
    Calls Tryz.prog 45 #[.agg #[sv, .int .i64 e], .int .i64 m] w fun r w' => ∃ sv', r = .returned (.tuple #[.agg #[sv', .int .i64 (rN xs e m).2.2], .int .i64 (rN xs e m).1]) ∧ (∀ W, Fi.Rv W sv xs → Fi.Rv W sv' (rN xs e m).2.1) ∧ Below w.heap.size w w' := by
  obtain ⟨a, c, rfl, _⟩ := id h
  unfold rN
  split
  · rename_i he; subst he; exact Fi.rnum_any a c xs m w h
  · rename_i he
    exact (Fi.rnum_stop a xs.length c e m w he).mono fun _ _ ⟨e1, b⟩ => ⟨_, e1, fun _ hW => hW, b⟩
theorem rvRaw (sv : Value) (xs : List Int) (e n : Int) (w : World) (h : Fi.Rv w sv xs) :
    Calls Tryz.prog 48 #[.agg #[sv, .int .i64 e], .int .i64 n] w fun r w' => ∃ sv', r = .returned (.tuple #[.agg #[sv', .int .i64 (rR xs e n).2.2], .string (Fi.strB (rR xs e n).1)]) ∧ (∀ W, Fi.Rv W sv xs → Fi.Rv W sv' (rR xs e n).2.1) ∧ Below w.heap.size w w' := by
  obtain ⟨a, c, rfl, _⟩ := id h
  unfold rR
  split
  · rename_i he; subst he; exact Fi.rraw_any a c xs n w h
  · rename_i he
    exact (Fi.rraw_stop a xs.length c e n w he).mono fun _ _ ⟨e1, b⟩ => ⟨_, e1, fun _ hW => hW, b⟩
theorem rv_of {w : World} {v : Value} {b : List Int} (h : Sl w v b) (hs : ∀ x l c, v = .slice (some x) l c → 0 < c → x.spot = none) : Fi.Rv w v b := by
  obtain ⟨a, c, rfl, h1, h2, h3, h4⟩ := h
  exact ⟨a, c, rfl, h1, h2, h3, fun x hx hc => hs x _ _ (by rw [hx]) hc, h4⟩
theorem rv_shape {w : World} {v : Value} {b : List Int} (h : Fi.Rv w v b) : ∃ a c, v = .slice a b.length c := by
  obtain ⟨a, c, e, _⟩ := h
  exact ⟨a, c, e⟩
/-- What a round of the loop holds: the reader's block, the item's, all else as it was. -/
def GS (wr W : World) (R : Nat) (sv : Value) (e : Int) (y : It) : Prop :=
  W.heap[R]? = some (.cells #[sv, .int .i64 e] 74 (0, 0)) ∧ W.heap[wr.heap.size]? = some (.cells y.cells.toArray 42 (0, 0)) ∧ Sh.But R wr W ∧ R < wr.heap.size
theorem GS.call {wr W W' : World} {R : Nat} {sv : Value} {e : Int} {y : It} (h : GS wr W R sv e y) (hb : Below W.heap.size W W') : GS wr W' R sv e y :=
  ⟨(hb.block _ (Array.getElem?_eq_some_iff.1 h.1).1).trans h.1, (hb.block _ (Array.getElem?_eq_some_iff.1 h.2.1).1).trans h.2.1, But.keep h.2.2.1 hb, h.2.2.2⟩
theorem GS.setR {wr W : World} {R : Nat} {sv : Value} {e : Int} {y : It} (h : GS wr W R sv e y) (sv' : Value) (e' : Int) : GS wr (W.setRow R #[sv', .int .i64 e']) R sv' e' y := by
  refine ⟨setRow_heap _ _ _ _ _ _ h.1, ?_, ?_, h.2.2.2⟩
  · rw [setRow_other _ _ _ _ (by have := h.2.2.2; omega)]; exact h.2.1
  · obtain ⟨b1, b2, b3, b4, b5⟩ := h.2.2.1
    exact ⟨b1, b2, b3, by rw [setRow_size]; exact b4, fun k hk hn => by rw [setRow_other _ _ _ _ hn]; exact b5 k hk hn⟩
theorem GS.setX {wr W : World} {R : Nat} {sv : Value} {e : Int} {y y' : It} (h : GS wr W R sv e y) (i : Nat) (v : Value) (hy : y.cells.toArray.setIfInBounds i v = y'.cells.toArray) : GS wr (W.setCell ⟨wr.heap.size, i, none⟩ v) R sv e y' := by
  refine ⟨?_, ?_, ?_, h.2.2.2⟩
  · rw [heap_setCell_other _ _ _ _ (by have := h.2.2.2; show R ≠ wr.heap.size; omega)]; exact h.1
  · rw [heap_setCell_same _ _ _ _ _ _ h.2.1, hy]
  · obtain ⟨b1, b2, b3, b4, b5⟩ := h.2.2.1
    exact ⟨b1, b2, b3, by simpa [World.setCell] using b4, fun k hk hn => by rw [heap_setCell_other _ _ _ _ (by show k ≠ wr.heap.size; omega)]; exact b5 k hk hn⟩
theorem GS.drew {wr W : World} {R : Nat} {sv : Value} {e : Int} {y : It} (h : GS wr W R sv e y) : GS wr W.drew R sv e y := ⟨h.1, h.2.1, h.2.2.1.drew, h.2.2.2⟩
theorem GS.cells {wr W : World} {R : Nat} {sv : Value} {e : Int} {y : It} (h : GS wr W R sv e y) : W.cell? ⟨R, 0, none⟩ = some sv ∧ W.cell? ⟨R, 1, none⟩ = some (.int .i64 e) ∧ W.cell? ⟨wr.heap.size, 0, none⟩ = some (.string y.p) ∧ W.cell? ⟨wr.heap.size, 1, none⟩ = some (.bool y.d) ∧ W.cell? ⟨wr.heap.size, 2, none⟩ = some (.int .i64 y.n) ∧ ∀ i, W.frozen? ⟨wr.heap.size, i, none⟩ = false :=
  ⟨by rw [cell_of_row _ _ _ _ _ _ h.1]; rfl, by rw [cell_of_row _ _ _ _ _ _ h.1]; rfl, by rw [cell_of_row _ _ _ _ _ _ h.2.1]; rfl, by rw [cell_of_row _ _ _ _ _ _ h.2.1]; rfl, by rw [cell_of_row _ _ _ _ _ _ h.2.1]; rfl, fun i => frozen_of_row _ _ _ _ _ h.2.1⟩
theorem set_path (p q : ByteArray) (d : Bool) (n : Int) (s : List Int) : (It.cells ⟨p, d, n, s⟩).toArray.setIfInBounds 0 (.string q) = (It.cells ⟨q, d, n, s⟩).toArray := by simp [It.cells]
theorem set_dir (p : ByteArray) (d c : Bool) (n : Int) (s : List Int) : (It.cells ⟨p, d, n, s⟩).toArray.setIfInBounds 1 (.bool c) = (It.cells ⟨p, c, n, s⟩).toArray := by simp [It.cells]
theorem set_sum (p : ByteArray) (d : Bool) (n : Int) (s : List Int) (k : Nat) (z : Int) : (It.cells ⟨p, d, n, s⟩).toArray.setIfInBounds (3 + k) (.int .u8 z) = (It.cells ⟨p, d, n, s.set k z⟩).toArray := by
  rw [Nat.add_comm 3 k]
  simp [It.cells, List.map_set]
/-- The first bytes of a text, the rest noughts. -/
def ovk (X : List Int) (k : Nat) : List Int := X.take k ++ z32.drop k
theorem ovk_set (X : List Int) (k : Nat) (hk : k < X.length) (h32 : X.length ≤ 32) : (ovk X k).set k (X.getD k 0) = ovk X (k + 1) := by
  unfold ovk
  have hl : (X.take k).length = k := by rw [List.length_take]; omega
  have hz : k < z32.length := by rw [z32_len]; omega
  have e : (z32.drop k).set 0 (X.getD k 0) = X.getD k 0 :: z32.drop (k + 1) := by rw [List.drop_eq_getElem_cons hz]; rfl
  rw [List.set_append_right _ _ (by omega), hl, Nat.sub_self, e]
  have e2 : X.take (k + 1) = X.take k ++ [X.getD k 0] := by rw [List.take_add_one, List.getElem?_eq_getElem hk]; simp [List.getD, List.getElem?_eq_getElem hk]
  rw [e2, List.append_assoc]
  rfl
theorem ovk_all (X : List Int) : ovk X X.length = ov32 X := by unfold ovk ov32; rw [List.take_length]
theorem ovk_len (X : List Int) (k : Nat) (hX : X.length ≤ 32) (hk : k ≤ X.length) : (ovk X k).length = 32 := by unfold ovk; rw [List.length_append, List.length_take, List.length_drop, z32_len]; omega
theorem GS.sum {wr W : World} {R : Nat} {sv : Value} {e : Int} {y : It} (h : GS wr W R sv e y) (k : Nat) (hk : k < y.s.length) : W.cell? ⟨wr.heap.size, 3 + k, none⟩ = some (.int .u8 (y.s.getD k 0)) := by
  rw [cell_of_row _ _ _ _ _ _ h.2.1, Nat.add_comm 3 k]
  simp [It.cells, List.getD, List.getElem?_eq_getElem hk]
theorem run_index_sb (X : List Int) (hX : ∀ k, 0 ≤ X.getD k 0 ∧ X.getD k 0 < 256) (w : World) (k : Nat) (h : k < X.length) : (Instr.index 9 (.string (Fi.strB X)) (.int .i64 (k : Int))).run Tryz.prog w = .ok (.int .u8 (X.getD k 0)) w := by
  rw [run_index_dl (Fi.strB X) w k (by rw [Fi.strB_size]; exact h)]
  congr 2
  have := hX k
  simp only [dl, Fi.strB, List.getD, List.getElem?_map, List.getElem?_eq_getElem h, Option.map_some, Option.getD_some] at this ⊢
  rw [UInt8.toNat_ofNat']
  omega
theorem strB_inj2 {X Y : List Int} (hX : ∀ k, 0 ≤ X.getD k 0 ∧ X.getD k 0 < 256) (hY : ∀ k, 0 ≤ Y.getD k 0 ∧ Y.getD k 0 < 256) (h : strB X = strB Y) : X = Y := by
  have h1 : X.map (fun n => UInt8.ofNat n.toNat) = Y.map (fun n => UInt8.ofNat n.toNat) := by
    have := congrArg (fun z : ByteArray => z.data.toList) h
    simpa [strB] using this
  have hl : X.length = Y.length := by have := congrArg List.length h1; simpa using this
  apply List.ext_getElem hl
  intro i a c
  have h2 := congrArg (fun z : List UInt8 => z[i]?) h1
  simp only [List.getElem?_map, List.getElem?_eq_getElem a, List.getElem?_eq_getElem c, Option.map_some, Option.some.injEq] at h2
  have h3 := congrArg UInt8.toNat h2
  rw [UInt8.toNat_ofNat', UInt8.toNat_ofNat'] at h3
  have hx := hX i
  have hy := hY i
  simp only [List.getD, List.getElem?_eq_getElem a, List.getElem?_eq_getElem c, Option.getD_some] at hx hy
  omega
theorem info74 (u0 u1 : Value) : (Tryz.prog.info? 74).map (·.size) = some #[u0, u1].size := by
  show _ = some 2
  kernel_rfl
theorem ones2 {a : Option Addr} {n c : Nat} {k : Int} : #[Value.slice a n c, .int .i64 k].all (·.oneCell') = true :=
  all_oneCell_toArray (cs := [Value.slice a n c, .int .i64 k]) fun v hv => by
    simp only [List.mem_cons, List.not_mem_nil, or_false] at hv
    rcases hv with rfl | rfl <;> rfl
theorem mget_cases (b : List Int) : (mget b = (rdA b, 0) ∧ mput (rdA b) = (b, 0)) ∨ mget b = ([], 4) := by
  unfold mget
  by_cases h : (mput (rdA b)).2 = 0 ∧ (mput (rdA b)).1 = b
  · rw [if_pos h]
    left
    refine ⟨rfl, ?_⟩
    obtain ⟨h1, h2⟩ := h
    generalize mput (rdA b) = P at *
    obtain ⟨x, y⟩ := P
    simp only at h1 h2
    rw [h1, h2]
  · rw [if_neg h]; exact .inr rfl
theorem rdA_len (b : List Int) (h : Bt b) : (rdA b).length ≤ 64 := by
  unfold rdA
  rw [rds_len]
  have h1 := rN_bd b 0 64 h
  have h2 : (rN b 0 64).1 ≤ 64 := by unfold rN; rw [if_pos rfl]; exact naN_le b 64 (by omega)
  omega
theorem rdA_path (b : List Int) : ∀ x ∈ rdA b, x.p.size ≤ 1000 := rds_path _ _ _
/-- The items that are read up to the first error are those that Get asks for. -/
theorem rget_eq (b : List Int) (hb : Bt b) (j : Nat) (hj : j ≤ (rN b 0 64).1.toNat) (he : j = (rN b 0 64).1.toNat ∨ (rds j (rN b 0 64).2.1 (rN b 0 64).2.2).2.2 ≠ 0) (L : List It) (hL : L = (rds j (rN b 0 64).2.1 (rN b 0 64).2.2).1) :
    mget b = if (mput L).2 = 0 ∧ (mput L).1 = b then (L, 0) else ([], 4) := by
  by_cases h : (mput L).2 = 0 ∧ (mput L).1 = b
  · rw [if_pos h]
    have hm := mput_zero L h.1
    have hb2 : layL L = b := by have := h.2; rwa [mput_ok L hm] at this
    have hok : ∀ x ∈ L, x.ok := by rw [hL]; exact (rds_ok _ _ _ (rN_bt b 0 64 hb)).1
    rw [← hb2]
    exact mget_lay L hok hm
  · rw [if_neg h]
    rcases mget_cases b with ⟨hg, hp⟩ | hg
    · exfalso
      have hM : mck (rdA b) = 0 := mput_zero _ (by rw [hp])
      have hok : ∀ x ∈ rdA b, x.ok := rdA_ok b hb
      obtain ⟨hl64, hgood⟩ := mck_good _ hok hM
      have hbl : layL (rdA b) = b := by have := mput_ok _ hM; rw [hp] at this; exact (congrArg Prod.fst this).symm
      have hr : rN b 0 64 = (((rdA b).length : Int), ((rdA b).map layI).flatten, 0) := by
        have := rN_num (rdA b).length 64 ((rdA b).map layI).flatten (by omega) (by omega) (by omega)
        have e : Fi.numB ((rdA b).length : Int) ++ ((rdA b).map layI).flatten = b := hbl
        rwa [e] at this
      rw [hr] at hj he hL
      simp only [Int.toNat_natCast] at hj he hL
      have hs : rds j ((rdA b).map layI).flatten 0 = ((rdA b).take j, (((rdA b).drop j).map layI).flatten, 0) := by
        have e : ((rdA b).map layI).flatten = (((rdA b).take j).map layI).flatten ++ (((rdA b).drop j).map layI).flatten := by rw [← List.flatten_append, ← List.map_append, List.take_append_drop]
        have := rds_lay ((rdA b).take j) (((rdA b).drop j).map layI).flatten (fun x hx => hgood x (List.mem_of_mem_take hx))
        rw [List.length_take, Nat.min_eq_left hj, ← e] at this
        exact this
      rw [hs] at he hL
      rcases he with he | he
      · rw [he, List.take_length] at hL
        rw [hL] at h
        exact h ⟨by rw [hp], by rw [hp]⟩
      · exact he rfl
    · exact hg
set_option maxHeartbeats 8000000 in
theorem rgetM_any (v : Value) (b : List Int) (w : World) (h : Sl w v b) (hsp : ∀ x l c, v = .slice (some x) l c → 0 < c → x.spot = none) :
    Calls Tryz.prog 24 #[v] w fun e w' => ∃ v', e = .returned (.tuple #[v', .int .i64 (mget b).2]) ∧ RI w' w.heap.size v' (mget b).1 ∧ Below w.heap.size w w' := by
  have RV : Hid (∀ W, Below w.heap.size w W → Fi.Rv W v b) := fun W hb => rv_of (h.kept hb) hsp
  have HS : Hid (Sl w v b) := h
  have HBT : Bt b := h.bytes
  have HE : Hid (∀ j, j ≤ (rN b 0 64).1.toNat → (j = (rN b 0 64).1.toNat ∨ (rds j (rN b 0 64).2.1 (rN b 0 64).2.2).2.2 ≠ 0) → mget b = if (mput (rds j (rN b 0 64).2.1 (rN b 0 64).2.2).1).2 = 0 ∧ (mput (rds j (rN b 0 64).2.1 (rN b 0 64).2.2).1).1 = b then ((rds j (rN b 0 64).2.1 (rN b 0 64).2.2).1, 0) else ([], 4)) := fun j hj he => rget_eq b HBT j hj he _ rfl
  have HN0 : Hid (∃ N : Nat, (rN b 0 64).1 = (N : Int) ∧ N ≤ 64) := by
    have h1 := rN_bd b 0 64 h.bytes
    have h2 : (rN b 0 64).1 ≤ 64 := by unfold rN; rw [if_pos rfl]; exact naN_le b 64 (by omega)
    exact ⟨(rN b 0 64).1.toNat, by omega, by omega⟩
  have HB2 : Bt (rN b 0 64).2.1 := rN_bt b 0 64 HBT
  have C1 := rvNum v b 0 64 w (RV.out w (Below.refl _ _))
  obtain ⟨va, vc, rfl, -⟩ := id h
  clear h HBT hsp
  generalize mget b = R0 at *
  obtain ⟨nb, hnb⟩ : ∃ nb, nb = b.length := ⟨_, rfl⟩
  rw [← hnb] at HS C1 RV ⊢
  clear hnb
  obtain ⟨N, hN, hN64⟩ := HN0.out
  have HNN : Hid ((rN b 0 64).1.toNat = N) := by unfold Hid; omega
  rw [HNN.out] at HE
  clear HNN HN0
  generalize rN b 0 64 = q at *
  obtain ⟨qn, qx, qe⟩ := q
  simp only at C1 HE hN HB2
  subst hN
  have HBX : Hid (Bt qx) := HB2
  clear HB2
  go_enter Tryz.func24, Tryz.ntmps24
  go_wp2_with fail
  refine C1.mono ?_
  rintro e w1 ⟨sv1, rfl, rv1, b1⟩
  clear C1
  have B1 : Hid (Below w.heap.size w w1) := b1
  have RV1 : Hid (∀ W, Below w.heap.size w W → Fi.Rv W sv1 qx) := fun W hb => rv1 W (RV.out W hb)
  obtain ⟨s1a, s1c, rfl⟩ := rv_shape (RV1.out w1 b1)
  obtain ⟨W2, hW2⟩ : ∃ W2, W2 = w1.alloc (.cells #[.slice s1a qx.length s1c, .int .i64 qe] 74) := ⟨_, rfl⟩
  have b2 : Below w1.heap.size w1 W2 := by rw [hW2]; exact al_below _ _
  have B2 : Hid (Below w1.heap.size w1 W2) := b2
  have G2 : Hid (W2.heap[w1.heap.size]? = some (.cells #[.slice s1a qx.length s1c, .int .i64 qe] 74 (0, 0))) := by unfold Hid; rw [hW2]; exact heap_alloc_new _ _
  have L2 : Hid (w1.heap.size < W2.heap.size) := (Array.getElem?_eq_some_iff.1 G2.out).1
  have HW2 : Hid (w1.alloc (.cells #[.slice s1a qx.length s1c, .int .i64 qe] 74) = W2) := hW2.symm
  have LW : Hid (w.heap.size ≤ w1.heap.size) := b1.size
  clear b1 rv1 b2 hW2
  obtain ⟨R, hR⟩ : ∃ R, R = w1.heap.size := ⟨_, rfl⟩
  have HR : Hid (R = w1.heap.size) := hR
  clear hR
  obtain ⟨nq, hnq⟩ : ∃ nq, nq = qx.length := ⟨_, rfl⟩
  rw [← hnq] at HW2 G2 RV1 ⊢
  clear hnq
  go_wp2_with fail
  rw [HW2.out, ← HR.out]
  rw [← HR.out] at G2 L2
  clear HW2
  go_loopw [6, 7] (fun s q wr => ∃ (j : Nat) (sv : Value), j ≤ N ∧ q = .int .i64 j ∧ RI wr W2.heap.size s (rds j qx qe).1 ∧ wr.heap[R]? = some (.cells #[sv, .int .i64 (rds j qx qe).2.2] 74 (0, 0)) ∧ (∀ W, Below w.heap.size w W → Fi.Rv W sv (rds j qx qe).2.1) ∧ Below w1.heap.size w1 wr ∧ W2.heap.size ≤ wr.heap.size) (fun _ q _ => N - (intOf q).toNat)
  case atStart => exact ⟨0, _, by omega, rfl, RI.nil _ _, G2.out, RV1.out, B2.out, Nat.le_refl _⟩
  case round =>
    clear G2 RV1 B2
    obtain ⟨j, sv, hj, rfl, ri, hg, rv, bel, hsz⟩ := hrel
    have HO : Hid (RI wr W2.heap.size u6 (rds j qx qe).1) := ri
    have HG : Hid (wr.heap[R]? = some (.cells #[sv, .int .i64 (rds j qx qe).2.2] 74 (0, 0))) := hg
    have HV : Hid (∀ W, Below w.heap.size w W → Fi.Rv W sv (rds j qx qe).2.1) := rv
    have HB : Hid (Below w1.heap.size w1 wr) := bel
    have HZ : Hid (W2.heap.size ≤ wr.heap.size) := hsz
    have HBW : Hid (Below w.heap.size w wr) := B1.out.trans (bel.mono LW.out)
    have k1 : wr.cell? ⟨R, 1, none⟩ = some (.int .i64 (rds j qx qe).2.2) := by rw [cell_of_row _ _ _ _ _ _ hg]; rfl
    obtain ⟨ia, ic, rfl, _, _, _⟩ := ri.is.shape
    obtain ⟨sa, sc, rfl⟩ := rv_shape (rv wr HBW.out)
    have HST : Hid (Bt (rds j qx qe).2.1) := (rds_ok j qx qe HBX.out).2
    rw [rds_len] at HO ⊢
    have HLJ : Hid ((rds j qx qe).1.length = j) := rds_len j qx qe
    clear ri hg rv bel hsz
    by_cases hgo : j < N ∧ (rds j qx qe).2.2 = 0
    · obtain ⟨hlt, he0⟩ := hgo
      have lt2 : (j : Int) < (N : Int) := by omega
      have HTK : Hid ((rds (j + 1) qx qe).1 = (rds j qx qe).1 ++ [(tkI (rds j qx qe).2.1 (rds j qx qe).2.2).1] ∧ (rds (j + 1) qx qe).2 = (tkI (rds j qx qe).2.1 (rds j qx qe).2.2).2) := ⟨rfl, rfl⟩
      have HYO : Hid (It.ok (tkI (rds j qx qe).2.1 (rds j qx qe).2.2).1) := tkI_ok _ _ HST.out
      have HTI : Hid (tkI (rds j qx qe).2.1 (rds j qx qe).2.2 = (let t := rT (rds j qx qe).2.1 (rds j qx qe).2.2 128; let b := rB t.2.1 t.2.2; if b.1 = 1 then (bare (Fi.strB t.1), b.2.1, b.2.2) else let n := rN b.2.1 b.2.2 65536; let q := rR n.2.1 n.2.2 32; (⟨Fi.strB t.1, false, n.1, ov32 q.1⟩, q.2.1, q.2.2))) := rfl
      have HTB : Hid (Bt (rT (rds j qx qe).2.1 (rds j qx qe).2.2 128).2.1) := rT_bt _ _ 128 HST.out
      generalize tkI (rds j qx qe).2.1 (rds j qx qe).2.2 = TK at *
      obtain ⟨y, ty, te⟩ := TK
      simp only at HTK HYO
      generalize (rds j qx qe).1 = L at *
      generalize (rds j qx qe).2.1 = xs at *
      generalize (rds j qx qe).2.2 = er at *
      subst he0
      obtain ⟨W3, hW3⟩ : ∃ W3, W3 = wr.alloc (.cells izc 42) := ⟨_, rfl⟩
      have b3 : Below wr.heap.size wr W3 := by rw [hW3]; exact al_below _ _
      have hRl : R < wr.heap.size := (Array.getElem?_eq_some_iff.1 HG.out).1
      have HRX : Hid (R < wr.heap.size) := hRl
      have GS3 : Hid (GS wr W3 R (.slice sa xs.length sc) 0 it0) := ⟨(b3.block _ hRl).trans HG.out, by rw [hW3]; exact heap_alloc_new _ _, Sh.But.of b3, hRl⟩
      have hw3 : wr.alloc (.cells #[.string ⟨#[]⟩, .bool false, .int .i64 0, .int .u8 0, .int .u8 0, .int .u8 0, .int .u8 0, .int .u8 0, .int .u8 0, .int .u8 0, .int .u8 0, .int .u8 0, .int .u8 0, .int .u8 0, .int .u8 0, .int .u8 0, .int .u8 0, .int .u8 0, .int .u8 0, .int .u8 0, .int .u8 0, .int .u8 0, .int .u8 0, .int .u8 0, .int .u8 0, .int .u8 0, .int .u8 0, .int .u8 0, .int .u8 0, .int .u8 0, .int .u8 0, .int .u8 0, .int .u8 0, .int .u8 0, .int .u8 0] 42) = W3 := hW3.symm
      have B3 : Hid (Below w.heap.size w W3) := HBW.out.trans (b3.mono HBW.out.size)
      have FBW : Hid (∀ W, Sh.But R wr W → Below w.heap.size w W) := fun W hb => HBW.out.trans (But.low hb (by have := HR.out; have := LW.out; omega) HBW.out.size)
      have CT := rvText _ xs 0 128 W3 (HV.out W3 B3.out)
      clear b3 hRl hW3
      generalize rT xs 0 128 = T at *
      obtain ⟨tt, tx, tE⟩ := T
      simp only at CT HTI HTB
      obtain ⟨nx, hnx⟩ : ∃ nx, nx = xs.length := ⟨_, rfl⟩
      rw [← hnx] at GS3 CT HV HG
      try rw [← hnx]
      clear hnx
      obtain ⟨g0, g1, -⟩ := GS3.out.cells
      go_wp2_with fail
      try rw [hw3]
      clear hw3 k1
      refine CT.mono ?_
      rintro e w4 ⟨sv4, rfl, rv4, b4⟩
      clear CT g0 g1
      have RV4 : Hid (∀ W, Below w.heap.size w W → Fi.Rv W sv4 tx) := fun W hb => rv4 W (HV.out W hb)
      have GSa := GS3.out.call b4
      clear rv4 b4 GS3 B3 HV HG
      obtain ⟨s4a, s4c, rfl⟩ := rv_shape (RV4.out w4 (FBW.out w4 GSa.2.2.1))
      obtain ⟨n4, hn4⟩ : ∃ n4, n4 = tx.length := ⟨_, rfl⟩
      rw [← hn4] at RV4 ⊢
      clear hn4
      have HG4 : Hid (∃ u0 u1, w4.heap[R]? = some (.cells #[u0, u1] 74 (0, 0))) := ⟨_, _, GSa.1⟩
      have GSb := GSa.setR (.slice s4a n4 s4c) tE
      obtain ⟨W5, hW5⟩ : ∃ W5, W5 = w4.setRow R #[.slice s4a n4 s4c, .int .i64 tE] := ⟨_, rfl⟩
      rw [← hW5] at GSb
      have GS5 : Hid (GS wr W5 R (.slice s4a n4 s4c) tE _) := GSb
      have HE5 : Hid (w4.setRow R #[.slice s4a n4 s4c, .int .i64 tE] = W5) := hW5.symm
      clear hW5 GSb GSa
      obtain ⟨o4a, o4b, hg4⟩ := HG4.out
      have HGG4 : Hid (w4.heap[R]? = some (.cells #[o4a, o4b] 74 (0, 0))) := hg4
      clear hg4 HG4
      go_wp2_with (refine wpList_store_row rfl 74 _ _ rfl R #[.slice s4a n4 s4c, .int .i64 tE] rfl rfl 74 _ HGG4.out (info74 _ _) rfl ones2 (Hid.out ?_))
      unfold Hid
      rw [HE5.out]
      clear HGG4 HE5
      have GSc := GS5.out.setX 0 (.string (Fi.strB tt)) (set_path _ _ _ _ _)
      obtain ⟨-, -, x0, -, -, fz⟩ := GS5.out.cells
      have fz0 := fz 0
      clear fz GS5
      generalize Fi.strB tt = PP at *
      obtain ⟨W6, hW6⟩ : ∃ W6, W6 = W5.setCell ⟨wr.heap.size, 0, none⟩ (.string PP) := ⟨_, rfl⟩
      rw [← hW6] at GSc
      have HE6 : Hid (W5.setCell ⟨wr.heap.size, 0, none⟩ (.string PP) = W6) := hW6.symm
      have GS6 : Hid (GS wr W6 R (.slice s4a n4 s4c) tE ⟨PP, false, 0, z32⟩) := GSc
      clear hW6 GSc
      have CB := rvByte _ tx tE W6 (RV4.out W6 (FBW.out W6 GS6.out.2.2.1))
      obtain ⟨g0, g1, -⟩ := GS6.out.cells
      rw [← HE6.out] at g0 g1
      generalize hbb : rB tx tE = b7 at *
      have HBB : Hid (rB tx tE = b7) := hbb
      clear hbb
      have HBT7 : Hid (Bt b7.2.1) := by unfold Hid; rw [← HBB.out]; exact rB_bt _ _ HTB.out
      obtain ⟨bb, bx, bE⟩ := b7
      simp only at CB HTI HBT7
      clear HBB HTB
      go_wp2_with fail
      rw [HE6.out]
      clear HE6 x0 fz0 g0 g1
      refine CB.mono ?_
      rintro e w7 ⟨sv7, rfl, rv7, b7'⟩
      clear CB
      have RV7 : Hid (∀ W, Below w.heap.size w W → Fi.Rv W sv7 bx) := fun W hb => rv7 W (RV4.out W hb)
      have GSa := GS6.out.call b7'
      clear rv7 b7' GS6 RV4
      obtain ⟨s7a, s7c, rfl⟩ := rv_shape (RV7.out w7 (FBW.out w7 GSa.2.2.1))
      obtain ⟨n7, hn7⟩ : ∃ n7, n7 = bx.length := ⟨_, rfl⟩
      rw [← hn7] at RV7 ⊢
      clear hn7
      have HG7 : Hid (∃ u0 u1, w7.heap[R]? = some (.cells #[u0, u1] 74 (0, 0))) := ⟨_, _, GSa.1⟩
      have GSb := GSa.setR (.slice s7a n7 s7c) bE
      obtain ⟨W8, hW8⟩ : ∃ W8, W8 = w7.setRow R #[.slice s7a n7 s7c, .int .i64 bE] := ⟨_, rfl⟩
      rw [← hW8] at GSb
      have GS8 : Hid (GS wr W8 R (.slice s7a n7 s7c) bE _) := GSb
      have HE8 : Hid (w7.setRow R #[.slice s7a n7 s7c, .int .i64 bE] = W8) := hW8.symm
      clear hW8 GSb GSa
      obtain ⟨o7a, o7b, hg7⟩ := HG7.out
      have HGG7 : Hid (w7.heap[R]? = some (.cells #[o7a, o7b] 74 (0, 0))) := hg7
      clear hg7 HG7
      go_wp2_with (refine wpList_store_row rfl 74 _ _ rfl R #[.slice s7a n7 s7c, .int .i64 bE] rfl rfl 74 _ HGG7.out (info74 _ _) rfl ones2 (Hid.out ?_))
      unfold Hid
      rw [HE8.out]
      clear HGG7 HE8
      by_cases hb1 : bb = 1
      · have t1 : (bb == 1) = true := by simpa using hb1
        have HTI2 : Hid ((y, ty, te) = (bare PP, bx, bE)) := by unfold Hid; have := HTI.out; rwa [if_pos hb1] at this
        have hyy : y = bare PP := congrArg Prod.fst HTI2.out
        have hyx : ty = bx := congrArg (fun z => z.2.1) HTI2.out
        have hye : te = bE := congrArg (fun z => z.2.2) HTI2.out
        subst hyx hye
        clear HTI HTI2 hb1
        have GSc := GS8.out.setX 1 (.bool true) (set_dir _ _ _ _ _)
        obtain ⟨-, -, -, x1, -, fz⟩ := GS8.out.cells
        have fz1 := fz 1
        clear fz GS8
        obtain ⟨W9, hW9⟩ : ∃ W9, W9 = W8.setCell ⟨wr.heap.size, 1, none⟩ (.bool true) := ⟨_, rfl⟩
        rw [← hW9] at GSc
        have HE9 : Hid (W8.setCell ⟨wr.heap.size, 1, none⟩ (.bool true) = W9) := hW9.symm
        have GS9 : Hid (GS wr W9 R (.slice s7a n7 s7c) te y) := by unfold Hid; rw [hyy]; exact GSc
        clear hW9 GSc hyy
        have ZR : Hid (W9.rangeAt wr.heap.size 0 y.cells) := IB.range GS9.out.2.1
        have ZR2 : Hid ((W8.setCell ⟨wr.heap.size, 1, none⟩ (.bool true)).rangeAt wr.heap.size 0 y.cells) := by unfold Hid; rw [HE9.out]; exact ZR.out
        clear ZR
        have ZZ : Hid ((Tryz.prog.info? 42).map (·.size) = some y.cells.length) := sizeI.trans (by rw [It.len HYO.out])
        go_wp2_with (refine wpList_load_mid rfl 42 _ rfl wr.heap.size 0 rfl y.cells _ ZR2.out Tryz.underlying42 rfl ZZ.out (Hid.out ?_))
        unfold Hid
        rw [HE9.out]
        obtain ⟨V5, hV5⟩ : ∃ V5, V5 = W9.alloc (.cells y.cells.toArray 42) := ⟨_, rfl⟩
        have c5 : Below W9.heap.size W9 V5 := by rw [hV5]; exact al_below _ _
        have R5 : Hid (RI V5 W2.heap.size (.slice ia j ic) L) := (HO.out.but GS9.out.2.2.1 L2.out).below c5
        have K5 : Hid (V5.rangeAt W9.heap.size 0 y.cells) := by unfold Hid; rw [hV5]; exact (IB.new W9 y).range
        have G5 : Hid (V5.heap[R]? = some (.cells #[.slice s7a n7 s7c, .int .i64 te] 74 (0, 0))) := (c5.block _ (Array.getElem?_eq_some_iff.1 GS9.out.1).1).trans GS9.out.1
        have b15 : Below w1.heap.size w1 W9 := HB.out.trans (But.low GS9.out.2.2.1 (by have := HR.out; omega) HB.out.size)
        have D5 : Hid (Below w1.heap.size w1 V5) := b15.trans (c5.mono b15.size)
        have Z5 : Hid (W2.heap.size ≤ V5.heap.size) := Nat.le_trans HZ.out (Nat.le_trans GS9.out.2.2.1.size c5.size)
        go_wp2_with (refine wpList_bsI rfl _ rfl y HYO.out rfl (Hid.out ?_))
        unfold Hid
        rw [← hV5]
        clear hV5 c5 b15 ZR2 ZZ GS9
        go_wp2_with (at_builtin; refine wpList_append_it rfl _ _ rfl W2.heap.size _ L rfl R5.out W9.heap.size y 1 HYO.out rfl K5.out (by rw [HLJ.out]; omega) Z5.out (Hid.out ?_))
        unfold Hid
        intro v6 w6 r6 g6
        have c6 : Below W2.heap.size V5 w6 := (Below.refl W2.heap.size V5).grown g6 Z5.out (own_base R5.out.1)
        have O6 : Hid (RI w6 W2.heap.size v6 (rds (j + 1) qx qe).1) := by unfold Hid; rw [HTK.out.1]; exact r6
        have E6 : Hid (w6.heap[R]? = some (.cells #[.slice s7a n7 s7c, .int .i64 (rds (j + 1) qx qe).2.2] 74 (0, 0))) := by unfold Hid; rw [HTK.out.2]; exact (c6.block _ L2.out).trans G5.out
        have V6 : Hid (∀ W, Below w.heap.size w W → Fi.Rv W (.slice s7a n7 s7c) (rds (j + 1) qx qe).2.1) := by unfold Hid; rw [HTK.out.2]; exact RV7.out
        have D6 : Hid (Below w1.heap.size w1 w6) := D5.out.trans (c6.mono (by have := L2.out; have := HR.out; omega))
        have Z6 : Hid (W2.heap.size ≤ w6.heap.size) := Nat.le_trans Z5.out c6.size
        clear r6 g6 c6 R5 K5 G5 D5 Z5
        go_wp2
        go_roundw
        case rel => exact ⟨j + 1, _, by omega, by go_num, O6.out, E6.out, V6.out, D6.out, Z6.out⟩
        case measure => simp [intOf]; omega
      · have t1 : (bb == 1) = false := by simpa using hb1
        have HTI2 : Hid ((y, ty, te) = (let n := rN bx bE 65536; let q := rR n.2.1 n.2.2 32; ((⟨PP, false, n.1, ov32 q.1⟩ : It), q.2.1, q.2.2))) := by unfold Hid; have := HTI.out; rwa [if_neg hb1] at this
        clear HTI hb1
        have GSc := GS8.out.setX 1 (.bool false) (set_dir _ _ _ _ _)
        obtain ⟨-, -, -, x1, -, fz⟩ := GS8.out.cells
        have fz1 := fz 1
        clear fz GS8
        obtain ⟨W9, hW9⟩ : ∃ W9, W9 = W8.setCell ⟨wr.heap.size, 1, none⟩ (.bool false) := ⟨_, rfl⟩
        rw [← hW9] at GSc
        have HE9 : Hid (W8.setCell ⟨wr.heap.size, 1, none⟩ (.bool false) = W9) := hW9.symm
        have GS9 : Hid (GS wr W9 R (.slice s7a n7 s7c) bE ⟨PP, false, 0, z32⟩) := GSc
        clear hW9 GSc
        have CN := rvNum _ bx bE 65536 W9 (RV7.out W9 (FBW.out W9 GS9.out.2.2.1))
        obtain ⟨g0, g1, -⟩ := GS9.out.cells
        rw [← HE9.out] at g0 g1
        have HNB : Hid (Bt (rN bx bE 65536).2.1) := rN_bt _ _ _ HBT7.out
        generalize rN bx bE 65536 = nn7 at *
        obtain ⟨nn, nx7, nE⟩ := nn7
        simp only at CN HTI2 HNB
        go_wp2_with fail
        rw [HE9.out]
        clear HE9 x1 fz1 g0 g1 HBT7
        refine CN.mono ?_
        rintro e w10 ⟨sv10, rfl, rv10, b10⟩
        clear CN
        have RV10 : Hid (∀ W, Below w.heap.size w W → Fi.Rv W sv10 nx7) := fun W hb => rv10 W (RV7.out W hb)
        have GSa := GS9.out.call b10
        clear rv10 b10 GS9 RV7
        obtain ⟨s10a, s10c, rfl⟩ := rv_shape (RV10.out w10 (FBW.out w10 GSa.2.2.1))
        obtain ⟨n10, hn10⟩ : ∃ n10, n10 = nx7.length := ⟨_, rfl⟩
        rw [← hn10] at RV10 ⊢
        clear hn10
        have HG10 : Hid (∃ u0 u1, w10.heap[R]? = some (.cells #[u0, u1] 74 (0, 0))) := ⟨_, _, GSa.1⟩
        have GSb := GSa.setR (.slice s10a n10 s10c) nE
        obtain ⟨W11, hW11⟩ : ∃ W11, W11 = w10.setRow R #[.slice s10a n10 s10c, .int .i64 nE] := ⟨_, rfl⟩
        rw [← hW11] at GSb
        have GS11 : Hid (GS wr W11 R (.slice s10a n10 s10c) nE _) := GSb
        have HE11 : Hid (w10.setRow R #[.slice s10a n10 s10c, .int .i64 nE] = W11) := hW11.symm
        clear hW11 GSb GSa
        obtain ⟨o10a, o10b, hg10⟩ := HG10.out
        have HGG10 : Hid (w10.heap[R]? = some (.cells #[o10a, o10b] 74 (0, 0))) := hg10
        clear hg10 HG10
        go_wp2_with (refine wpList_store_row rfl 74 _ _ rfl R #[.slice s10a n10 s10c, .int .i64 nE] rfl rfl 74 _ HGG10.out (info74 _ _) rfl ones2 (Hid.out ?_))
        unfold Hid
        rw [HE11.out]
        clear HGG10 HE11
        have GSc := GS11.out.setX 2 (.int .i64 nn) (set_size _ _ _ _ _)
        obtain ⟨-, -, -, -, x2, fz⟩ := GS11.out.cells
        have fz2 := fz 2
        clear fz GS11
        obtain ⟨W12, hW12⟩ : ∃ W12, W12 = W11.setCell ⟨wr.heap.size, 2, none⟩ (.int .i64 nn) := ⟨_, rfl⟩
        rw [← hW12] at GSc
        have HE12 : Hid (W11.setCell ⟨wr.heap.size, 2, none⟩ (.int .i64 nn) = W12) := hW12.symm
        have GS12 : Hid (GS wr W12 R (.slice s10a n10 s10c) nE ⟨PP, false, nn, z32⟩) := GSc
        clear hW12 GSc
        have CR := rvRaw _ nx7 nE 32 W12 (RV10.out W12 (FBW.out W12 GS12.out.2.2.1))
        obtain ⟨g0, g1, -⟩ := GS12.out.cells
        rw [← HE12.out] at g0 g1
        have HQB : Hid (Bt (rR nx7 nE 32).1) := rR_bytes _ _ _ HNB.out
        have HQL : Hid ((rR nx7 nE 32).1.length ≤ 32) := rR_len _ _ 32
        generalize rR nx7 nE 32 = qq12 at *
        obtain ⟨qq, qy, qE⟩ := qq12
        simp only at CR HTI2 HQB HQL
        have hyy : y = ⟨PP, false, nn, ov32 qq⟩ := congrArg Prod.fst HTI2.out
        have hyx : ty = qy := congrArg (fun z => z.2.1) HTI2.out
        have hye : te = qE := congrArg (fun z => z.2.2) HTI2.out
        subst hyx hye
        clear HTI2 HNB
        go_wp2_with fail
        rw [HE12.out]
        clear HE12 x2 fz2 g0 g1
        refine CR.mono ?_
        rintro e w13 ⟨sv13, rfl, rv13, b13⟩
        clear CR
        have RV13 : Hid (∀ W, Below w.heap.size w W → Fi.Rv W sv13 ty) := fun W hb => rv13 W (RV10.out W hb)
        have GSa := GS12.out.call b13
        clear rv13 b13 GS12 RV10
        obtain ⟨s13a, s13c, rfl⟩ := rv_shape (RV13.out w13 (FBW.out w13 GSa.2.2.1))
        obtain ⟨n13, hn13⟩ : ∃ n13, n13 = ty.length := ⟨_, rfl⟩
        rw [← hn13] at RV13 ⊢
        clear hn13
        have HG13 : Hid (∃ u0 u1, w13.heap[R]? = some (.cells #[u0, u1] 74 (0, 0))) := ⟨_, _, GSa.1⟩
        have GSb := GSa.setR (.slice s13a n13 s13c) te
        obtain ⟨W14, hW14⟩ : ∃ W14, W14 = w13.setRow R #[.slice s13a n13 s13c, .int .i64 te] := ⟨_, rfl⟩
        rw [← hW14] at GSb
        have GS14 : Hid (GS wr W14 R (.slice s13a n13 s13c) te _) := GSb
        have HE14 : Hid (w13.setRow R #[.slice s13a n13 s13c, .int .i64 te] = W14) := hW14.symm
        clear hW14 GSb GSa
        obtain ⟨o13a, o13b, hg13⟩ := HG13.out
        have HGG13 : Hid (w13.heap[R]? = some (.cells #[o13a, o13b] 74 (0, 0))) := hg13
        clear hg13 HG13
        go_wp2_with (refine wpList_store_row rfl 74 _ _ rfl R #[.slice s13a n13 s13c, .int .i64 te] rfl rfl 74 _ HGG13.out (info74 _ _) rfl ones2 (Hid.out ?_))
        unfold Hid
        rw [HE14.out]
        clear HGG13 HE14
        have HIX : Hid (∀ (W : World) (k : Nat), k < qq.length → (Instr.index 9 (.string (Fi.strB qq)) (.int .i64 (k : Int))).run Tryz.prog W = .ok (.int .u8 (qq.getD k 0)) W) := fun W k hk => run_index_sb qq HQB.out W k hk
        have hss : (Fi.strB qq).size = qq.length := Fi.strB_size qq
        obtain ⟨ql, hql⟩ : ∃ ql, ql = qq.length := ⟨_, rfl⟩
        have HQN : Hid (ql = qq.length) := hql
        have HLS : Hid ((Fi.strB qq).size = ql) := by unfold Hid; rw [hql]; exact hss
        rw [← hql] at HQL HIX
        have hql32 : ql ≤ 32 := HQL.out
        clear hss hql
        generalize Fi.strB qq = SQ at *
        have lsz : ((SQ.size : Nat) : Int) = (ql : Int) := by rw [HLS.out]
        have GS14' : Hid (GS wr W14 R (.slice s13a n13 s13c) te ⟨PP, false, nn, ovk qq 0⟩) := GS14.out
        clear GS14
        go_wp2_with fail
        obtain ⟨wo, rfl⟩ : ∃ wo, wo = wr := ⟨wr, rfl⟩
        go_loopw [11] (fun q wx => ∃ k : Nat, k ≤ ql ∧ q = .int .i64 k ∧ GS wo wx R (.slice s13a n13 s13c) te ⟨PP, false, nn, ovk qq k⟩) (fun q _ => ql - (intOf q).toNat)
        case atStart => exact ⟨0, by omega, rfl, GS14'.out⟩
        case round =>
          clear GS14'
          obtain ⟨k, hk, rfl, gs⟩ := hrel
          have GK : Hid (GS wo wr R (.slice s13a n13 s13c) te ⟨PP, false, nn, ovk qq k⟩) := gs
          clear gs
          by_cases hkl : k < ql
          · have lk1 : (k : Int) < (ql : Int) := by omega
            have lk2 : (k : Int) < 32 := by omega
            have lk3 : (0 : Int) ≤ (k : Int) := by omega
            have hix := HIX.out wr k hkl
            have xk := GK.out.sum k (by show k < (ovk qq k).length; rw [ovk_len qq k (by have := HQN.out; omega) (by have := HQN.out; omega)]; omega)
            obtain ⟨-, -, -, -, -, fz⟩ := GK.out.cells
            have fzk := fz (3 + k)
            have GN : Hid (GS wo (wr.setCell ⟨wo.heap.size, 3 + k, none⟩ (.int .u8 (qq.getD k 0))) R (.slice s13a n13 s13c) te ⟨PP, false, nn, ovk qq (k + 1)⟩) := by
              refine GK.out.setX (3 + k) _ ?_
              rw [set_sum, ovk_set qq k (by have := HQN.out; omega) (by have := HQN.out; omega)]
            clear fz
            generalize qq.getD k 0 = zk at *
            go_wp2
            go_roundw
            case rel => exact ⟨k + 1, by omega, by go_num, GN.out⟩
            case measure => simp [intOf]; omega
          · obtain rfl : k = ql := by omega
            have lk1 : ¬ (k : Int) < (k : Int) := by omega
            have GS9 : Hid (GS wo wr R (.slice s13a n13 s13c) te y) := by
              unfold Hid
              rw [hyy, ← ovk_all, ← HQN.out]
              exact GK.out
            have ZR2 : Hid (wr.rangeAt wo.heap.size 0 y.cells) := IB.range GS9.out.2.1
            clear GK hyy
            have ZZ : Hid ((Tryz.prog.info? 42).map (·.size) = some y.cells.length) := sizeI.trans (by rw [It.len HYO.out])
            go_wp2_with (refine wpList_load_mid rfl 42 _ rfl wo.heap.size 0 rfl y.cells _ ZR2.out Tryz.underlying42 rfl ZZ.out (Hid.out ?_))
            unfold Hid
            skip
            obtain ⟨V5, hV5⟩ : ∃ V5, V5 = wr.alloc (.cells y.cells.toArray 42) := ⟨_, rfl⟩
            have c5 : Below wr.heap.size wr V5 := by rw [hV5]; exact al_below _ _
            have R5 : Hid (RI V5 W2.heap.size (.slice ia j ic) L) := (HO.out.but GS9.out.2.2.1 L2.out).below c5
            have K5 : Hid (V5.rangeAt wr.heap.size 0 y.cells) := by unfold Hid; rw [hV5]; exact (IB.new wr y).range
            have G5 : Hid (V5.heap[R]? = some (.cells #[.slice s13a n13 s13c, .int .i64 te] 74 (0, 0))) := (c5.block _ (Array.getElem?_eq_some_iff.1 GS9.out.1).1).trans GS9.out.1
            have b15 : Below w1.heap.size w1 wr := HB.out.trans (But.low GS9.out.2.2.1 (by have := HR.out; omega) HB.out.size)
            have D5 : Hid (Below w1.heap.size w1 V5) := b15.trans (c5.mono b15.size)
            have Z5 : Hid (W2.heap.size ≤ V5.heap.size) := Nat.le_trans HZ.out (Nat.le_trans GS9.out.2.2.1.size c5.size)
            go_wp2_with (refine wpList_bsI rfl _ rfl y HYO.out rfl (Hid.out ?_))
            unfold Hid
            rw [← hV5]
            clear hV5 c5 b15 ZR2 ZZ GS9
            go_wp2_with (at_builtin; refine wpList_append_it rfl _ _ rfl W2.heap.size _ L rfl R5.out wr.heap.size y 1 HYO.out rfl K5.out (by rw [HLJ.out]; omega) Z5.out (Hid.out ?_))
            unfold Hid
            intro v6 w6 r6 g6
            have c6 : Below W2.heap.size V5 w6 := (Below.refl W2.heap.size V5).grown g6 Z5.out (own_base R5.out.1)
            have O6 : Hid (RI w6 W2.heap.size v6 (rds (j + 1) qx qe).1) := by unfold Hid; rw [HTK.out.1]; exact r6
            have E6 : Hid (w6.heap[R]? = some (.cells #[.slice s13a n13 s13c, .int .i64 (rds (j + 1) qx qe).2.2] 74 (0, 0))) := by unfold Hid; rw [HTK.out.2]; exact (c6.block _ L2.out).trans G5.out
            have V6 : Hid (∀ W, Below w.heap.size w W → Fi.Rv W (.slice s13a n13 s13c) (rds (j + 1) qx qe).2.1) := by unfold Hid; rw [HTK.out.2]; exact RV13.out
            have D6 : Hid (Below w1.heap.size w1 w6) := D5.out.trans (c6.mono (by have := L2.out; have := HR.out; omega))
            have Z6 : Hid (W2.heap.size ≤ w6.heap.size) := Nat.le_trans Z5.out c6.size
            clear r6 g6 c6 R5 K5 G5 D5 Z5
            go_wp2
            go_roundw
            case rel => exact ⟨j + 1, _, by omega, by go_num, O6.out, E6.out, V6.out, D6.out, Z6.out⟩
            case measure => simp [intOf]; omega
    · have HX : Hid (¬ (j < N ∧ (rds j qx qe).2.2 = 0)) := hgo
      have hj2 : j = N ∨ (rds j qx qe).2.2 ≠ 0 := by
        rcases Nat.lt_or_ge j N with h1 | h1
        · right; exact fun h2 => hgo ⟨h1, h2⟩
        · left; omega
      have HEE : Hid (R0 = if (mput (rds j qx qe).1).2 = 0 ∧ (mput (rds j qx qe).1).1 = b then ((rds j qx qe).1, 0) else ([], 4)) := HE.out j hj hj2
      have CP := rput_any (.slice ia j ic) (rds j qx qe).1 wr HO.out.is (by rw [HLJ.out]; omega) (rds_path j qx qe)
      have HOW : Hid (RI wr w.heap.size (.slice ia j ic) (rds j qx qe).1) := HO.out.mono (Nat.le_trans LW.out (by have := L2.out; have := HR.out; omega))
      clear HE HO HG HV HB HST HLJ hj2 HX
      have T0 : Hid ((j < N → ((rds j qx qe).2.2 == 0) = false)) := fun h1 => by
        have := fun h2 => hgo ⟨h1, h2⟩
        simpa using this
      clear hgo
      generalize (rds j qx qe).1 = L at *
      generalize (rds j qx qe).2.1.length = nxs at *
      generalize (rds j qx qe).2.2 = er at *
      generalize mput L = P at *
      obtain ⟨pb, pe⟩ := P
      simp only at CP HEE
      rcases Nat.lt_or_ge j N with hjn | hjn
      · have lt2 : (j : Int) < (N : Int) := by omega
        have te0 := T0.out hjn
        clear T0
        go_wp2_with fail
        refine CP.mono ?_
        rintro e w6 ⟨v6, rfl, o6, b6⟩
        clear CP
        have B6 : Hid (Below w.heap.size w w6) := HBW.out.trans (b6.mono HBW.out.size)
        have R6 : Hid (RI w6 w.heap.size (.slice ia j ic) L) := HOW.out.below b6
        have s6 := o6.sl
        have OB6 : Hid (∀ k, 0 ≤ pb.getD k 0 ∧ pb.getD k 0 < 256) := o6.2
        obtain ⟨pa, pc, rfl⟩ := o6.shape
        have cv1 := s6.conv
        have cv2 := (HS.out.kept B6.out).conv
        generalize pb.length = np at *
        clear o6 b6 HOW HBW s6
        by_cases hpe : pe = 0
        · subst hpe
          have HG2 : Hid (R0 = if pb = b then (L, 0) else ([], 4)) := by unfold Hid; have := HEE.out; simpa using this
          clear HEE
          by_cases hq : pb = b
          · obtain rfl : R0 = (L, 0) := by have := HG2.out; rwa [if_pos hq] at this
            subst hq
            have t3 : ((strB pb).toList == (strB pb).toList) = true := by simp
            have t3b : ((strB pb).toList != (strB pb).toList) = false := by simp
            generalize strB pb = SR at *
            clear HG2
            go_wp2
            go_ret2
            exact ⟨_, rfl, R6.out, B6.out⟩
          · obtain rfl : R0 = ([], 4) := by have := HG2.out; rwa [if_neg hq] at this
            have t3 : ((strB pb).toList == (strB b).toList) = false := by rw [tl_beq]; simp only [decide_eq_false_iff_not]; exact fun h => hq (strB_inj2 OB6.out HS.out.bytes h)
            have t3b : ((strB pb).toList != (strB b).toList) = true := by rw [bne, t3]; rfl
            generalize strB pb = SR at *
            generalize strB b = SB at *
            clear HG2 hq
            go_wp2
            go_ret2
            exact ⟨_, rfl, RI.nil _ _, B6.out⟩
        · obtain rfl : R0 = ([], 4) := by have := HEE.out; rwa [if_neg (fun h => hpe h.1)] at this
          have t0 : (pe != 0) = true := by simpa using hpe
          clear HEE cv1 cv2
          go_wp2
          go_ret2
          exact ⟨_, rfl, RI.nil _ _, B6.out⟩
      · have lt2 : ¬ (j : Int) < (N : Int) := by omega
        clear T0
        go_wp2_with fail
        refine CP.mono ?_
        rintro e w6 ⟨v6, rfl, o6, b6⟩
        clear CP
        have B6 : Hid (Below w.heap.size w w6) := HBW.out.trans (b6.mono HBW.out.size)
        have R6 : Hid (RI w6 w.heap.size (.slice ia j ic) L) := HOW.out.below b6
        have s6 := o6.sl
        have OB6 : Hid (∀ k, 0 ≤ pb.getD k 0 ∧ pb.getD k 0 < 256) := o6.2
        obtain ⟨pa, pc, rfl⟩ := o6.shape
        have cv1 := s6.conv
        have cv2 := (HS.out.kept B6.out).conv
        generalize pb.length = np at *
        clear o6 b6 HOW HBW s6
        by_cases hpe : pe = 0
        · subst hpe
          have HG2 : Hid (R0 = if pb = b then (L, 0) else ([], 4)) := by unfold Hid; have := HEE.out; simpa using this
          clear HEE
          by_cases hq : pb = b
          · obtain rfl : R0 = (L, 0) := by have := HG2.out; rwa [if_pos hq] at this
            subst hq
            have t3 : ((strB pb).toList == (strB pb).toList) = true := by simp
            have t3b : ((strB pb).toList != (strB pb).toList) = false := by simp
            generalize strB pb = SR at *
            clear HG2
            go_wp2
            go_ret2
            exact ⟨_, rfl, R6.out, B6.out⟩
          · obtain rfl : R0 = ([], 4) := by have := HG2.out; rwa [if_neg hq] at this
            have t3 : ((strB pb).toList == (strB b).toList) = false := by rw [tl_beq]; simp only [decide_eq_false_iff_not]; exact fun h => hq (strB_inj2 OB6.out HS.out.bytes h)
            have t3b : ((strB pb).toList != (strB b).toList) = true := by rw [bne, t3]; rfl
            generalize strB pb = SR at *
            generalize strB b = SB at *
            clear HG2 hq
            go_wp2
            go_ret2
            exact ⟨_, rfl, RI.nil _ _, B6.out⟩
        · obtain rfl : R0 = ([], 4) := by have := HEE.out; rwa [if_neg (fun h => hpe h.1)] at this
          have t0 : (pe != 0) = true := by simpa using hpe
          clear HEE cv1 cv2
          go_wp2
          go_ret2
          exact ⟨_, rfl, RI.nil _ _, B6.out⟩
end Go.Proofs.YtdnbiibijoggoaaGreatDoor
