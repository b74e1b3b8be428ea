/-
  What flatten tells.
-/
import Derived.Test.YtmplpdjkhdaniaaGreatDoorWaz
namespace Go.Proofs.YtmplpdjkhdaniaaGreatDoor
open Go.RowKit
set_option maxRecDepth 100000

set_option maxHeartbeats 8000000 in
theorem flat2 (n : Int) (sv : Value) (l : List Sp) (w : World) (hs : SSp w sv l) (hl : l.length ≤ 100000) :
    Calls Tryz.prog 32 #[.iface 72 (.agg #[.int .i64 n, sv])] w fun e w' => ∃ sv', e = .returned (.agg (plA ⟨2, 0, n, 0, false, ⟨#[]⟩, zn, l⟩ sv')) ∧ RSp w' w.heap.size sv' l ∧ Below w.heap.size w w' := by
  obtain ⟨W1, hW1⟩ : ∃ W1, W1 = w.alloc (.cells #[.int .u8 0, .int .i64 0, .int .i64 0, .int .i64 0, .bool false, .string ⟨#[]⟩, .int .u8 0, .int .u8 0, .int .u8 0, .int .u8 0, .int .u8 0, .int .u8 0, .int .u8 0, .int .u8 0, .int .u8 0, .int .u8 0, .int .u8 0, .int .u8 0, .int .u8 0, .int .u8 0, .int .u8 0, .int .u8 0, .slice none 0 0] 33) := ⟨_, rfl⟩
  have b1 : Below w.heap.size w W1 := by rw [hW1]; exact al_below _ _
  have g1 : W1.heap[w.heap.size]? = some (.cells #[.int .u8 0, .int .i64 0, .int .i64 0, .int .i64 0, .bool false, .string ⟨#[]⟩, .int .u8 0, .int .u8 0, .int .u8 0, .int .u8 0, .int .u8 0, .int .u8 0, .int .u8 0, .int .u8 0, .int .u8 0, .int .u8 0, .int .u8 0, .int .u8 0, .int .u8 0, .int .u8 0, .int .u8 0, .int .u8 0, .slice none 0 0] 33 (0, 0)) := by rw [hW1]; exact heap_alloc_new _ _
  obtain ⟨W2, hW2⟩ : ∃ W2, W2 = W1.alloc (.cells #[.int .i64 n, sv] 72) := ⟨_, rfl⟩
  have b2 : Below W1.heap.size W1 W2 := by rw [hW2]; exact al_below _ _
  have h2 : W2.heap[W1.heap.size]? = some (.cells #[.int .i64 n, sv] 72 (0, 0)) := by rw [hW2]; exact heap_alloc_new _ _
  have HG2 : Hid (W2.heap[w.heap.size]? = some (.cells #[.int .u8 0, .int .i64 0, .int .i64 0, .int .i64 0, .bool false, .string ⟨#[]⟩, .int .u8 0, .int .u8 0, .int .u8 0, .int .u8 0, .int .u8 0, .int .u8 0, .int .u8 0, .int .u8 0, .int .u8 0, .int .u8 0, .int .u8 0, .int .u8 0, .int .u8 0, .int .u8 0, .int .u8 0, .int .u8 0, .slice none 0 0] 33 (0, 0))) := blk_kept g1 b2 (blk_lt g1)
  have hlt1 : w.heap.size < W1.heap.size := blk_lt g1
  have HNE : Hid (w.heap.size ≠ W1.heap.size) := by unfold Hid; omega
  have HH2 : Hid (W2.heap[W1.heap.size]? = some (.cells #[.int .i64 n, sv] 72 (0, 0))) := h2
  have HB2 : Hid (Below w.heap.size w W2) := b1.trans (b2.mono b1.size)
  have HLT : Hid (W1.heap.size < W2.heap.size) := blk_lt h2
  have CO : Hid (∀ x, Below w.heap.size w x → Calls Tryz.prog 37 #[sv] x fun e w' => ∃ v', e = .returned v' ∧ RSp w' x.heap.size v' l ∧ Below x.heap.size x w') := fun x hx => ownSpans_any x sv l (hs.kept hx) hl
  obtain ⟨sa, sc, rfl, -, -, -⟩ := hs.shape
  have HSZ : Hid (∀ v, (Tryz.prog.info? 33).map (·.size) = some (plA ⟨2, 0, n, 0, false, ⟨#[]⟩, zn, l⟩ v).size) := fun v => infoP
  have HON : Hid (∀ (a : Option Addr) (m c : Nat), (plA ⟨2, 0, n, 0, false, ⟨#[]⟩, zn, l⟩ (.slice a m c)).all (·.oneCell') = true) := fun a m c => all_oneCell_toArray (plL_one rfl)
  have a1 : ∀ (v : Value) (W : World), (Instr.typeAssert (.iface 72 v) 29 69 true).run Tryz.prog W = .ok (.tuple #[.agg #[], .bool false]) W := fun v W => by kernel_rfl
  have a2 : ∀ (v : Value) (W : World), (Instr.typeAssert (.iface 72 v) 29 72 true).run Tryz.prog W = .ok (.tuple #[v, .bool true]) W := fun v W => by kernel_rfl
  clear b1 g1 b2 h2 hs hlt1
  go_enter Tryz.func32, Tryz.ntmps32
  go_upto_region 1 with fail
  rw [← hW1]
  clear hW1
  go_upto_region 7 with fail
  rw [← hW2]
  clear hW2
  refine wp_region_held_drew (S := fun x : World => Below w.heap.size w x ∧ W2.heap.size ≤ x.heap.size ∧ x.heap[W1.heap.size]? = some (.cells #[.int .i64 n, .slice sa l.length sc] 72 (0, 0))) (by kernel_rfl) (⟨HB2.out.drew, Nat.le_refl _, HH2.out⟩) (fun _ => ?_)
  refine wpAnyH_name (fun u0 hu0 => ?_)
  have su0 : (fun x : World => Below w.heap.size w x ∧ W2.heap.size ≤ x.heap.size ∧ x.heap[W1.heap.size]? = some (.cells #[.int .i64 n, .slice sa l.length sc] 72 (0, 0))) u0 := by rw [hu0.out]; exact (⟨HB2.out.drew, Nat.le_refl _, HH2.out⟩)
  have g0u0 : u0.heap[w.heap.size]? = some (.cells #[.int .u8 0, .int .i64 0, .int .i64 0, .int .i64 0, .bool false, .string ⟨#[]⟩, .int .u8 0, .int .u8 0, .int .u8 0, .int .u8 0, .int .u8 0, .int .u8 0, .int .u8 0, .int .u8 0, .int .u8 0, .int .u8 0, .int .u8 0, .int .u8 0, .int .u8 0, .int .u8 0, .int .u8 0, .int .u8 0, .slice none 0 0] 33 (0, 0)) := by rw [hu0.out]; exact HG2.out
  refine wpAnyH_take (i := 0) (oi := { dst := some 21, op := Op.fieldAddr 72 (Operand.tmp 4) 0, type := 0, pos := "frame.go:226", after := #[], guard := none }) (v := ?vr1) rfl (by kernel_rfl) (by kernel_rfl) (by kernel_rfl) (fun _ _ _ h => h) (Or.inl ⟨by rfl, ?yr1⟩) su0 ?rr1
  case yr1 => (intro w hSw; go_simp; try with_reducible rfl)
  try simp only [Act.put, List.setIfInBounds_toArray, List.set_cons_zero, List.set_cons_succ]
  refine wpAnyH_take (i := 1) (oi := { dst := some 22, op := Op.load 3 (Operand.tmp 21), type := 3, pos := "frame.go:226", after := #[{ on := 0, ground := Ground.data }], guard := none }) (v := .int .i64 n) rfl (by kernel_rfl) (by kernel_rfl) (by kernel_rfl) (fun _ _ _ h => h) (Or.inl ⟨by rfl, ?yr2⟩) su0 ?rr2
  case yr2 => (intro w hSw; have q7 := hSw.2.2; have q8 : w.cell? ⟨W1.heap.size, 0, none⟩ = some (.int .i64 n) := (by simp [World.cell?, q7]); go_simp; try with_reducible rfl)
  try simp only [Act.put, List.setIfInBounds_toArray, List.set_cons_zero, List.set_cons_succ]
  refine wpAnyH_take (i := 2) (oi := { dst := some 23, op := Op.fieldAddr 72 (Operand.tmp 4) 1, type := 0, pos := "frame.go:226", after := #[], guard := none }) (v := ?vr3) rfl (by kernel_rfl) (by kernel_rfl) (by kernel_rfl) (fun _ _ _ h => h) (Or.inl ⟨by rfl, ?yr3⟩) su0 ?rr3
  case yr3 => (intro w hSw; go_simp; try with_reducible rfl)
  try simp only [Act.put, List.setIfInBounds_toArray, List.set_cons_zero, List.set_cons_succ]
  refine wpAnyH_take (i := 3) (oi := { dst := some 24, op := Op.load 23 (Operand.tmp 23), type := 23, pos := "frame.go:226", after := #[{ on := 2, ground := Ground.data }], guard := none }) (v := .slice sa l.length sc) rfl (by kernel_rfl) (by kernel_rfl) (by kernel_rfl) (fun _ _ _ h => h) (Or.inl ⟨by rfl, ?yr4⟩) su0 ?rr4
  case yr4 => (intro w hSw; have q7 := hSw.2.2; have q8 : w.cell? ⟨W1.heap.size, 1, none⟩ = some (.slice sa l.length sc) := (by simp [World.cell?, q7]); go_simp; try with_reducible rfl)
  try simp only [Act.put, List.setIfInBounds_toArray, List.set_cons_zero, List.set_cons_succ]
  refine wpAnyH_ready (rs := [4]) (by kernel_rfl) (by simp) ?_
  refine AllReadyH.cons (o := { dst := some 25, op := Op.call { callee := Callee.value (Operand.func 37), args := #[Operand.tmp 24], argTypes := #[23] }, type := 23, pos := "frame.go:226", after := #[{ on := 3, ground := Ground.data }], guard := none }) rfl (fun KK hKK => ?_) ?_
  · go_simp
    refine (CO.out _ su0.1).mono ?_
    rintro e u5' ⟨vu5, rfl, ou5, bu5'⟩
    obtain ⟨oa, oc, rfl, -, -, -⟩ := (RSp.is ou5).shape
    (try go_wp2_with fail)
    refine hKK.out _ _ (⟨su0.1.trans (Below.mono bu5' su0.1.size), Nat.le_trans su0.2.1 bu5'.size, blk_kept su0.2.2 bu5' (blk_lt su0.2.2)⟩) (fun _ => ?_)
    clear hKK KK
    try simp only [Act.put, List.setIfInBounds_toArray, List.set_cons_zero, List.set_cons_succ]
    refine wpAnyH_name (fun u5 hu5 => ?_)
    have su5 : (fun x : World => Below w.heap.size w x ∧ W2.heap.size ≤ x.heap.size ∧ x.heap[W1.heap.size]? = some (.cells #[.int .i64 n, .slice sa l.length sc] 72 (0, 0))) u5 := by rw [hu5.out]; exact (⟨su0.1.trans (Below.mono bu5' su0.1.size), Nat.le_trans su0.2.1 bu5'.size, blk_kept su0.2.2 bu5' (blk_lt su0.2.2)⟩)
    have OO : Hid (RSp u5 w.heap.size (.slice oa l.length oc) l) := by unfold Hid; rw [hu5.out]; exact RSp.mono ou5 (su0.1.size)
    have GG : Hid (u5.heap[w.heap.size]? = some (.cells #[.int .u8 0, .int .i64 0, .int .i64 0, .int .i64 0, .bool false, .string ⟨#[]⟩, .int .u8 0, .int .u8 0, .int .u8 0, .int .u8 0, .int .u8 0, .int .u8 0, .int .u8 0, .int .u8 0, .int .u8 0, .int .u8 0, .int .u8 0, .int .u8 0, .int .u8 0, .int .u8 0, .int .u8 0, .int .u8 0, .slice none 0 0] 33 (0, 0))) := by unfold Hid; rw [hu5.out]; exact blk_kept g0u0 bu5' (blk_lt g0u0)
    refine wpAnyH_take (i := 5) (oi := { dst := some 26, op := Op.build 33 #[(0, Operand.const (Value.int IntKind.u8 2)), (2, Operand.tmp 22), (7, Operand.tmp 25)], type := 33, pos := "frame.go:226", after := #[{ on := 1, ground := Ground.data }, { on := 4, ground := Ground.data }], guard := none }) (v := .agg (plA ⟨2, 0, n, 0, false, ⟨#[]⟩, zn, l⟩ (.slice oa l.length oc))) rfl (by kernel_rfl) (by kernel_rfl) (by kernel_rfl) (fun _ _ _ h => h) (Or.inl ⟨by rfl, ?yr6⟩) su5 ?rr6
    case yr6 => (intro w hSw; go_simp; rfl; try with_reducible rfl)
    try simp only [Act.put, List.setIfInBounds_toArray, List.set_cons_zero, List.set_cons_succ]
    refine wpAnyH_ready (rs := [6]) (by kernel_rfl) (by simp) ?_
    refine AllReadyH.cons (o := { dst := none, op := Op.store 33 (Operand.tmp 2) (Operand.tmp 26), type := 0, pos := "frame.go:226", after := #[{ on := 5, ground := Ground.data }, { on := 4, ground := Ground.chain }, { on := 0, ground := Ground.phase }, { on := 1, ground := Ground.phase }, { on := 2, ground := Ground.phase }, { on := 3, ground := Ground.phase }, { on := 4, ground := Ground.phase }, { on := 5, ground := Ground.phase }], guard := none }) rfl (fun KK hKK => ?_) ?_
    · refine wp_store_row 33 _ _ rfl w.heap.size (plA ⟨2, 0, n, 0, false, ⟨#[]⟩, zn, l⟩ (.slice oa l.length oc)) rfl rfl 33 _ GG.out (HSZ.out _) rfl (HON.out _ _ _) ?_
      refine hKK.out _ _ (⟨below_setRow su5.1 (Nat.le_refl _) _, by rw [setRow_size]; exact su5.2.1, by rw [setRow_other _ _ _ _ (Ne.symm HNE.out)]; exact su5.2.2⟩) (fun _ => ?_)
      clear hKK KK
      try simp only [Act.put]
      refine wpAnyH_name (fun u7 hu7 => ?_)
      have su7 : (fun x : World => Below w.heap.size w x ∧ W2.heap.size ≤ x.heap.size ∧ x.heap[W1.heap.size]? = some (.cells #[.int .i64 n, .slice sa l.length sc] 72 (0, 0))) u7 := by rw [hu7.out]; exact (⟨below_setRow su5.1 (Nat.le_refl _) _, by rw [setRow_size]; exact su5.2.1, by rw [setRow_other _ _ _ _ (Ne.symm HNE.out)]; exact su5.2.2⟩)
      have OZ : Hid (RSp u7 w.heap.size (.slice oa l.length oc) l) := by unfold Hid; rw [hu7.out]; exact OO.out.keep (fun k cs hk hh => by rw [setRow_other _ _ _ _ (fun e => by rw [e, GG.out] at hh; cases hh)]; exact hh)
      have GZ : Hid (u7.heap[w.heap.size]? = some (.cells (plA ⟨2, 0, n, 0, false, ⟨#[]⟩, zn, l⟩ (.slice oa l.length oc)) 33 (0, 0))) := by unfold Hid; rw [hu7.out]; exact setRow_heap _ _ _ _ _ _ GG.out
      refine wpAnyH_done (by kernel_rfl) ?_ _
      have BZ : Hid (Below w.heap.size w u7) := su7.1
      clear CO GG OO
      go_wp2
      refine bodyPost_ret (v := .agg (plA ⟨2, 0, n, 0, false, ⟨#[]⟩, zn, l⟩ (.slice oa l.length oc))) (results_cell_row rfl _ _ w.heap.size 33 _ (0, 0) _ rfl GZ.out Tryz.underlying33 rfl (HSZ.out _)) rfl ⟨_, rfl, OZ.out, BZ.out⟩
    exact AllReadyH.nil
  exact AllReadyH.nil
set_option maxHeartbeats 8000000 in
theorem flat1 (w : World) :
    Calls Tryz.prog 32 #[.iface 69 (.agg #[])] w fun e w' => e = .returned (.agg (plA ⟨1, 0, 0, 0, false, ⟨#[]⟩, zn, []⟩ (.slice none 0 0))) ∧ Below w.heap.size w w' := by
  obtain ⟨W1, hW1⟩ : ∃ W1, W1 = w.alloc (.cells #[.int .u8 0, .int .i64 0, .int .i64 0, .int .i64 0, .bool false, .string ⟨#[]⟩, .int .u8 0, .int .u8 0, .int .u8 0, .int .u8 0, .int .u8 0, .int .u8 0, .int .u8 0, .int .u8 0, .int .u8 0, .int .u8 0, .int .u8 0, .int .u8 0, .int .u8 0, .int .u8 0, .int .u8 0, .int .u8 0, .slice none 0 0] 33) := ⟨_, rfl⟩
  have b1 : Below w.heap.size w W1 := by rw [hW1]; exact al_below _ _
  have g1 : W1.heap[w.heap.size]? = some (.cells #[.int .u8 0, .int .i64 0, .int .i64 0, .int .i64 0, .bool false, .string ⟨#[]⟩, .int .u8 0, .int .u8 0, .int .u8 0, .int .u8 0, .int .u8 0, .int .u8 0, .int .u8 0, .int .u8 0, .int .u8 0, .int .u8 0, .int .u8 0, .int .u8 0, .int .u8 0, .int .u8 0, .int .u8 0, .int .u8 0, .slice none 0 0] 33 (0, 0)) := by rw [hW1]; exact heap_alloc_new _ _
  obtain ⟨W2, hW2⟩ : ∃ W2, W2 = W1.alloc (.cells #[] 69) := ⟨_, rfl⟩
  have b2 : Below W1.heap.size W1 W2 := by rw [hW2]; exact al_below _ _
  have HG2 : Hid (W2.heap[w.heap.size]? = some (.cells #[.int .u8 0, .int .i64 0, .int .i64 0, .int .i64 0, .bool false, .string ⟨#[]⟩, .int .u8 0, .int .u8 0, .int .u8 0, .int .u8 0, .int .u8 0, .int .u8 0, .int .u8 0, .int .u8 0, .int .u8 0, .int .u8 0, .int .u8 0, .int .u8 0, .int .u8 0, .int .u8 0, .int .u8 0, .int .u8 0, .slice none 0 0] 33 (0, 0))) := blk_kept g1 b2 (blk_lt g1)
  have HB2 : Hid (Below w.heap.size w W2) := b1.trans (b2.mono b1.size)
  have HSZ : Hid ((Tryz.prog.info? 33).map (·.size) = some (plA ⟨1, 0, 0, 0, false, ⟨#[]⟩, zn, []⟩ (.slice none 0 0)).size) := infoP
  have HON : Hid ((plA ⟨1, 0, 0, 0, false, ⟨#[]⟩, zn, []⟩ (.slice none 0 0)).all (·.oneCell') = true) := all_oneCell_toArray (plL_one rfl)
  have a1 : ∀ (v : Value) (W : World), (Instr.typeAssert (.iface 69 v) 29 69 true).run Tryz.prog W = .ok (.tuple #[v, .bool true]) W := fun v W => by kernel_rfl
  clear b1 g1 b2
  go_enter Tryz.func32, Tryz.ntmps32
  go_upto_region 1 with fail
  rw [← hW1]
  clear hW1
  go_wp2_with (rw [← hW2]; refine wpList_store_row rfl 33 _ _ rfl w.heap.size (plA ⟨1, 0, 0, 0, false, ⟨#[]⟩, zn, []⟩ (.slice none 0 0)) rfl rfl 33 _ HG2.out HSZ.out rfl HON.out (Hid.out ?_))
  unfold Hid
  go_wp2
  rw [← hW2]
  refine bodyPost_ret (v := .agg (plA ⟨1, 0, 0, 0, false, ⟨#[]⟩, zn, []⟩ (.slice none 0 0))) (results_cell_row rfl _ _ w.heap.size 33 (plA ⟨1, 0, 0, 0, false, ⟨#[]⟩, zn, []⟩ (.slice none 0 0)) (0, 0) _ rfl (setRow_heap _ _ _ _ _ _ HG2.out) Tryz.underlying33 rfl HSZ.out) rfl ⟨rfl, below_setRow HB2.out (Nat.le_refl _) _⟩
set_option maxHeartbeats 8000000 in
theorem flat3 (id n : Int) (fin : Bool) (tx : ByteArray) (w : World) :
    Calls Tryz.prog 32 #[.iface 42 (.agg #[.int .i64 id, .int .i64 n, .bool fin, .string tx])] w fun e w' => e = .returned (.agg (plA ⟨3, id, n, 0, fin, tx, zn, []⟩ (.slice none 0 0))) ∧ Below w.heap.size w w' := by
  obtain ⟨W1, hW1⟩ : ∃ W1, W1 = w.alloc (.cells #[.int .u8 0, .int .i64 0, .int .i64 0, .int .i64 0, .bool false, .string ⟨#[]⟩, .int .u8 0, .int .u8 0, .int .u8 0, .int .u8 0, .int .u8 0, .int .u8 0, .int .u8 0, .int .u8 0, .int .u8 0, .int .u8 0, .int .u8 0, .int .u8 0, .int .u8 0, .int .u8 0, .int .u8 0, .int .u8 0, .slice none 0 0] 33) := ⟨_, rfl⟩
  have b1 : Below w.heap.size w W1 := by rw [hW1]; exact al_below _ _
  have g1 : W1.heap[w.heap.size]? = some (.cells #[.int .u8 0, .int .i64 0, .int .i64 0, .int .i64 0, .bool false, .string ⟨#[]⟩, .int .u8 0, .int .u8 0, .int .u8 0, .int .u8 0, .int .u8 0, .int .u8 0, .int .u8 0, .int .u8 0, .int .u8 0, .int .u8 0, .int .u8 0, .int .u8 0, .int .u8 0, .int .u8 0, .int .u8 0, .int .u8 0, .slice none 0 0] 33 (0, 0)) := by rw [hW1]; exact heap_alloc_new _ _
  obtain ⟨W2, hW2⟩ : ∃ W2, W2 = W1.alloc (.cells #[.int .i64 id, .int .i64 n, .bool fin, .string tx] 42) := ⟨_, rfl⟩
  have b2 : Below W1.heap.size W1 W2 := by rw [hW2]; exact al_below _ _
  have HG2 : Hid (W2.heap[w.heap.size]? = some (.cells #[.int .u8 0, .int .i64 0, .int .i64 0, .int .i64 0, .bool false, .string ⟨#[]⟩, .int .u8 0, .int .u8 0, .int .u8 0, .int .u8 0, .int .u8 0, .int .u8 0, .int .u8 0, .int .u8 0, .int .u8 0, .int .u8 0, .int .u8 0, .int .u8 0, .int .u8 0, .int .u8 0, .int .u8 0, .int .u8 0, .slice none 0 0] 33 (0, 0))) := blk_kept g1 b2 (blk_lt g1)
  have HB2 : Hid (Below w.heap.size w W2) := b1.trans (b2.mono b1.size)
  have HSZ : Hid ((Tryz.prog.info? 33).map (·.size) = some (plA ⟨3, id, n, 0, fin, tx, zn, []⟩ (.slice none 0 0)).size) := infoP
  have HON : Hid ((plA ⟨3, id, n, 0, fin, tx, zn, []⟩ (.slice none 0 0)).all (·.oneCell') = true) := all_oneCell_toArray (plL_one rfl)
  have a1 : ∀ (v : Value) (W : World), (Instr.typeAssert (.iface 42 v) 29 69 true).run Tryz.prog W = .ok (.tuple #[.agg #[], .bool false]) W := fun v W => by kernel_rfl
  have a2 : ∀ (v : Value) (W : World), (Instr.typeAssert (.iface 42 v) 29 72 true).run Tryz.prog W = .ok (.tuple #[.agg #[.int .i64 0, .slice none 0 0], .bool false]) W := fun v W => by kernel_rfl
  have a3 : ∀ (v : Value) (W : World), (Instr.typeAssert (.iface 42 v) 29 42 true).run Tryz.prog W = .ok (.tuple #[v, .bool true]) W := fun v W => by kernel_rfl
  clear b1 g1 b2
  go_enter Tryz.func32, Tryz.ntmps32
  go_upto_region 1 with fail
  rw [← hW1]
  clear hW1
  go_wp2_with (rw [← hW2]; refine wpList_store_row rfl 33 _ _ rfl w.heap.size (plA ⟨3, id, n, 0, fin, tx, zn, []⟩ (.slice none 0 0)) rfl rfl 33 _ HG2.out HSZ.out rfl HON.out (Hid.out ?_))
  unfold Hid
  go_wp2
  rw [← hW2]
  refine bodyPost_ret (v := .agg (plA ⟨3, id, n, 0, fin, tx, zn, []⟩ (.slice none 0 0))) (results_cell_row rfl _ _ w.heap.size 33 (plA ⟨3, id, n, 0, fin, tx, zn, []⟩ (.slice none 0 0)) (0, 0) _ rfl (setRow_heap _ _ _ _ _ _ HG2.out) Tryz.underlying33 rfl HSZ.out) rfl ⟨rfl, below_setRow HB2.out (Nat.le_refl _) _⟩
set_option maxHeartbeats 8000000 in
theorem flat4 (id n cd : Int) (w : World) :
    Calls Tryz.prog 32 #[.iface 74 (.agg #[.int .i64 id, .int .i64 cd, .int .i64 n])] w fun e w' => e = .returned (.agg (plA ⟨4, id, n, cd, false, ⟨#[]⟩, zn, []⟩ (.slice none 0 0))) ∧ Below w.heap.size w w' := by
  obtain ⟨W1, hW1⟩ : ∃ W1, W1 = w.alloc (.cells #[.int .u8 0, .int .i64 0, .int .i64 0, .int .i64 0, .bool false, .string ⟨#[]⟩, .int .u8 0, .int .u8 0, .int .u8 0, .int .u8 0, .int .u8 0, .int .u8 0, .int .u8 0, .int .u8 0, .int .u8 0, .int .u8 0, .int .u8 0, .int .u8 0, .int .u8 0, .int .u8 0, .int .u8 0, .int .u8 0, .slice none 0 0] 33) := ⟨_, rfl⟩
  have b1 : Below w.heap.size w W1 := by rw [hW1]; exact al_below _ _
  have g1 : W1.heap[w.heap.size]? = some (.cells #[.int .u8 0, .int .i64 0, .int .i64 0, .int .i64 0, .bool false, .string ⟨#[]⟩, .int .u8 0, .int .u8 0, .int .u8 0, .int .u8 0, .int .u8 0, .int .u8 0, .int .u8 0, .int .u8 0, .int .u8 0, .int .u8 0, .int .u8 0, .int .u8 0, .int .u8 0, .int .u8 0, .int .u8 0, .int .u8 0, .slice none 0 0] 33 (0, 0)) := by rw [hW1]; exact heap_alloc_new _ _
  obtain ⟨W2, hW2⟩ : ∃ W2, W2 = W1.alloc (.cells #[.int .i64 id, .int .i64 cd, .int .i64 n] 74) := ⟨_, rfl⟩
  have b2 : Below W1.heap.size W1 W2 := by rw [hW2]; exact al_below _ _
  have HG2 : Hid (W2.heap[w.heap.size]? = some (.cells #[.int .u8 0, .int .i64 0, .int .i64 0, .int .i64 0, .bool false, .string ⟨#[]⟩, .int .u8 0, .int .u8 0, .int .u8 0, .int .u8 0, .int .u8 0, .int .u8 0, .int .u8 0, .int .u8 0, .int .u8 0, .int .u8 0, .int .u8 0, .int .u8 0, .int .u8 0, .int .u8 0, .int .u8 0, .int .u8 0, .slice none 0 0] 33 (0, 0))) := blk_kept g1 b2 (blk_lt g1)
  have HB2 : Hid (Below w.heap.size w W2) := b1.trans (b2.mono b1.size)
  have HSZ : Hid ((Tryz.prog.info? 33).map (·.size) = some (plA ⟨4, id, n, cd, false, ⟨#[]⟩, zn, []⟩ (.slice none 0 0)).size) := infoP
  have HON : Hid ((plA ⟨4, id, n, cd, false, ⟨#[]⟩, zn, []⟩ (.slice none 0 0)).all (·.oneCell') = true) := all_oneCell_toArray (plL_one rfl)
  have a1 : ∀ (v : Value) (W : World), (Instr.typeAssert (.iface 74 v) 29 69 true).run Tryz.prog W = .ok (.tuple #[.agg #[], .bool false]) W := fun v W => by kernel_rfl
  have a2 : ∀ (v : Value) (W : World), (Instr.typeAssert (.iface 74 v) 29 72 true).run Tryz.prog W = .ok (.tuple #[.agg #[.int .i64 0, .slice none 0 0], .bool false]) W := fun v W => by kernel_rfl
  have a3 : ∀ (v : Value) (W : World), (Instr.typeAssert (.iface 74 v) 29 42 true).run Tryz.prog W = .ok (.tuple #[.agg #[.int .i64 0, .int .i64 0, .bool false, .string ⟨#[]⟩], .bool false]) W := fun v W => by kernel_rfl
  have a4 : ∀ (v : Value) (W : World), (Instr.typeAssert (.iface 74 v) 29 74 true).run Tryz.prog W = .ok (.tuple #[v, .bool true]) W := fun v W => by kernel_rfl
  clear b1 g1 b2
  go_enter Tryz.func32, Tryz.ntmps32
  go_upto_region 1 with fail
  rw [← hW1]
  clear hW1
  go_wp2_with (rw [← hW2]; refine wpList_store_row rfl 33 _ _ rfl w.heap.size (plA ⟨4, id, n, cd, false, ⟨#[]⟩, zn, []⟩ (.slice none 0 0)) rfl rfl 33 _ HG2.out HSZ.out rfl HON.out (Hid.out ?_))
  unfold Hid
  go_wp2
  rw [← hW2]
  refine bodyPost_ret (v := .agg (plA ⟨4, id, n, cd, false, ⟨#[]⟩, zn, []⟩ (.slice none 0 0))) (results_cell_row rfl _ _ w.heap.size 33 (plA ⟨4, id, n, cd, false, ⟨#[]⟩, zn, []⟩ (.slice none 0 0)) (0, 0) _ rfl (setRow_heap _ _ _ _ _ _ HG2.out) Tryz.underlying33 rfl HSZ.out) rfl ⟨rfl, below_setRow HB2.out (Nat.le_refl _) _⟩
set_option maxHeartbeats 8000000 in
theorem flat5 (id cd : Int) (w : World) :
    Calls Tryz.prog 32 #[.iface 76 (.agg #[.int .i64 id, .int .i64 cd])] w fun e w' => e = .returned (.agg (plA ⟨5, id, 0, cd, false, ⟨#[]⟩, zn, []⟩ (.slice none 0 0))) ∧ Below w.heap.size w w' := by
  obtain ⟨W1, hW1⟩ : ∃ W1, W1 = w.alloc (.cells #[.int .u8 0, .int .i64 0, .int .i64 0, .int .i64 0, .bool false, .string ⟨#[]⟩, .int .u8 0, .int .u8 0, .int .u8 0, .int .u8 0, .int .u8 0, .int .u8 0, .int .u8 0, .int .u8 0, .int .u8 0, .int .u8 0, .int .u8 0, .int .u8 0, .int .u8 0, .int .u8 0, .int .u8 0, .int .u8 0, .slice none 0 0] 33) := ⟨_, rfl⟩
  have b1 : Below w.heap.size w W1 := by rw [hW1]; exact al_below _ _
  have g1 : W1.heap[w.heap.size]? = some (.cells #[.int .u8 0, .int .i64 0, .int .i64 0, .int .i64 0, .bool false, .string ⟨#[]⟩, .int .u8 0, .int .u8 0, .int .u8 0, .int .u8 0, .int .u8 0, .int .u8 0, .int .u8 0, .int .u8 0, .int .u8 0, .int .u8 0, .int .u8 0, .int .u8 0, .int .u8 0, .int .u8 0, .int .u8 0, .int .u8 0, .slice none 0 0] 33 (0, 0)) := by rw [hW1]; exact heap_alloc_new _ _
  obtain ⟨W2, hW2⟩ : ∃ W2, W2 = W1.alloc (.cells #[.int .i64 id, .int .i64 cd] 76) := ⟨_, rfl⟩
  have b2 : Below W1.heap.size W1 W2 := by rw [hW2]; exact al_below _ _
  have HG2 : Hid (W2.heap[w.heap.size]? = some (.cells #[.int .u8 0, .int .i64 0, .int .i64 0, .int .i64 0, .bool false, .string ⟨#[]⟩, .int .u8 0, .int .u8 0, .int .u8 0, .int .u8 0, .int .u8 0, .int .u8 0, .int .u8 0, .int .u8 0, .int .u8 0, .int .u8 0, .int .u8 0, .int .u8 0, .int .u8 0, .int .u8 0, .int .u8 0, .int .u8 0, .slice none 0 0] 33 (0, 0))) := blk_kept g1 b2 (blk_lt g1)
  have HB2 : Hid (Below w.heap.size w W2) := b1.trans (b2.mono b1.size)
  have HSZ : Hid ((Tryz.prog.info? 33).map (·.size) = some (plA ⟨5, id, 0, cd, false, ⟨#[]⟩, zn, []⟩ (.slice none 0 0)).size) := infoP
  have HON : Hid ((plA ⟨5, id, 0, cd, false, ⟨#[]⟩, zn, []⟩ (.slice none 0 0)).all (·.oneCell') = true) := all_oneCell_toArray (plL_one rfl)
  have a1 : ∀ (v : Value) (W : World), (Instr.typeAssert (.iface 76 v) 29 69 true).run Tryz.prog W = .ok (.tuple #[.agg #[], .bool false]) W := fun v W => by kernel_rfl
  have a2 : ∀ (v : Value) (W : World), (Instr.typeAssert (.iface 76 v) 29 72 true).run Tryz.prog W = .ok (.tuple #[.agg #[.int .i64 0, .slice none 0 0], .bool false]) W := fun v W => by kernel_rfl
  have a3 : ∀ (v : Value) (W : World), (Instr.typeAssert (.iface 76 v) 29 42 true).run Tryz.prog W = .ok (.tuple #[.agg #[.int .i64 0, .int .i64 0, .bool false, .string ⟨#[]⟩], .bool false]) W := fun v W => by kernel_rfl
  have a4 : ∀ (v : Value) (W : World), (Instr.typeAssert (.iface 76 v) 29 74 true).run Tryz.prog W = .ok (.tuple #[.agg #[.int .i64 0, .int .i64 0, .int .i64 0], .bool false]) W := fun v W => by kernel_rfl
  have a5 : ∀ (v : Value) (W : World), (Instr.typeAssert (.iface 76 v) 29 76 true).run Tryz.prog W = .ok (.tuple #[v, .bool true]) W := fun v W => by kernel_rfl
  clear b1 g1 b2
  go_enter Tryz.func32, Tryz.ntmps32
  go_upto_region 1 with fail
  rw [← hW1]
  clear hW1
  go_wp2_with (rw [← hW2]; refine wpList_store_row rfl 33 _ _ rfl w.heap.size (plA ⟨5, id, 0, cd, false, ⟨#[]⟩, zn, []⟩ (.slice none 0 0)) rfl rfl 33 _ HG2.out HSZ.out rfl HON.out (Hid.out ?_))
  unfold Hid
  go_wp2
  rw [← hW2]
  refine bodyPost_ret (v := .agg (plA ⟨5, id, 0, cd, false, ⟨#[]⟩, zn, []⟩ (.slice none 0 0))) (results_cell_row rfl _ _ w.heap.size 33 (plA ⟨5, id, 0, cd, false, ⟨#[]⟩, zn, []⟩ (.slice none 0 0)) (0, 0) _ rfl (setRow_heap _ _ _ _ _ _ HG2.out) Tryz.underlying33 rfl HSZ.out) rfl ⟨rfl, below_setRow HB2.out (Nat.le_refl _) _⟩
end Go.Proofs.YtmplpdjkhdaniaaGreatDoor
