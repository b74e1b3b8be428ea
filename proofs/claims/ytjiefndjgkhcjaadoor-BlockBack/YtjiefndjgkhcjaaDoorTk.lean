/-
  What take answers: the sums that are read, what is left, the error.
-/
import Derived.Test.YtjiefndjgkhcjaaDoorTr
namespace Go.Proofs.YtjiefndjgkhcjaaDoor
open Go.RowKit
set_option maxRecDepth 100000

/-- So many bytes of a number are read, the highest first. -/
def rW : Nat → List Int → Int → Int × List Int × Int
  | 0, xs, e => (0, xs, e)
  | j + 1, xs, e => ((rW j xs e).1 * 256 + (rB (rW j xs e).2.1 (rW j xs e).2.2).1, (rB (rW j xs e).2.1 (rW j xs e).2.2).2.1, (rB (rW j xs e).2.1 (rW j xs e).2.2).2.2)
theorem rW_bd : ∀ (j : Nat) (xs : List Int) (e : Int), Bt xs → 0 ≤ (rW j xs e).1 ∧ (rW j xs e).1 < 256 ^ j ∧ Bt (rW j xs e).2.1
  | 0, xs, e, h => ⟨by simp [rW], by simp [rW], h⟩
  | j + 1, xs, e, h => by
    obtain ⟨h1, h2, h3⟩ := rW_bd j xs e h
    have h4 := rB_bd (rW j xs e).2.1 (rW j xs e).2.2 h3
    rw [rW]
    refine ⟨?_, ?_, rB_bt _ _ h3⟩
    · show 0 ≤ (rW j xs e).1 * 256 + _
      omega
    · show (rW j xs e).1 * 256 + _ < 256 ^ (j + 1)
      rw [Int.pow_succ]
      omega
/-- Two sums are read. -/
def tkG (xs : List Int) (e : Int) : Sg × List Int × Int :=
  let q := rW 4 xs e
  let r := rR q.2.1 q.2.2 32
  (⟨q.1, ov32 r.1⟩, r.2.1, r.2.2)
theorem tkG_ok (xs : List Int) (e : Int) (hb : Bt xs) : (tkG xs e).1.ok := by
  obtain ⟨h1, h2, h3⟩ := rW_bd 4 xs e hb
  exact ⟨ov32_len _ (rR_len _ _ 32), ov32_bytes _ (rR_bytes _ _ 32 h3), h1, h2⟩
theorem or_join32 (x y : Int) (h0 : 0 ≤ x) (h1 : x < 16777216) (h2 : 0 ≤ y) (h3 : y < 256) : bits .or .u32 (x * 256) y = x * 256 + y :=
  bits_join .u32 32 (by decide) (fun n h₀ h₁ => by rw [IntKind.wrap_u32]; omega) 8 _ _ (by omega) (by omega) (by omega) h2 (by omega) (by omega)
/-- What stands while sums are read: the reader, the result's variable, the sums' variable, all else as it was. -/
def TS (w W : World) (g s : Nat) (xs : List Int) (e : Int) (y : Sg) : Prop :=
  Fi.Rd W g s xs e ∧ W.heap[w.heap.size]? = some (.cells izc 57 (0, 0)) ∧ W.heap[w.heap.size + 1]? = some (.cells y.cells.toArray 57 (0, 0)) ∧ Sh.But g w W ∧ g < w.heap.size ∧ s < w.heap.size
theorem TS.off {w W W' : World} {g s : Nat} {xs xs' : List Int} {e e' : Int} {y : Sg} (h : TS w W g s xs e y) (hr : Fi.Rd W' g s xs' e') (ho : Fi.Off g W W') : TS w W' g s xs' e' y :=
  ⟨hr, (ho.block _ (by have := h.2.2.2.2.1; omega)).trans h.2.1, (ho.block _ (by have := h.2.2.2.2.1; omega)).trans h.2.2.1, h.2.2.2.1.trans (Off.but ho), h.2.2.2.2⟩
theorem TS.drew {w W : World} {g s : Nat} {xs : List Int} {e : Int} {y : Sg} (h : TS w W g s xs e y) : TS w W.drew g s xs e y := ⟨h.1, h.2.1, h.2.2.1, h.2.2.2.1.drew, h.2.2.2.2⟩
theorem TS.cell {w W : World} {g s : Nat} {xs : List Int} {e : Int} {y : Sg} (h : TS w W g s xs e y) : W.cell? ⟨w.heap.size + 1, 0, none⟩ = some (.int .u32 y.k) ∧ W.frozen? ⟨w.heap.size + 1, 0, none⟩ = false :=
  ⟨by rw [cell_of_row _ _ _ _ _ _ h.2.2.1]; rfl, frozen_of_row _ _ _ _ _ h.2.2.1⟩
theorem TS.setC {w W : World} {g s : Nat} {xs : List Int} {e k k' : Int} {S : List Int} (h : TS w W g s xs e ⟨k, S⟩) : TS w (W.setCell ⟨w.heap.size + 1, 0, none⟩ (.int .u32 k')) g s xs e ⟨k', S⟩ := by
  obtain ⟨h1, h2, h3, h4, h5, h6⟩ := h
  have hO : Fi.Off (w.heap.size + 1) W (W.setCell ⟨w.heap.size + 1, 0, none⟩ (.int .u32 k')) := ⟨rfl, rfl, rfl, by simp [World.setCell], fun j hj => heap_setCell_other _ _ _ _ hj⟩
  refine ⟨h1.off hO (by omega) (by omega), ?_, ?_, ?_, h5, h6⟩
  · rw [heap_setCell_other _ _ _ _ (by show w.heap.size ≠ w.heap.size + 1; omega)]; exact h2
  · rw [heap_setCell_same _ _ _ _ _ _ h3]; simp [Sg.cells]
  · obtain ⟨b1, b2, b3, b4, b5⟩ := h4
    exact ⟨b1, b2, b3, by simpa [World.setCell] using b4, fun j hj hn => by rw [heap_setCell_other _ _ _ _ (by show j ≠ w.heap.size + 1; omega)]; exact b5 j hj hn⟩
theorem TS.setR {w W : World} {g s : Nat} {xs : List Int} {e : Int} {y y' : Sg} (h : TS w W g s xs e y) : TS w (W.setRow (w.heap.size + 1) y'.cells.toArray) g s xs e y' := by
  obtain ⟨h1, h2, h3, h4, h5, h6⟩ := h
  refine ⟨Rd.setRow h1 (by omega) (by omega) _, ?_, setRow_heap _ _ _ _ _ _ h3, But.setRow h4 (by omega) _, h5, h6⟩
  rw [setRow_other _ _ _ _ (by omega)]; exact h2
set_option maxHeartbeats 4000000 in
theorem take_any (g s : Nat) (xs : List Int) (e : Int) (w : World) (h : Fi.Rd w g s xs e) (hs : s < w.heap.size) :
    Calls Tryd.prog 40 #[.pointer (some ⟨g, 0, none⟩)] w fun r w' => r = .returned (tkG xs e).1.val ∧ Fi.Rd w' g s (tkG xs e).2.1 (tkG xs e).2.2 ∧ Sh.But g w w' := by
  have hgl := Rd.lt h
  have hbt : Bt xs := h.bytes
  obtain ⟨W1, hW1⟩ : ∃ W1, W1 = w.alloc (.cells izc 57) := ⟨_, rfl⟩
  obtain ⟨W2, hW2⟩ : ∃ W2, W2 = W1.alloc (.cells izc 57) := ⟨_, rfl⟩
  have hwz : (w.alloc (.cells #[.int .u32 0, .int .u8 0, .int .u8 0, .int .u8 0, .int .u8 0, .int .u8 0, .int .u8 0, .int .u8 0, .int .u8 0, .int .u8 0, .int .u8 0, .int .u8 0, .int .u8 0, .int .u8 0, .int .u8 0, .int .u8 0, .int .u8 0, .int .u8 0, .int .u8 0, .int .u8 0, .int .u8 0, .int .u8 0, .int .u8 0, .int .u8 0, .int .u8 0, .int .u8 0, .int .u8 0, .int .u8 0, .int .u8 0, .int .u8 0, .int .u8 0, .int .u8 0, .int .u8 0] 57)).alloc (.cells #[.int .u32 0, .int .u8 0, .int .u8 0, .int .u8 0, .int .u8 0, .int .u8 0, .int .u8 0, .int .u8 0, .int .u8 0, .int .u8 0, .int .u8 0, .int .u8 0, .int .u8 0, .int .u8 0, .int .u8 0, .int .u8 0, .int .u8 0, .int .u8 0, .int .u8 0, .int .u8 0, .int .u8 0, .int .u8 0, .int .u8 0, .int .u8 0, .int .u8 0, .int .u8 0, .int .u8 0, .int .u8 0, .int .u8 0, .int .u8 0, .int .u8 0, .int .u8 0, .int .u8 0] 57) = W2 := by rw [hW2, hW1]; rfl
  have b1 : Below w.heap.size w W1 := by rw [hW1]; exact al_below _ _
  have s1 : W1.heap.size = w.heap.size + 1 := by rw [hW1]; simp
  have b2 : Below W1.heap.size W1 W2 := by rw [hW2]; exact al_below _ _
  have g1 : W1.heap[w.heap.size]? = some (.cells izc 57 (0, 0)) := by rw [hW1]; exact heap_alloc_new _ _
  have g2 : W2.heap[w.heap.size + 1]? = some (.cells izc 57 (0, 0)) := by rw [← s1, hW2]; exact heap_alloc_new _ _
  have T2 : Hid (TS w W2 g s xs e ⟨0, z32⟩) := ⟨(h.kept b1).kept b2, (b2.block _ (by omega)).trans g1, g2, Sh.But.of (b1.trans (b2.mono b1.size)), hgl, hs⟩
  have HT : Hid (tkG xs e = (⟨(rW 4 xs e).1, ov32 (rR (rW 4 xs e).2.1 (rW 4 xs e).2.2 32).1⟩, (rR (rW 4 xs e).2.1 (rW 4 xs e).2.2 32).2.1, (rR (rW 4 xs e).2.1 (rW 4 xs e).2.2 32).2.2)) := rfl
  have HBD : Hid (∀ j, 0 ≤ (rW j xs e).1 ∧ (rW j xs e).1 < 256 ^ j ∧ Bt (rW j xs e).2.1) := fun j => rW_bd j xs e hbt
  have HOK : Hid ((tkG xs e).1.ok) := tkG_ok xs e hbt
  clear hW1 hW2 b1 s1 b2 g1 g2 h hs hgl hbt
  generalize tkG xs e = R at *
  go_enter Tryd.func40, Tryd.ntmps40
  go_wp2_with fail
  try rw [hwz]
  clear hwz
  go_loopw [4] (fun q wr => ∃ j : Nat, j ≤ 4 ∧ q = .int .i64 j ∧ TS w wr g s (rW j xs e).2.1 (rW j xs e).2.2 ⟨(rW j xs e).1, z32⟩) (fun q _ => 4 - (intOf q).toNat)
  case atStart => exact ⟨0, by omega, rfl, T2.out⟩
  case round =>
    clear T2
    obtain ⟨j, hj, rfl, ts⟩ := hrel
    by_cases h4 : j < 4
    · have lt2 : (j : Int) < 4 := by omega
      obtain ⟨d1, d2, d3⟩ := HBD.out j
      have d4 := rB_bd (rW j xs e).2.1 (rW j xs e).2.2 d3
      have HN : Hid ((rW (j + 1) xs e) = ((rW j xs e).1 * 256 + (rB (rW j xs e).2.1 (rW j xs e).2.2).1, (rB (rW j xs e).2.1 (rW j xs e).2.2).2.1, (rB (rW j xs e).2.1 (rW j xs e).2.2).2.2)) := rfl
      have d5 : (rW j xs e).1 < 16777216 := by
        rcases (show j = 0 ∨ j = 1 ∨ j = 2 ∨ j = 3 by omega) with rfl | rfl | rfl | rfl <;> simp at d2 <;> omega
      have CB : Hid (∀ W, Fi.Rd W g s (rW j xs e).2.1 (rW j xs e).2.2 → Calls Tryd.prog 60 #[.pointer (some ⟨g, 0, none⟩)] W fun r w' => r = .returned (.int .u8 (rB (rW j xs e).2.1 (rW j xs e).2.2).1) ∧ Fi.Rd w' g s (rB (rW j xs e).2.1 (rW j xs e).2.2).2.1 (rB (rW j xs e).2.1 (rW j xs e).2.2).2.2 ∧ Fi.Off g W w') := fun W hr => rdByte g s _ _ W hr
      have T0 : Hid (TS w wr g s (rW j xs e).2.1 (rW j xs e).2.2 ⟨(rW j xs e).1, z32⟩) := ts
      clear ts d2 d3
      generalize rB (rW j xs e).2.1 (rW j xs e).2.2 = b at *
      obtain ⟨bb, bx, be⟩ := b
      simp only at d4 HN CB
      generalize rW j xs e = q at *
      obtain ⟨kk, qx, qe⟩ := q
      simp only at d1 d5 HN CB T0
      have o1 := or_join32 kk bb d1 d5 d4.1 d4.2
      have o2 : IntKind.u32.wrap (kk * 256) = kk * 256 := by rw [IntKind.wrap_u32]; omega
      have o3 : IntKind.u32.wrap bb = bb := by rw [IntKind.wrap_u32]; omega
      obtain ⟨d6, d7⟩ := d4
      go_wp2_with fail
      refine wp_region_held_drew (S := fun _ => True) (by kernel_rfl) trivial (fun _ => ?_)
      refine wpAnyH_name (fun u0 hu0 => ?_)
      have bu0 : Below wr.heap.size wr u0 := by rw [hu0.out]; exact (Below.refl _ _).drew
      have Tu0 : TS w u0 g s qx qe ⟨kk, z32⟩ := by rw [hu0.out]; exact TS.drew T0.out
      have Ku0 := (TS.cell Tu0).1
      refine wpAnyH_take (i := 0) (oi := { dst := some 6, op := Op.fieldAddr 57 (Operand.tmp 3) 0, type := 0, pos := "block.go:184", after := #[], guard := none }) (v := ?vb1) rfl (by kernel_rfl) (by kernel_rfl) (by kernel_rfl) (fun _ _ _ h => h) (Or.inl ⟨by rfl, ?yb1⟩) trivial ?rb1
      case yb1 => (intro w hSw; go_simp; try with_reducible rfl)
      try simp only [Act.put, List.setIfInBounds_toArray, List.set_cons_zero, List.set_cons_succ]
      refine wpAnyH_take (i := 3) (oi := { dst := some 9, op := Op.move (Operand.tmp 0), type := 72, pos := "block.go:184", after := #[], guard := none }) (v := ?vb2) rfl (by kernel_rfl) (by kernel_rfl) (by kernel_rfl) (fun _ _ _ h => h) (Or.inl ⟨by rfl, ?yb2⟩) trivial ?rb2
      case yb2 => (intro w hSw; go_simp; try with_reducible rfl)
      try simp only [Act.put, List.setIfInBounds_toArray, List.set_cons_zero, List.set_cons_succ]
      refine wpAnyH_ready (rs := [1, 4]) (by kernel_rfl) (by simp) ?_
      refine AllReadyH.cons (o := { dst := some 7, op := Op.load 44 (Operand.tmp 6), type := 44, pos := "block.go:184", after := #[{ on := 0, ground := Ground.data }], guard := none }) rfl (fun KK hKK => ?_) ?_
      · go_simp
        refine hKK.out _ _ trivial (fun _ => ?_)
        clear hKK KK
        try simp only [Act.put, List.setIfInBounds_toArray, List.set_cons_zero, List.set_cons_succ]
        refine wpAnyH_name (fun u3 hu3 => ?_)
        have Tu3 := Tu0
        rw [← hu3.out] at Tu3
        have Ku3 := (TS.cell Tu3).1
        refine wpAnyH_take (i := 2) (oi := { dst := some 8, op := Op.binOp BinOp.shl 44 (Operand.tmp 7) (Operand.const (Value.int IntKind.u64 8)) 71, type := 44, pos := "block.go:184", after := #[{ on := 1, ground := Ground.data }], guard := none }) (v := ?vb4) rfl (by kernel_rfl) (by kernel_rfl) (by kernel_rfl) (fun _ _ _ h => h) (Or.inl ⟨by rfl, ?yb4⟩) trivial ?rb4
        case yb4 => (intro w hSw; go_simp; try with_reducible rfl)
        try simp only [Act.put, List.setIfInBounds_toArray, List.set_cons_zero, List.set_cons_succ]
        refine wpAnyH_ready (rs := [4]) (by kernel_rfl) (by simp) ?_
        refine AllReadyH.cons (o := { dst := some 10, op := Op.call { callee := Callee.value (Operand.func 60), args := #[Operand.tmp 9], argTypes := #[72] }, type := 5, pos := "block.go:184", after := #[{ on := 3, ground := Ground.data }], guard := none }) rfl (fun KK hKK => ?_) ?_
        · go_simp
          refine (CB.out _ Tu3.1).mono ?_
          rintro r u5' ⟨rfl, rdu5, ofu5⟩
          (try go_wp2_with fail)
          refine hKK.out _ _ trivial (fun _ => ?_)
          clear hKK KK
          try simp only [Act.put, List.setIfInBounds_toArray, List.set_cons_zero, List.set_cons_succ]
          refine wpAnyH_name (fun u5 hu5 => ?_)
          rw [← hu5.out] at rdu5 ofu5
          have Tu5 := TS.off Tu3 rdu5 ofu5
          have Ku5 := (TS.cell Tu5).1
          clear rdu5 ofu5
          refine wpAnyH_take (i := 5) (oi := { dst := some 11, op := Op.convert 5 44 (Operand.tmp 10), type := 44, pos := "block.go:184", after := #[{ on := 4, ground := Ground.data }], guard := none }) (v := ?vb6) rfl (by kernel_rfl) (by kernel_rfl) (by kernel_rfl) (fun _ _ _ h => h) (Or.inl ⟨by rfl, ?yb6⟩) trivial ?rb6
          case yb6 => (intro w hSw; go_simp; try with_reducible rfl)
          try simp only [Act.put, List.setIfInBounds_toArray, List.set_cons_zero, List.set_cons_succ]
          refine wpAnyH_take (i := 6) (oi := { dst := some 12, op := Op.binOp BinOp.or 44 (Operand.tmp 8) (Operand.tmp 11) 44, type := 44, pos := "block.go:184", after := #[{ on := 2, ground := Ground.data }, { on := 5, ground := Ground.data }], guard := none }) (v := ?vb7) rfl (by kernel_rfl) (by kernel_rfl) (by kernel_rfl) (fun _ _ _ h => h) (Or.inl ⟨by rfl, ?yb7⟩) trivial ?rb7
          case yb7 => (intro w hSw; go_simp; try with_reducible rfl)
          try simp only [Act.put, List.setIfInBounds_toArray, List.set_cons_zero, List.set_cons_succ]
          refine wpAnyH_take (i := 7) (oi := { dst := some 13, op := Op.fieldAddr 57 (Operand.tmp 3) 0, type := 0, pos := "block.go:184", after := #[{ on := 0, ground := Ground.phase }, { on := 1, ground := Ground.phase }, { on := 2, ground := Ground.phase }, { on := 3, ground := Ground.phase }, { on := 4, ground := Ground.phase }, { on := 5, ground := Ground.phase }, { on := 6, ground := Ground.phase }], guard := none }) (v := ?vb8) rfl (by kernel_rfl) (by kernel_rfl) (by kernel_rfl) (fun _ _ _ h => h) (Or.inl ⟨by rfl, ?yb8⟩) trivial ?rb8
          case yb8 => (intro w hSw; go_simp; try with_reducible rfl)
          try simp only [Act.put, List.setIfInBounds_toArray, List.set_cons_zero, List.set_cons_succ]
          refine wpAnyH_ready (rs := [8]) (by kernel_rfl) (by simp) ?_
          refine AllReadyH.cons (o := { dst := none, op := Op.store 44 (Operand.tmp 13) (Operand.tmp 12), type := 0, pos := "block.go:184", after := #[{ on := 7, ground := Ground.data }, { on := 6, ground := Ground.data }, { on := 4, ground := Ground.chain }, { on := 0, ground := Ground.phase }, { on := 1, ground := Ground.phase }, { on := 2, ground := Ground.phase }, { on := 3, ground := Ground.phase }, { on := 4, ground := Ground.phase }, { on := 5, ground := Ground.phase }, { on := 6, ground := Ground.phase }], guard := none }) rfl (fun KK hKK => ?_) ?_
          · have Fu9 := (TS.cell Tu5).2
            go_simp
            refine hKK.out _ _ trivial (fun _ => ?_)
            clear hKK KK
            try simp only [Act.put]
            refine wpAnyH_name (fun u9 hu9 => ?_)
            have Tu9 := TS.setC (k' := kk * 256 + bb) Tu5
            rw [← hu9.out] at Tu9
            refine wpAnyH_done (by kernel_rfl) ?_ _
            have TZ : Hid (TS w u9 g s (rW (j + 1) xs e).2.1 (rW (j + 1) xs e).2.2 ⟨(rW (j + 1) xs e).1, z32⟩) := by unfold Hid; rw [HN.out]; exact Tu9
            clear Tu9 HN
            go_wp2
            go_roundw
            case rel => exact ⟨j + 1, by omega, by go_num, TZ.out⟩
            case measure => simp [intOf]; omega
          exact AllReadyH.nil
        exact AllReadyH.nil
      refine AllReadyH.cons (o := { dst := some 10, op := Op.call { callee := Callee.value (Operand.func 60), args := #[Operand.tmp 9], argTypes := #[72] }, type := 5, pos := "block.go:184", after := #[{ on := 3, ground := Ground.data }], guard := none }) rfl (fun KK hKK => ?_) ?_
      · go_simp
        refine (CB.out _ Tu0.1).mono ?_
        rintro r u10' ⟨rfl, rdu10, ofu10⟩
        (try go_wp2_with fail)
        refine hKK.out _ _ trivial (fun _ => ?_)
        clear hKK KK
        try simp only [Act.put, List.setIfInBounds_toArray, List.set_cons_zero, List.set_cons_succ]
        refine wpAnyH_name (fun u10 hu10 => ?_)
        rw [← hu10.out] at rdu10 ofu10
        have Tu10 := TS.off Tu0 rdu10 ofu10
        have Ku10 := (TS.cell Tu10).1
        clear rdu10 ofu10
        refine wpAnyH_take (i := 5) (oi := { dst := some 11, op := Op.convert 5 44 (Operand.tmp 10), type := 44, pos := "block.go:184", after := #[{ on := 4, ground := Ground.data }], guard := none }) (v := ?vb11) rfl (by kernel_rfl) (by kernel_rfl) (by kernel_rfl) (fun _ _ _ h => h) (Or.inl ⟨by rfl, ?yb11⟩) trivial ?rb11
        case yb11 => (intro w hSw; go_simp; try with_reducible rfl)
        try simp only [Act.put, List.setIfInBounds_toArray, List.set_cons_zero, List.set_cons_succ]
        refine wpAnyH_ready (rs := [1]) (by kernel_rfl) (by simp) ?_
        refine AllReadyH.cons (o := { dst := some 7, op := Op.load 44 (Operand.tmp 6), type := 44, pos := "block.go:184", after := #[{ on := 0, ground := Ground.data }], guard := none }) rfl (fun KK hKK => ?_) ?_
        · go_simp
          refine hKK.out _ _ trivial (fun _ => ?_)
          clear hKK KK
          try simp only [Act.put, List.setIfInBounds_toArray, List.set_cons_zero, List.set_cons_succ]
          refine wpAnyH_name (fun u12 hu12 => ?_)
          have Tu12 := Tu10
          rw [← hu12.out] at Tu12
          have Ku12 := (TS.cell Tu12).1
          refine wpAnyH_take (i := 2) (oi := { dst := some 8, op := Op.binOp BinOp.shl 44 (Operand.tmp 7) (Operand.const (Value.int IntKind.u64 8)) 71, type := 44, pos := "block.go:184", after := #[{ on := 1, ground := Ground.data }], guard := none }) (v := ?vb13) rfl (by kernel_rfl) (by kernel_rfl) (by kernel_rfl) (fun _ _ _ h => h) (Or.inl ⟨by rfl, ?yb13⟩) trivial ?rb13
          case yb13 => (intro w hSw; go_simp; try with_reducible rfl)
          try simp only [Act.put, List.setIfInBounds_toArray, List.set_cons_zero, List.set_cons_succ]
          refine wpAnyH_take (i := 6) (oi := { dst := some 12, op := Op.binOp BinOp.or 44 (Operand.tmp 8) (Operand.tmp 11) 44, type := 44, pos := "block.go:184", after := #[{ on := 2, ground := Ground.data }, { on := 5, ground := Ground.data }], guard := none }) (v := ?vb14) rfl (by kernel_rfl) (by kernel_rfl) (by kernel_rfl) (fun _ _ _ h => h) (Or.inl ⟨by rfl, ?yb14⟩) trivial ?rb14
          case yb14 => (intro w hSw; go_simp; try with_reducible rfl)
          try simp only [Act.put, List.setIfInBounds_toArray, List.set_cons_zero, List.set_cons_succ]
          refine wpAnyH_take (i := 7) (oi := { dst := some 13, op := Op.fieldAddr 57 (Operand.tmp 3) 0, type := 0, pos := "block.go:184", after := #[{ on := 0, ground := Ground.phase }, { on := 1, ground := Ground.phase }, { on := 2, ground := Ground.phase }, { on := 3, ground := Ground.phase }, { on := 4, ground := Ground.phase }, { on := 5, ground := Ground.phase }, { on := 6, ground := Ground.phase }], guard := none }) (v := ?vb15) rfl (by kernel_rfl) (by kernel_rfl) (by kernel_rfl) (fun _ _ _ h => h) (Or.inl ⟨by rfl, ?yb15⟩) trivial ?rb15
          case yb15 => (intro w hSw; go_simp; try with_reducible rfl)
          try simp only [Act.put, List.setIfInBounds_toArray, List.set_cons_zero, List.set_cons_succ]
          refine wpAnyH_ready (rs := [8]) (by kernel_rfl) (by simp) ?_
          refine AllReadyH.cons (o := { dst := none, op := Op.store 44 (Operand.tmp 13) (Operand.tmp 12), type := 0, pos := "block.go:184", after := #[{ on := 7, ground := Ground.data }, { on := 6, ground := Ground.data }, { on := 4, ground := Ground.chain }, { on := 0, ground := Ground.phase }, { on := 1, ground := Ground.phase }, { on := 2, ground := Ground.phase }, { on := 3, ground := Ground.phase }, { on := 4, ground := Ground.phase }, { on := 5, ground := Ground.phase }, { on := 6, ground := Ground.phase }], guard := none }) rfl (fun KK hKK => ?_) ?_
          · have Fu16 := (TS.cell Tu12).2
            go_simp
            refine hKK.out _ _ trivial (fun _ => ?_)
            clear hKK KK
            try simp only [Act.put]
            refine wpAnyH_name (fun u16 hu16 => ?_)
            have Tu16 := TS.setC (k' := kk * 256 + bb) Tu12
            rw [← hu16.out] at Tu16
            refine wpAnyH_done (by kernel_rfl) ?_ _
            have TZ : Hid (TS w u16 g s (rW (j + 1) xs e).2.1 (rW (j + 1) xs e).2.2 ⟨(rW (j + 1) xs e).1, z32⟩) := by unfold Hid; rw [HN.out]; exact Tu16
            clear Tu16 HN
            go_wp2
            go_roundw
            case rel => exact ⟨j + 1, by omega, by go_num, TZ.out⟩
            case measure => simp [intOf]; omega
          exact AllReadyH.nil
        exact AllReadyH.nil
      exact AllReadyH.nil
    · obtain rfl : j = 4 := by omega
      have hc := HBD.out 4
      clear HBD
      generalize rW 4 xs e = q at *
      obtain ⟨kk, qx, qe⟩ := q
      simp only at HT hc ts
      have HSB : Hid (∀ k, 0 ≤ (rR qx qe 32).1.getD k 0 ∧ (rR qx qe 32).1.getD k 0 < 256) := rR_bytes qx qe 32 hc.2.2
      have RL4 : Hid ((rR qx qe 32).1.length ≤ 32) := rR_len qx qe 32
      have CR : Hid (∀ W, Fi.Rd W g s qx qe → Calls Tryd.prog 61 #[.pointer (some ⟨g, 0, none⟩), .int .i64 32] W fun r w' => r = .returned (.string (Fi.strB (rR qx qe 32).1)) ∧ Fi.Rd w' g s (rR qx qe 32).2.1 (rR qx qe 32).2.2 ∧ Fi.Off g W w') := fun W hr => rdRaw g s _ _ 32 W hr
      have HOC : Hid ((Sg.cells ⟨kk, z32⟩).toArray.toList.take 1 ++ Lib.byteCells (Fi.strB (rR qx qe 32).1).data.toList ++ (Sg.cells ⟨kk, z32⟩).toArray.toList.drop (1 + (rR qx qe 32).1.length) = Sg.cells ⟨kk, ov32 (rR qx qe 32).1⟩) := over_cells kk _ HSB.out
      have HSZ : Hid ((Fi.strB (rR qx qe 32).1).size = (rR qx qe 32).1.length) := Fi.strB_size _
      have HYS : Hid ((Sg.cells ⟨kk, z32⟩).toArray.size = 33) := Sg.size ⟨kk, z32⟩ ⟨z32_len, z32_bytes, hc.1, hc.2.1⟩
      have T0 : Hid (TS w wr g s qx qe ⟨kk, z32⟩) := ts
      clear hc ts
      generalize rR qx qe 32 = r at *
      obtain ⟨rr, rx, re⟩ := r
      simp only at HT HSB RL4 CR HOC HSZ
      obtain ⟨y, hy⟩ : ∃ y : Sg, y = ⟨kk, z32⟩ := ⟨_, rfl⟩
      rw [← hy] at HOC HYS T0
      clear hy
      have HT1 := HT.out
      have HR1 : Hid (R.1 = ⟨kk, ov32 rr⟩) := by unfold Hid; rw [HT1]
      have HR2 : Hid (R.2 = (rx, re)) := by unfold Hid; rw [HT1]
      rw [← HR1.out] at HOC
      clear HT HT1 HR1
      obtain ⟨z, Rx⟩ := R
      have HR3 : Hid (Rx = (rx, re)) := HR2.out
      clear HR2
      simp only at HOK HOC
      generalize Fi.strB rr = SS at *
      have nl : ¬ ((4 : Nat) : Int) < 4 := by omega
      go_wp2_with fail
      refine wp_region_held_drew (S := fun _ => True) (by kernel_rfl) trivial (fun _ => ?_)
      refine wpAnyH_name (fun u0 hu0 => ?_)
      have bu0 : Below wr.heap.size wr u0 := by rw [hu0.out]; exact (Below.refl _ _).drew
      have Tu0 : TS w u0 g s qx qe y := by rw [hu0.out]; exact TS.drew T0.out
      refine wpAnyH_take (i := 0) (oi := { dst := some 15, op := Op.fieldAddr 57 (Operand.tmp 3) 1, type := 0, pos := "block.go:186", after := #[], guard := none }) (v := ?vc1) rfl (by kernel_rfl) (by kernel_rfl) (by kernel_rfl) (fun _ _ _ h => h) (Or.inl ⟨by rfl, ?yc1⟩) trivial ?rc1
      case yc1 => (intro w hSw; go_simp; try with_reducible rfl)
      try simp only [Act.put, List.setIfInBounds_toArray, List.set_cons_zero, List.set_cons_succ]
      refine wpAnyH_take (i := 1) (oi := { dst := some 16, op := Op.slice 55 (Operand.tmp 15) none none none, type := 22, pos := "block.go:186", after := #[{ on := 0, ground := Ground.data }], guard := none }) (v := ?vc2) rfl (by kernel_rfl) (by kernel_rfl) (by kernel_rfl) (fun _ _ _ h => h) (Or.inl ⟨by rfl, ?yc2⟩) trivial ?rc2
      case yc2 => (intro w hSw; go_simp; try with_reducible rfl)
      try simp only [Act.put, List.setIfInBounds_toArray, List.set_cons_zero, List.set_cons_succ]
      refine wpAnyH_take (i := 2) (oi := { dst := some 17, op := Op.move (Operand.tmp 0), type := 72, pos := "block.go:186", after := #[], guard := none }) (v := ?vc3) rfl (by kernel_rfl) (by kernel_rfl) (by kernel_rfl) (fun _ _ _ h => h) (Or.inl ⟨by rfl, ?yc3⟩) trivial ?rc3
      case yc3 => (intro w hSw; go_simp; try with_reducible rfl)
      try simp only [Act.put, List.setIfInBounds_toArray, List.set_cons_zero, List.set_cons_succ]
      refine wpAnyH_ready (rs := [3]) (by kernel_rfl) (by simp) ?_
      refine AllReadyH.cons (o := { dst := some 18, op := Op.call { callee := Callee.value (Operand.func 61), args := #[Operand.tmp 17, Operand.const (Value.int IntKind.i64 32)], argTypes := #[72, 3] }, type := 9, pos := "block.go:186", after := #[{ on := 2, ground := Ground.data }], guard := none }) rfl (fun KK hKK => ?_) ?_
      · go_simp
        refine (CR.out _ Tu0.1).mono ?_
        rintro r u4' ⟨rfl, rdu4, ofu4⟩
        (try go_wp2_with fail)
        refine hKK.out _ _ trivial (fun _ => ?_)
        clear hKK KK
        try simp only [Act.put, List.setIfInBounds_toArray, List.set_cons_zero, List.set_cons_succ]
        refine wpAnyH_name (fun u4 hu4 => ?_)
        rw [← hu4.out] at rdu4 ofu4
        have Tu4 := TS.off Tu0 rdu4 ofu4
        clear rdu4 ofu4
        refine wpAnyH_ready (rs := [4]) (by kernel_rfl) (by simp) ?_
        refine AllReadyH.cons (o := { dst := some 19, op := Op.call { callee := Callee.builtin Builtin.copy, args := #[Operand.tmp 16, Operand.tmp 18], argTypes := #[22, 9] }, type := 3, pos := "block.go:186", after := #[{ on := 1, ground := Ground.data }, { on := 3, ground := Ground.data }, { on := 3, ground := Ground.chain }], guard := none }) rfl (fun KK hKK => ?_) ?_
        · refine wp_copy_str _ _ 22 9 rfl 5 Tryd.underlying22 size5 (w.heap.size + 1) 1 32 32 SS rfl rfl y.cells.toArray 57 Tu4.2.2.1 (by have := HSZ.out; have := RL4.out; omega) (by have := HSZ.out; have := RL4.out; have := HYS.out; omega) ?_
          rw [HSZ.out, HOC.out]
          refine hKK.out _ _ trivial (fun _ => ?_)
          clear hKK KK
          try simp only [Act.put, List.setIfInBounds_toArray, List.set_cons_zero, List.set_cons_succ]
          refine wpAnyH_name (fun u5 hu5 => ?_)
          have Tu5 := TS.setR (y' := z) Tu4
          rw [← hu5.out] at Tu5
          refine wpAnyH_done (by kernel_rfl) ?_ _
          have ZR : Hid (u5.rangeAt (w.heap.size + 1) 0 z.cells) := IB.range Tu5.2.2.1
          have ZD : Hid (Fi.Rd u5 g s rx re) := Tu5.1
          have ZG : Hid (u5.heap[w.heap.size]? = some (.cells izc 57 (0, 0))) := Tu5.2.1
          have ZB : Hid (Sh.But g w u5) := Tu5.2.2.2.1
          have ZN : Hid (w.heap.size ≠ g ∧ w.heap.size ≠ s) := ⟨by have := Tu5.2.2.2.2; omega, by have := Tu5.2.2.2.2; omega⟩
          have ZZ : Hid ((Tryd.prog.info? 57).map (·.size) = some z.cells.length) := sizeI.trans (by rw [Sg.len HOK.out])
          go_wp2_with (first | refine wpList_load_mid rfl 57 _ rfl (w.heap.size + 1) 0 rfl z.cells _ ZR.out Tryd.underlying57 rfl ZZ.out ?_ | refine wpList_store_row rfl 57 _ _ rfl w.heap.size z.cells.toArray rfl rfl 57 izc ZG.out (Sg.info _ HOK.out) (izc_size.trans (Sg.size _ HOK.out).symm) (Sg.ones _) ?_)
          exact bodyPost_ret (v := z.val) (results_cell_row rfl _ _ w.heap.size 57 z.cells.toArray (0, 0) _ rfl (setRow_heap _ _ _ _ _ _ ZG.out) Tryd.underlying57 rfl (Sg.info _ HOK.out)) rfl ⟨rfl, by rw [HR3.out]; exact Rd.setRow ZD.out ZN.out.1 ZN.out.2 _, But.setRow ZB.out (Nat.le_refl _) _⟩
        exact AllReadyH.nil
      exact AllReadyH.nil
end Go.Proofs.YtjiefndjgkhcjaaDoor
