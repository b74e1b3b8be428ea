/-
  What the document's Make answers.
-/
import Derived.Test.YtdnbiibijoggoaaGreatDoorIe
import Derived.Test.YtdnbiibijoggoaaGreatDoorTg
import Derived.Test.YtdnbiibijoggoaaGreatDoorSg
import Derived.Test.YtdnbiibijoggoaaGreatDoorRa
namespace Go.Proofs.YtdnbiibijoggoaaGreatDoor
open Go.RowKit
set_option maxRecDepth 100000

theorem builtPD (p : ByteArray) (d : Bool) : Tryz.prog.built 42 [(0, .string p), (1, .bool d)] = some (It.cells ⟨p, d, 0, z32⟩).toArray := by kernel_rfl
theorem pd_ok (p : ByteArray) (d : Bool) : It.ok ⟨p, d, 0, z32⟩ := ⟨z32_len, z32_bytes, by show (-9223372036854775808 : Int) ≤ 0; decide, by show (0 : Int) ≤ 9223372036854775807; decide⟩
theorem set_size (p : ByteArray) (d : Bool) (n m : Int) (s : List Int) : (It.cells ⟨p, d, n, s⟩).toArray.setIfInBounds 2 (.int .i64 m) = (It.cells ⟨p, d, m, s⟩).toArray := by
  simp [It.cells]
/-- A sum laid over an item's. -/
theorem range_over {w : World} {g : Nat} {p : ByteArray} {d : Bool} {n : Int} {s A : List Int} (h : w.heap[g]? = some (.cells (It.cells ⟨p, d, n, s⟩).toArray 42 (0, 0))) (hs : s.length = 32) (hA : A.length = 32) :
    w.there g 3 (u8c A).size ∧ (w.setCells g 3 (u8c A).toList).rangeAt g 0 (It.cells ⟨p, d, n, A⟩) := by
  have hr : w.rangeAt g 0 (It.cells ⟨p, d, n, s⟩) := IB.range (x := ⟨p, d, n, s⟩) h
  have ht : w.there g 3 (u8c A).size := fun j hj => by
    rw [u8c_size, hA] at hj
    refine ⟨?_, frozen_of_row _ _ _ _ _ h⟩
    have := range_sum hr j (.int .u8 (s.getD j 0)) (by rw [List.getElem?_map, List.getElem?_eq_getElem (by show j < s.length; omega)]; simp [List.getD, List.getElem?_eq_getElem (show j < s.length by omega)])
    rw [Nat.zero_add] at this
    rw [this]
    rfl
  refine ⟨ht, fun j v hv => ?_⟩
  have e : (u8c A).toList = A.map (Value.int .u8) := by simp [u8c]
  have hsz : (u8c A).size = (A.map (Value.int .u8)).length := by simp [u8c]
  rw [hsz] at ht
  rw [e]
  rcases Nat.lt_or_ge j 3 with hj | hj
  · have h1 : w.rangeAt g 0 [.string p, .bool d, .int .i64 n] := fun i u hu => by
      have hi : i < 3 := (List.getElem?_eq_some_iff.1 hu).1
      refine hr i u ?_
      rcases (show i = 0 ∨ i = 1 ∨ i = 2 by omega) with rfl | rfl | rfl <;> exact hu
    have h2 := World.rangeAt_setCells_apart h1 g 3 (A.map (Value.int .u8)) (.inr (.inl (by simp)))
    refine h2 j v ?_
    rcases (show j = 0 ∨ j = 1 ∨ j = 2 by omega) with rfl | rfl | rfl <;> exact hv
  · obtain ⟨i, rfl⟩ : ∃ i, j = i + 3 := ⟨j - 3, by omega⟩
    have h2 := World.rangeAt_setCells_same w g 3 (A.map (Value.int .u8)) ht i v (by simpa [It.cells] using hv)
    rw [show 0 + (i + 3) = 3 + i by omega]
    exact h2
theorem below_setCells {B g : Nat} {w0 w : World} (hb : Below B w0 w) (hg : B ≤ g) : ∀ (vs : List Value) (o : Nat), Below B w0 (w.setCells g o vs) := fun vs => by
  induction vs generalizing w with
  | nil => intro o; exact hb
  | cons v vs ih => intro o; exact ih (hb.setCell hg _) (o + 1)
set_option maxHeartbeats 4000000 in
theorem rmake_any (v : Value) (l : List En) (w : World) (h : ES w v l) (hl : Lt l) :
    Calls Tryz.prog 9 #[v] w fun e w' => ∃ v', e = .returned (.tuple #[v', .int .i64 (mak l).2]) ∧ RI w' w.heap.size v' (mak l).1 ∧ Below w.heap.size w w' := by
  have CK := rcheckT_any v l w h hl
  obtain ⟨a, c, rfl, h2, h3, h4⟩ := h.shape
  have HS : Hid (ES w (.slice a l.length c) l) := h
  have HL : Hid (Lt l) := hl
  have hn := hl.1
  obtain ⟨n, hn'⟩ : ∃ n, n = l.length := ⟨_, rfl⟩
  have HN : Hid (n = l.length) := hn'
  rw [← hn'] at HS h2 hn CK ⊢
  have HM : Hid (mak l = if ckT l ≠ 0 then ([], ckT l) else (l.map itm, 0)) := rfl
  clear h hl h3 h4 hn'
  generalize mak l = R at *
  generalize ckT l = k at *
  go_enter Tryz.func9, Tryz.ntmps9
  go_wp2_with fail
  refine CK.mono ?_
  rintro e w1 ⟨rfl, b1⟩
  clear CK
  have B1 : Hid (Below w.heap.size w w1) := b1
  clear b1
  by_cases hk : k = 0
  · subst hk
    obtain rfl : R = (l.map itm, 0) := by have := HM.out; simpa using this
    go_wp2
    go_loopw [5, 6] (fun s q wr => ∃ j : Nat, j ≤ n ∧ q = .int .i64 j ∧ RI wr w.heap.size s ((l.take j).map itm) ∧ Below w.heap.size w wr) (fun _ q _ => n - (intOf q).toNat)
    case atStart => exact ⟨0, by omega, rfl, RI.nil _ _, B1.out⟩
    case round =>
      obtain ⟨j, hj, rfl, oe, bel⟩ := hrel
      have HB : Hid (Below w.heap.size w wr) := bel
      have HO : Hid (RI wr w.heap.size u5 ((l.take j).map itm)) := oe
      obtain ⟨va, vc, rfl, hv, _, _⟩ := oe.is.shape
      have hlj : ((l.take j).map itm).length = j := by rw [List.length_map, List.length_take, ← HN.out]; omega
      rw [hlj] at HO ⊢
      clear bel hv oe
      by_cases hlt : j < n
      · have lt2 : (j : Int) < (n : Int) := by omega
        have lt3 : (0 : Int) ≤ (j : Int) := by omega
        obtain ⟨b, off, ua, un, uc, rfl, c1, c2, c3, hun, hsl⟩ := (HS.out.kept HB.out).at j (by rw [← HN.out]; exact hlt)
        have hz := (HL.out.at j).2
        have HT : Hid ((l.take (j + 1)).map itm = (l.take j).map itm ++ [itm (atE l j)]) := by unfold Hid; rw [take_at l j (by rw [← HN.out]; exact hlt)]; simp
        generalize atE l j = x at *
        have HY : Hid (It.ok (itm x)) := itm_ok x hz
        have HYE : Hid (itm x = if x.d = true then bare x.p else ⟨x.p, false, un, Sh.Pl.sha x.z⟩) := by unfold Hid; rw [hun]; rfl
        have FT : Hid (∀ W, From wr W → W.cell? ⟨b, off + j * 3, none⟩ = some (.string x.p) ∧ W.cell? ⟨b, off + j * 3 + 1, none⟩ = some (.bool x.d) ∧ W.cell? ⟨b, off + j * 3 + 2, none⟩ = some (.slice ua un uc)) := fun W hb => ⟨(Below.cell hb (World.block_lt_of_cell? _ _ c1)).trans c1, (Below.cell hb (World.block_lt_of_cell? _ _ c2)).trans c2, (Below.cell hb (World.block_lt_of_cell? _ _ c3)).trans c3⟩
        have FO : Hid (∀ W, From wr W → Calls Tryz.prog 28 #[.slice ua un uc] W fun e w' => e = .returned (.agg (u8c (Sh.Pl.sha x.z))) ∧ Below W.heap.size W w') := fun W hb => Sh.rof_any _ x.z W (hsl.kept hb) hz
        have FB : Hid (∀ W, From wr W → Below w.heap.size w W) := fun W hb => HB.out.trans (Below.mono hb HB.out.size)
        have R1 : Hid (∀ W, From wr W → RI W w.heap.size (.slice va j vc) ((l.take j).map itm)) := fun W hb => HO.out.below hb
        have BP : Hid (Tryz.prog.built 42 [(0, .string x.p), (1, .bool x.d)] = some (It.cells ⟨x.p, x.d, 0, z32⟩).toArray) := builtPD _ _
        have HAL : Hid ((Sh.Pl.sha x.z).length = 32) := Sh.sha_len _
        have hun9 : un ≤ 9223372036854775807 := by rw [hun]; omega
        clear hun hsl HO hz c1 c2 c3
        generalize itm x = y at *
        generalize (l.take j).map itm = L at *
        have HJ : Hid (L.length = j) := hlj
        clear hlj
        generalize Sh.Pl.sha x.z = SH at *
        generalize x.p = xp at *
        generalize x.d = xd at *
        go_wp2_with fail
        refine wp_region_held_drew (S := From wr) (by kernel_rfl) (Below.drew (Below.refl _ _)) (fun _ => ?_)
        refine wpAnyH_name (fun u0 hu0 => ?_)
        have bu0 : Below wr.heap.size wr u0 := by rw [hu0.out]; exact Below.drew (Below.refl _ _)
        refine wpAnyH_take (i := 0) (oi := { dst := some 19, op := Op.move (Operand.tmp 0), type := 22, pos := "ref.go:27", after := #[], guard := none }) (v := ?vr1) rfl (by kernel_rfl) (by kernel_rfl) (by kernel_rfl) (fun _ _ _ h => h) (Or.inl ⟨by rfl, ?yr1⟩) bu0 ?rr1
        case yr1 => (intro w hSw; go_simp; try with_reducible rfl)
        try simp only [Act.put, List.setIfInBounds_toArray, List.set_cons_zero, List.set_cons_succ]
        refine wpAnyH_take (i := 1) (oi := { dst := some 20, op := Op.move (Operand.tmp 6), type := 3, pos := "ref.go:27", after := #[], guard := none }) (v := ?vr2) rfl (by kernel_rfl) (by kernel_rfl) (by kernel_rfl) (fun _ _ _ h => h) (Or.inl ⟨by rfl, ?yr2⟩) bu0 ?rr2
        case yr2 => (intro w hSw; go_simp; try with_reducible rfl)
        try simp only [Act.put, List.setIfInBounds_toArray, List.set_cons_zero, List.set_cons_succ]
        refine wpAnyH_take (i := 2) (oi := { dst := some 21, op := Op.indexAddr 22 (Operand.tmp 19) (Operand.tmp 20), type := 0, pos := "ref.go:27", after := #[{ on := 0, ground := Ground.data }, { on := 1, ground := Ground.data }], guard := none }) (v := ?vr3) rfl (by kernel_rfl) (by kernel_rfl) (by kernel_rfl) (fun _ _ _ h => h) (Or.inl ⟨by rfl, ?yr3⟩) bu0 ?rr3
        case yr3 => (intro w hSw; go_simp; try with_reducible rfl)
        try simp only [Act.put, List.setIfInBounds_toArray, List.set_cons_zero, List.set_cons_succ]
        refine wpAnyH_take (i := 3) (oi := { dst := some 22, op := Op.fieldAddr 54 (Operand.tmp 21) 0, type := 0, pos := "ref.go:27", after := #[{ on := 2, ground := Ground.data }], guard := none }) (v := ?vr4) rfl (by kernel_rfl) (by kernel_rfl) (by kernel_rfl) (fun _ _ _ h => h) (Or.inl ⟨by rfl, ?yr4⟩) bu0 ?rr4
        case yr4 => (intro w hSw; go_simp; try with_reducible rfl)
        try simp only [Act.put, List.setIfInBounds_toArray, List.set_cons_zero, List.set_cons_succ]
        refine wpAnyH_take (i := 4) (oi := { dst := some 23, op := Op.load 9 (Operand.tmp 22), type := 9, pos := "ref.go:27", after := #[{ on := 3, ground := Ground.data }], guard := none }) (v := ?vr5) rfl (by kernel_rfl) (by kernel_rfl) (by kernel_rfl) (fun _ _ _ h => h) (Or.inl ⟨by rfl, ?yr5⟩) bu0 ?rr5
        case yr5 => (intro w hSw; obtain ⟨t0, t1, t2⟩ := FT.out w hSw; go_simp; try with_reducible rfl)
        try simp only [Act.put, List.setIfInBounds_toArray, List.set_cons_zero, List.set_cons_succ]
        refine wpAnyH_take (i := 5) (oi := { dst := some 24, op := Op.move (Operand.tmp 0), type := 22, pos := "ref.go:27", after := #[], guard := none }) (v := ?vr6) rfl (by kernel_rfl) (by kernel_rfl) (by kernel_rfl) (fun _ _ _ h => h) (Or.inl ⟨by rfl, ?yr6⟩) bu0 ?rr6
        case yr6 => (intro w hSw; go_simp; try with_reducible rfl)
        try simp only [Act.put, List.setIfInBounds_toArray, List.set_cons_zero, List.set_cons_succ]
        refine wpAnyH_take (i := 6) (oi := { dst := some 25, op := Op.move (Operand.tmp 6), type := 3, pos := "ref.go:27", after := #[], guard := none }) (v := ?vr7) rfl (by kernel_rfl) (by kernel_rfl) (by kernel_rfl) (fun _ _ _ h => h) (Or.inl ⟨by rfl, ?yr7⟩) bu0 ?rr7
        case yr7 => (intro w hSw; go_simp; try with_reducible rfl)
        try simp only [Act.put, List.setIfInBounds_toArray, List.set_cons_zero, List.set_cons_succ]
        refine wpAnyH_take (i := 7) (oi := { dst := some 26, op := Op.indexAddr 22 (Operand.tmp 24) (Operand.tmp 25), type := 0, pos := "ref.go:27", after := #[{ on := 5, ground := Ground.data }, { on := 6, ground := Ground.data }], guard := none }) (v := ?vr8) rfl (by kernel_rfl) (by kernel_rfl) (by kernel_rfl) (fun _ _ _ h => h) (Or.inl ⟨by rfl, ?yr8⟩) bu0 ?rr8
        case yr8 => (intro w hSw; go_simp; try with_reducible rfl)
        try simp only [Act.put, List.setIfInBounds_toArray, List.set_cons_zero, List.set_cons_succ]
        refine wpAnyH_take (i := 8) (oi := { dst := some 27, op := Op.fieldAddr 54 (Operand.tmp 26) 1, type := 0, pos := "ref.go:27", after := #[{ on := 7, ground := Ground.data }], guard := none }) (v := ?vr9) rfl (by kernel_rfl) (by kernel_rfl) (by kernel_rfl) (fun _ _ _ h => h) (Or.inl ⟨by rfl, ?yr9⟩) bu0 ?rr9
        case yr9 => (intro w hSw; go_simp; try with_reducible rfl)
        try simp only [Act.put, List.setIfInBounds_toArray, List.set_cons_zero, List.set_cons_succ]
        refine wpAnyH_take (i := 9) (oi := { dst := some 28, op := Op.load 4 (Operand.tmp 27), type := 4, pos := "ref.go:27", after := #[{ on := 8, ground := Ground.data }], guard := none }) (v := ?vr10) rfl (by kernel_rfl) (by kernel_rfl) (by kernel_rfl) (fun _ _ _ h => h) (Or.inl ⟨by rfl, ?yr10⟩) bu0 ?rr10
        case yr10 => (intro w hSw; obtain ⟨t0, t1, t2⟩ := FT.out w hSw; go_simp; try with_reducible rfl)
        try simp only [Act.put, List.setIfInBounds_toArray, List.set_cons_zero, List.set_cons_succ]
        refine wpAnyH_take (i := 10) (oi := { dst := some 29, op := Op.build 42 #[(0, Operand.tmp 23), (1, Operand.tmp 28)], type := 42, pos := "ref.go:27", after := #[{ on := 4, ground := Ground.data }, { on := 9, ground := Ground.data }], guard := none }) (v := .agg (It.cells ⟨xp, xd, 0, z32⟩).toArray) rfl (by kernel_rfl) (by kernel_rfl) (by kernel_rfl) (fun _ _ _ h => h) (yields_built (by rfl) 42 _ rfl [(0, .string xp), (1, .bool xd)] rfl (It.cells ⟨xp, xd, 0, z32⟩).toArray BP.out) bu0 ?_
        try simp only [Act.put, List.setIfInBounds_toArray, List.set_cons_zero, List.set_cons_succ]
        refine wpAnyH_ready (rs := [11]) (by kernel_rfl) (by simp) ?_
        refine AllReadyH.cons (o := { dst := some 7, op := Op.alloc 42, type := 0, pos := "ref.go:27", after := #[], guard := none }) rfl (fun KK hKK => ?_) ?_
        · go_simp
          refine hKK.out _ _ (bu0.trans (Below.mono (al_below _ _) bu0.size)) (fun _ => ?_)
          clear hKK KK
          try simp only [Act.put, List.setIfInBounds_toArray, List.set_cons_zero, List.set_cons_succ]
          refine wpAnyH_name (fun u12 hu12 => ?_)
          have bu12 : Below wr.heap.size wr u12 := by rw [hu12.out]; exact (bu0.trans (Below.mono (al_below _ _) bu0.size))
          have Gu12 : u12.heap[u0.heap.size]? = some (.cells izc 42 (0, 0)) := by rw [hu12.out]; exact heap_alloc_new _ _
          refine wpAnyH_ready (rs := [12]) (by kernel_rfl) (by simp) ?_
          refine AllReadyH.cons (o := { dst := none, op := Op.store 42 (Operand.tmp 7) (Operand.tmp 29), type := 0, pos := "ref.go:27", after := #[{ on := 11, ground := Ground.data }, { on := 10, ground := Ground.data }, { on := 0, ground := Ground.phase }, { on := 1, ground := Ground.phase }, { on := 2, ground := Ground.phase }, { on := 3, ground := Ground.phase }, { on := 4, ground := Ground.phase }, { on := 5, ground := Ground.phase }, { on := 6, ground := Ground.phase }, { on := 7, ground := Ground.phase }, { on := 8, ground := Ground.phase }, { on := 9, ground := Ground.phase }, { on := 10, ground := Ground.phase }, { on := 11, ground := Ground.phase }], guard := none }) rfl (fun KK hKK => ?_) ?_
          · refine wp_store_row 42 _ _ rfl u0.heap.size (It.cells ⟨xp, xd, 0, z32⟩).toArray rfl rfl 42 izc Gu12 (It.info _ (pd_ok _ _)) (izc_size.trans (It.size _ (pd_ok _ _)).symm) (It.ones _) ?_
            refine hKK.out _ _ (below_setRow bu12 bu0.size _) (fun _ => ?_)
            clear hKK KK
            try simp only [Act.put]
            refine wpAnyH_name (fun u13 hu13 => ?_)
            have bu13 : Below wr.heap.size wr u13 := by rw [hu13.out]; exact (below_setRow bu12 bu0.size _)
            have Zu13 := setRow_heap _ _ _ (It.cells ⟨xp, xd, 0, z32⟩).toArray _ _ Gu12
            rw [← hu13.out] at Zu13
            refine wpAnyH_done (by kernel_rfl) ?_ _
            have T1 : Hid (u13.heap[u0.heap.size]? = some (.cells (It.cells ⟨xp, xd, 0, z32⟩).toArray 42 (0, 0))) := Zu13
            have LU : Hid (wr.heap.size ≤ u0.heap.size) := bu0.size
            have F1 : Hid (From wr u13) := bu13
            generalize u0.heap.size = gI at *
            obtain ⟨w1, hw1⟩ : ∃ w1, w1 = u13 := ⟨_, rfl⟩
            rw [← hw1] at T1 F1 ⊢
            clear hw1
            have p1 : w1.cell? ⟨gI, 1, none⟩ = some (.bool xd) := by rw [cell_of_row _ _ _ _ _ _ T1.out]; rfl
            cases xd
            · have HYF : Hid (y = ⟨xp, false, un, SH⟩) := by unfold Hid; have := HYE.out; simpa using this
              clear HYE
              go_wp2_with fail
              clear p1
              refine wp_region_held_drew (S := From wr) (by kernel_rfl) (Below.drew (F1.out)) (fun _ => ?_)
              refine wpAnyH_name (fun u0 hu0 => ?_)
              have bu0 : Below wr.heap.size wr u0 := by rw [hu0.out]; exact Below.drew (F1.out)
              have Gu0 : u0.heap[gI]? = some (.cells (It.cells ⟨xp, false, 0, z32⟩).toArray 42 (0, 0)) := by rw [hu0.out]; exact T1.out
              refine wpAnyH_take (i := 0) (oi := { dst := some 33, op := Op.move (Operand.tmp 0), type := 22, pos := "ref.go:29", after := #[], guard := none }) (v := ?vs1) rfl (by kernel_rfl) (by kernel_rfl) (by kernel_rfl) (fun _ _ _ h => h) (Or.inl ⟨by rfl, ?ys1⟩) bu0 ?rs1
              case ys1 => (intro w hSw; go_simp; try with_reducible rfl)
              try simp only [Act.put, List.setIfInBounds_toArray, List.set_cons_zero, List.set_cons_succ]
              refine wpAnyH_take (i := 1) (oi := { dst := some 34, op := Op.move (Operand.tmp 6), type := 3, pos := "ref.go:29", after := #[], guard := none }) (v := ?vs2) rfl (by kernel_rfl) (by kernel_rfl) (by kernel_rfl) (fun _ _ _ h => h) (Or.inl ⟨by rfl, ?ys2⟩) bu0 ?rs2
              case ys2 => (intro w hSw; go_simp; try with_reducible rfl)
              try simp only [Act.put, List.setIfInBounds_toArray, List.set_cons_zero, List.set_cons_succ]
              refine wpAnyH_take (i := 2) (oi := { dst := some 35, op := Op.indexAddr 22 (Operand.tmp 33) (Operand.tmp 34), type := 0, pos := "ref.go:29", after := #[{ on := 0, ground := Ground.data }, { on := 1, ground := Ground.data }], guard := none }) (v := ?vs3) rfl (by kernel_rfl) (by kernel_rfl) (by kernel_rfl) (fun _ _ _ h => h) (Or.inl ⟨by rfl, ?ys3⟩) bu0 ?rs3
              case ys3 => (intro w hSw; go_simp; try with_reducible rfl)
              try simp only [Act.put, List.setIfInBounds_toArray, List.set_cons_zero, List.set_cons_succ]
              refine wpAnyH_take (i := 3) (oi := { dst := some 36, op := Op.fieldAddr 54 (Operand.tmp 35) 2, type := 0, pos := "ref.go:29", after := #[{ on := 2, ground := Ground.data }], guard := none }) (v := ?vs4) rfl (by kernel_rfl) (by kernel_rfl) (by kernel_rfl) (fun _ _ _ h => h) (Or.inl ⟨by rfl, ?ys4⟩) bu0 ?rs4
              case ys4 => (intro w hSw; go_simp; try with_reducible rfl)
              try simp only [Act.put, List.setIfInBounds_toArray, List.set_cons_zero, List.set_cons_succ]
              refine wpAnyH_take (i := 4) (oi := { dst := some 37, op := Op.load 34 (Operand.tmp 36), type := 34, pos := "ref.go:29", after := #[{ on := 3, ground := Ground.data }], guard := none }) (v := ?vs5) rfl (by kernel_rfl) (by kernel_rfl) (by kernel_rfl) (fun _ _ _ h => h) (Or.inl ⟨by rfl, ?ys5⟩) bu0 ?rs5
              case ys5 => (intro w hSw; obtain ⟨t0, t1, t2⟩ := FT.out w hSw; go_simp; try with_reducible rfl)
              try simp only [Act.put, List.setIfInBounds_toArray, List.set_cons_zero, List.set_cons_succ]
              refine wpAnyH_take (i := 5) (oi := { dst := some 38, op := Op.call { callee := Callee.builtin Builtin.len, args := #[Operand.tmp 37], argTypes := #[34] }, type := 3, pos := "ref.go:29", after := #[{ on := 4, ground := Ground.data }], guard := none }) (v := ?vs6) rfl (by kernel_rfl) (by kernel_rfl) (by kernel_rfl) (fun _ _ _ h => h) (Or.inl ⟨by rfl, ?ys6⟩) bu0 ?rs6
              case ys6 => (intro w hSw; go_simp; try with_reducible rfl)
              try simp only [Act.put, List.setIfInBounds_toArray, List.set_cons_zero, List.set_cons_succ]
              refine wpAnyH_take (i := 6) (oi := { dst := some 39, op := Op.move (Operand.tmp 0), type := 22, pos := "ref.go:29", after := #[], guard := none }) (v := ?vs7) rfl (by kernel_rfl) (by kernel_rfl) (by kernel_rfl) (fun _ _ _ h => h) (Or.inl ⟨by rfl, ?ys7⟩) bu0 ?rs7
              case ys7 => (intro w hSw; go_simp; try with_reducible rfl)
              try simp only [Act.put, List.setIfInBounds_toArray, List.set_cons_zero, List.set_cons_succ]
              refine wpAnyH_take (i := 7) (oi := { dst := some 40, op := Op.move (Operand.tmp 6), type := 3, pos := "ref.go:29", after := #[], guard := none }) (v := ?vs8) rfl (by kernel_rfl) (by kernel_rfl) (by kernel_rfl) (fun _ _ _ h => h) (Or.inl ⟨by rfl, ?ys8⟩) bu0 ?rs8
              case ys8 => (intro w hSw; go_simp; try with_reducible rfl)
              try simp only [Act.put, List.setIfInBounds_toArray, List.set_cons_zero, List.set_cons_succ]
              refine wpAnyH_take (i := 8) (oi := { dst := some 41, op := Op.indexAddr 22 (Operand.tmp 39) (Operand.tmp 40), type := 0, pos := "ref.go:29", after := #[{ on := 6, ground := Ground.data }, { on := 7, ground := Ground.data }], guard := none }) (v := ?vs9) rfl (by kernel_rfl) (by kernel_rfl) (by kernel_rfl) (fun _ _ _ h => h) (Or.inl ⟨by rfl, ?ys9⟩) bu0 ?rs9
              case ys9 => (intro w hSw; go_simp; try with_reducible rfl)
              try simp only [Act.put, List.setIfInBounds_toArray, List.set_cons_zero, List.set_cons_succ]
              refine wpAnyH_take (i := 9) (oi := { dst := some 42, op := Op.fieldAddr 54 (Operand.tmp 41) 2, type := 0, pos := "ref.go:29", after := #[{ on := 8, ground := Ground.data }], guard := none }) (v := ?vs10) rfl (by kernel_rfl) (by kernel_rfl) (by kernel_rfl) (fun _ _ _ h => h) (Or.inl ⟨by rfl, ?ys10⟩) bu0 ?rs10
              case ys10 => (intro w hSw; go_simp; try with_reducible rfl)
              try simp only [Act.put, List.setIfInBounds_toArray, List.set_cons_zero, List.set_cons_succ]
              refine wpAnyH_take (i := 10) (oi := { dst := some 43, op := Op.load 34 (Operand.tmp 42), type := 34, pos := "ref.go:29", after := #[{ on := 9, ground := Ground.data }], guard := none }) (v := ?vs11) rfl (by kernel_rfl) (by kernel_rfl) (by kernel_rfl) (fun _ _ _ h => h) (Or.inl ⟨by rfl, ?ys11⟩) bu0 ?rs11
              case ys11 => (intro w hSw; obtain ⟨t0, t1, t2⟩ := FT.out w hSw; go_simp; try with_reducible rfl)
              try simp only [Act.put, List.setIfInBounds_toArray, List.set_cons_zero, List.set_cons_succ]
              refine wpAnyH_take (i := 12) (oi := { dst := some 45, op := Op.fieldAddr 42 (Operand.tmp 7) 2, type := 0, pos := "ref.go:29", after := #[{ on := 0, ground := Ground.phase }, { on := 1, ground := Ground.phase }, { on := 2, ground := Ground.phase }, { on := 3, ground := Ground.phase }, { on := 4, ground := Ground.phase }, { on := 5, ground := Ground.phase }, { on := 6, ground := Ground.textOnly Departure.lateStores }, { on := 7, ground := Ground.textOnly Departure.lateStores }, { on := 8, ground := Ground.textOnly Departure.lateStores }, { on := 9, ground := Ground.textOnly Departure.lateStores }, { on := 10, ground := Ground.textOnly Departure.lateStores }, { on := 11, ground := Ground.textOnly Departure.lateStoresUnsure }], guard := none }) (v := ?vs12) rfl (by kernel_rfl) (by kernel_rfl) (by kernel_rfl) (fun _ _ _ h => h) (Or.inl ⟨by rfl, ?ys12⟩) bu0 ?rs12
              case ys12 => (intro w hSw; go_simp; try with_reducible rfl)
              try simp only [Act.put, List.setIfInBounds_toArray, List.set_cons_zero, List.set_cons_succ]
              refine wpAnyH_ready (rs := [11]) (by kernel_rfl) (by simp) ?_
              refine AllReadyH.cons (o := { dst := some 44, op := Op.call { callee := Callee.value (Operand.func 28), args := #[Operand.tmp 43], argTypes := #[34] }, type := 40, pos := "ref.go:29", after := #[{ on := 10, ground := Ground.data }], guard := none }) rfl (fun KK hKK => ?_) ?_
              · go_simp
                refine (FO.out _ bu0).mono ?_
                rintro e u13' ⟨rfl, bu13'⟩
                (try go_wp2_with fail)
                refine hKK.out _ _ (bu0.trans (Below.mono (bu13') bu0.size)) (fun _ => ?_)
                clear hKK KK
                try simp only [Act.put, List.setIfInBounds_toArray, List.set_cons_zero, List.set_cons_succ]
                refine wpAnyH_name (fun u13 hu13 => ?_)
                have bu13 : Below wr.heap.size wr u13 := by rw [hu13.out]; exact (bu0.trans (Below.mono (bu13') bu0.size))
                have qu13 : Below u0.heap.size u0 u13 := by rw [hu13.out]; exact bu13'
                have Gu13 : u13.heap[gI]? = some (.cells (It.cells ⟨xp, false, 0, z32⟩).toArray 42 (0, 0)) := (qu13.block _ (Array.getElem?_eq_some_iff.1 Gu0).1).trans Gu0
                refine wpAnyH_ready (rs := [13]) (by kernel_rfl) (by simp) ?_
                refine AllReadyH.cons (o := { dst := none, op := Op.store 3 (Operand.tmp 45) (Operand.tmp 38), type := 0, pos := "ref.go:29", after := #[{ on := 12, ground := Ground.data }, { on := 5, ground := Ground.data }, { on := 11, ground := Ground.chain }, { on := 0, ground := Ground.phase }, { on := 1, ground := Ground.phase }, { on := 2, ground := Ground.phase }, { on := 3, ground := Ground.phase }, { on := 4, ground := Ground.phase }, { on := 5, ground := Ground.phase }, { on := 6, ground := Ground.textOnly Departure.lateStores }, { on := 7, ground := Ground.textOnly Departure.lateStores }, { on := 8, ground := Ground.textOnly Departure.lateStores }, { on := 9, ground := Ground.textOnly Departure.lateStores }, { on := 10, ground := Ground.textOnly Departure.lateStores }, { on := 11, ground := Ground.textOnly Departure.lateStoresUnsure }], guard := none }) rfl (fun KK hKK => ?_) ?_
                · have fcu14 : u13.cell? ⟨gI, 2, none⟩ = some (.int .i64 0) := by rw [cell_of_row _ _ _ _ _ _ Gu13]; rfl
                  have fzu14 : u13.frozen? ⟨gI, 2, none⟩ = false := frozen_of_row _ _ _ _ _ Gu13
                  go_simp
                  refine hKK.out _ _ (bu13.setCell LU.out _) (fun _ => ?_)
                  clear hKK KK
                  try simp only [Act.put]
                  refine wpAnyH_name (fun u14 hu14 => ?_)
                  have bu14 : Below wr.heap.size wr u14 := by rw [hu14.out]; exact (bu13.setCell LU.out _)
                  have Gu14 : u14.heap[gI]? = some (.cells (It.cells ⟨xp, false, un, z32⟩).toArray 42 (0, 0)) := by rw [hu14.out, heap_setCell_same _ _ _ _ _ _ Gu13, set_size]
                  refine wpAnyH_take (i := 14) (oi := { dst := some 46, op := Op.fieldAddr 42 (Operand.tmp 7) 3, type := 0, pos := "ref.go:29", after := #[{ on := 0, ground := Ground.phase }, { on := 1, ground := Ground.phase }, { on := 2, ground := Ground.phase }, { on := 3, ground := Ground.phase }, { on := 4, ground := Ground.phase }, { on := 5, ground := Ground.phase }, { on := 6, ground := Ground.phase }, { on := 7, ground := Ground.phase }, { on := 8, ground := Ground.phase }, { on := 9, ground := Ground.phase }, { on := 10, ground := Ground.phase }, { on := 11, ground := Ground.phase }, { on := 12, ground := Ground.phase }, { on := 13, ground := Ground.phase }], guard := none }) (v := ?vs15) rfl (by kernel_rfl) (by kernel_rfl) (by kernel_rfl) (fun _ _ _ h => h) (Or.inl ⟨by rfl, ?ys15⟩) bu14 ?rs15
                  case ys15 => (intro w hSw; go_simp; try with_reducible rfl)
                  try simp only [Act.put, List.setIfInBounds_toArray, List.set_cons_zero, List.set_cons_succ]
                  refine wpAnyH_ready (rs := [15]) (by kernel_rfl) (by simp) ?_
                  refine AllReadyH.cons (o := { dst := none, op := Op.store 40 (Operand.tmp 46) (Operand.tmp 44), type := 0, pos := "ref.go:29", after := #[{ on := 14, ground := Ground.data }, { on := 11, ground := Ground.data }, { on := 13, ground := Ground.chain }, { on := 0, ground := Ground.phase }, { on := 1, ground := Ground.phase }, { on := 2, ground := Ground.phase }, { on := 3, ground := Ground.phase }, { on := 4, ground := Ground.phase }, { on := 5, ground := Ground.phase }, { on := 6, ground := Ground.phase }, { on := 7, ground := Ground.phase }, { on := 8, ground := Ground.phase }, { on := 9, ground := Ground.phase }, { on := 10, ground := Ground.phase }, { on := 11, ground := Ground.phase }, { on := 12, ground := Ground.phase }, { on := 13, ground := Ground.phase }], guard := none }) rfl (fun KK hKK => ?_) ?_
                  · have ovu16 := range_over Gu14 z32_len HAL.out
                    refine wp_store_mid 40 _ _ rfl gI 3 (u8c SH) rfl rfl ovu16.1 (infoH _ HAL.out) (u8c_ones _) ?_
                    refine hKK.out _ _ (below_setCells bu14 LU.out _ _) (fun _ => ?_)
                    clear hKK KK
                    try simp only [Act.put]
                    refine wpAnyH_name (fun u16 hu16 => ?_)
                    have bu16 : Below wr.heap.size wr u16 := by rw [hu16.out]; exact (below_setCells bu14 LU.out _ _)
                    have Zu16 := ovu16.2
                    rw [← hu16.out] at Zu16
                    refine wpAnyH_done (by kernel_rfl) ?_ _
                    obtain ⟨w4, hw4⟩ : ∃ w4, w4 = u16 := ⟨_, rfl⟩
                    have F4 : Hid (From wr u16) := bu16
                    have ZR : Hid (u16.rangeAt gI 0 (It.cells ⟨xp, false, un, SH⟩)) := Zu16
                    rw [← hw4] at F4 ZR ⊢
                    clear hw4
                    rw [← HYF.out] at ZR
                    have ZZ : Hid ((Tryz.prog.info? 42).map (·.size) = some y.cells.length) := sizeI.trans (by rw [It.len HY.out])
                    go_wp2_with (refine wpList_load_mid rfl 42 _ rfl gI 0 rfl y.cells _ ZR.out Tryz.underlying42 rfl ZZ.out (Hid.out ?_))
                    unfold Hid
                    obtain ⟨W5, hW5⟩ : ∃ W5, W5 = w4.alloc (.cells y.cells.toArray 42) := ⟨_, rfl⟩
                    have b5 : Below w4.heap.size w4 W5 := by rw [hW5]; exact al_below _ _
                    have F5 : From wr W5 := Below.trans F4.out (b5.mono (Below.size F4.out))
                    have R5 : Hid (RI W5 w.heap.size (.slice va j vc) L) := R1.out W5 F5
                    have K5 : Hid (W5.rangeAt w4.heap.size 0 y.cells) := by unfold Hid; rw [hW5]; exact (IB.new w4 y).range
                    have B5 : Hid (Below w.heap.size w W5) := FB.out W5 F5
                    go_wp2_with (refine wpList_bsI rfl _ rfl y HY.out rfl (Hid.out ?_))
                    unfold Hid
                    rw [← hW5]
                    clear hW5 b5 F5
                    go_wp2_with (at_builtin; refine wpList_append_it rfl _ _ rfl w.heap.size _ L rfl R5.out w4.heap.size y 1 HY.out rfl K5.out (by rw [HJ.out]; omega) B5.out.size (Hid.out ?_))
                    unfold Hid
                    intro v6 w6 r6 g6
                    have B6 : Hid (Below w.heap.size w w6) := B5.out.grown g6 B5.out.size (own_base R5.out.1)
                    have O6 : Hid (RI w6 w.heap.size v6 ((l.take (j + 1)).map itm)) := by
                      unfold Hid
                      rw [HT.out]
                      exact r6
                    clear r6 g6 R5 K5 B5
                    go_wp2
                    go_roundw
                    case rel => exact ⟨j + 1, by omega, by go_num, O6.out, B6.out⟩
                    case measure => simp [intOf]; omega
                  exact AllReadyH.nil
                exact AllReadyH.nil
              exact AllReadyH.nil
            · have HYF : y = bare xp := by have := HYE.out; simpa using this
              obtain ⟨w4, hw4⟩ : ∃ w4 : World, w4 = w1 := ⟨_, rfl⟩
              rw [← hw4] at T1 F1 p1 ⊢
              clear hw4 HYE
              have F4 : Hid (From wr w4) := F1.out
              have ZR : Hid (w4.rangeAt gI 0 y.cells) := by unfold Hid; rw [HYF]; exact IB.range (x := bare xp) T1.out
              clear HYF T1
              have ZZ : Hid ((Tryz.prog.info? 42).map (·.size) = some y.cells.length) := sizeI.trans (by rw [It.len HY.out])
              go_wp2_with (refine wpList_load_mid rfl 42 _ rfl gI 0 rfl y.cells _ ZR.out Tryz.underlying42 rfl ZZ.out (Hid.out ?_))
              unfold Hid
              obtain ⟨W5, hW5⟩ : ∃ W5, W5 = w4.alloc (.cells y.cells.toArray 42) := ⟨_, rfl⟩
              have b5 : Below w4.heap.size w4 W5 := by rw [hW5]; exact al_below _ _
              have F5 : From wr W5 := Below.trans F4.out (b5.mono (Below.size F4.out))
              have R5 : Hid (RI W5 w.heap.size (.slice va j vc) L) := R1.out W5 F5
              have K5 : Hid (W5.rangeAt w4.heap.size 0 y.cells) := by unfold Hid; rw [hW5]; exact (IB.new w4 y).range
              have B5 : Hid (Below w.heap.size w W5) := FB.out W5 F5
              go_wp2_with (refine wpList_bsI rfl _ rfl y HY.out rfl (Hid.out ?_))
              unfold Hid
              rw [← hW5]
              clear hW5 b5 F5
              go_wp2_with (at_builtin; refine wpList_append_it rfl _ _ rfl w.heap.size _ L rfl R5.out w4.heap.size y 1 HY.out rfl K5.out (by rw [HJ.out]; omega) B5.out.size (Hid.out ?_))
              unfold Hid
              intro v6 w6 r6 g6
              have B6 : Hid (Below w.heap.size w w6) := B5.out.grown g6 B5.out.size (own_base R5.out.1)
              have O6 : Hid (RI w6 w.heap.size v6 ((l.take (j + 1)).map itm)) := by
                unfold Hid
                rw [HT.out]
                exact r6
              clear r6 g6 R5 K5 B5
              go_wp2
              go_roundw
              case rel => exact ⟨j + 1, by omega, by go_num, O6.out, B6.out⟩
              case measure => simp [intOf]; omega
          exact AllReadyH.nil
        exact AllReadyH.nil
      · obtain rfl : j = n := by omega
        have HR : Hid (RI wr w.heap.size (.slice va j vc) (l.map itm)) := by
          have h1 := HO.out
          have h2 : l.take j = l := by rw [HN.out, List.take_length]
          rw [h2] at h1
          exact h1
        go_wp2
        go_ret2
        exact ⟨_, rfl, HR.out, HB.out⟩
  · obtain rfl : R = ([], k) := by have := HM.out; rwa [if_pos hk] at this
    have hk2 : (k != 0) = true := by simpa using hk
    go_wp2
    go_ret2
    exact ⟨_, rfl, RI.nil _ _, B1.out⟩
end Go.Proofs.YtdnbiibijoggoaaGreatDoor
