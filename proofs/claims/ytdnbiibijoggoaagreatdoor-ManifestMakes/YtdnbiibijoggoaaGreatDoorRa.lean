/-
  Texts on Rst, Rsm, Rto, Rfn, in one.
-/
import Derived.Test.YtdnbiibijoggoaaGreatDoorIc
import Derived.Test.YtdnbiibijoggoaaGreatDoorIe
import Derived.Test.YtdnbiibijoggoaaGreatDoorPa
namespace Go.Proofs.YtdnbiibijoggoaaGreatDoor
open Go.RowKit
set_option maxRecDepth 100000

theorem builtE2 (p : ByteArray) (d : Bool) : Tryz.prog.built 54 [(0, .string p), (1, .bool d)] = some #[.string p, .bool d, .slice none 0 0] := by kernel_rfl
def hzc : Array Value := u8c z32
theorem u8c_size (l : List Int) : (u8c l).size = l.length := by simp [u8c]
theorem infoH (A : List Int) (h : A.length = 32) : (Tryz.prog.info? 40).map (·.size) = some (u8c A).size := by rw [u8c_size, h]; exact sizeH
theorem infoHl (A : List Int) (h : A.length = 32) : (Tryz.prog.info? 40).map (·.size) = some (A.map (Value.int .u8)).length := by rw [List.length_map, h]; exact sizeH
theorem u8c_ones (A : List Int) : (u8c A).all (·.oneCell') = true := all_oneCell_toArray (ints_one A)
theorem new_h (w : World) : (w.alloc (.cells #[.int .u8 0, .int .u8 0, .int .u8 0, .int .u8 0, .int .u8 0, .int .u8 0, .int .u8 0, .int .u8 0, .int .u8 0, .int .u8 0, .int .u8 0, .int .u8 0, .int .u8 0, .int .u8 0, .int .u8 0, .int .u8 0, .int .u8 0, .int .u8 0, .int .u8 0, .int .u8 0, .int .u8 0, .int .u8 0, .int .u8 0, .int .u8 0, .int .u8 0, .int .u8 0, .int .u8 0, .int .u8 0, .int .u8 0, .int .u8 0, .int .u8 0, .int .u8 0] 40)).heap[w.heap.size]? = some (.cells hzc 40 (0, 0)) := heap_alloc_new _ _
theorem alloc_h (w : World) (A : List Int) : (w.alloc (.cells #[.int .u8 0, .int .u8 0, .int .u8 0, .int .u8 0, .int .u8 0, .int .u8 0, .int .u8 0, .int .u8 0, .int .u8 0, .int .u8 0, .int .u8 0, .int .u8 0, .int .u8 0, .int .u8 0, .int .u8 0, .int .u8 0, .int .u8 0, .int .u8 0, .int .u8 0, .int .u8 0, .int .u8 0, .int .u8 0, .int .u8 0, .int .u8 0, .int .u8 0, .int .u8 0, .int .u8 0, .int .u8 0, .int .u8 0, .int .u8 0, .int .u8 0, .int .u8 0] 40)).setRow w.heap.size (u8c A) = w.alloc (.cells (u8c A) 40) := World.setRow_alloc_new _ _ _ _
theorem hzc_size : hzc.size = 32 := by unfold hzc; rw [u8c_size, z32_len]
theorem sl_u8c {w : World} {g : Nat} {A : List Int} (h : w.heap[g]? = some (.cells (u8c A) 40 (0, 0))) (hl : A.length = 32) (hb : ∀ k, 0 ≤ A.getD k 0 ∧ A.getD k 0 < 256) : Sl w (.slice (some ⟨g, 0, none⟩) 32 32) A := by
  refine sl_range (A := A) (fun j v hv => ?_) hb hl.symm (Nat.le_refl _) (by unfold maxLen; omega)
  rw [Nat.zero_add]
  unfold World.cell?
  rw [h]
  simpa [u8c] using hv
theorem own_none' (w : World) : (w.alloc (.cells #[] 5)).ownsRow w.heap.size 5 1 (.slice (some ⟨w.heap.size, 0, none⟩) 0 0) 0 [] :=
  World.ownsRow_made (base := w.heap.size) (e := 5) (size := 1) w #[] 0 (Nat.le_refl _) (by unfold maxLen; omega) rfl
set_option maxHeartbeats 4000000 in
theorem rstands_any (v : Value) (l : List It) (w : World) (h : IS w v l) (hl : l.length ≤ 100000) :
    Calls Tryz.prog 19 #[v] w fun e w' => ∃ v', e = .returned v' ∧ OE w' w.heap.size v' (l.map std) ∧ Below w.heap.size w w' := by
  obtain ⟨a, c, rfl, h2, h3, h4⟩ := h.shape
  have HS : Hid (IS w (.slice a l.length c) l) := h
  have HOK : Hid (∀ x ∈ l, x.ok) := h.ok
  have hn := hl
  obtain ⟨n, hn'⟩ : ∃ n, n = l.length := ⟨_, rfl⟩
  have HN : Hid (n = l.length) := hn'
  rw [← hn'] at HS h2 hn ⊢
  clear h hl h3 h4 hn'
  go_enter Tryz.func19, Tryz.ntmps19
  go_wp2
  go_loopw [3, 4] (fun s q wr => ∃ j : Nat, j ≤ n ∧ q = .int .i64 j ∧ OE wr w.heap.size s ((l.take j).map std) ∧ Below w.heap.size w wr) (fun _ q _ => n - (intOf q).toNat)
  case atStart => exact ⟨0, by omega, rfl, OE.nil _ _, Below.refl _ _⟩
  case round =>
    obtain ⟨j, hj, rfl, oe, bel⟩ := hrel
    have HB : Hid (Below w.heap.size w wr) := bel
    have HO : Hid (OE wr w.heap.size u3 ((l.take j).map std)) := oe
    obtain ⟨va, vc, rfl, hv, _, _⟩ := oe.es.shape
    have hlj : ((l.take j).map std).length = j := by rw [List.length_map, List.length_take, ← HN.out]; omega
    rw [hlj] at HO ⊢
    clear bel hv oe
    by_cases hlt : j < n
    · have lt2 : (j : Int) < (n : Int) := by omega
      have lt3 : (0 : Int) ≤ (j : Int) := by omega
      obtain ⟨b, off, rfl, hr⟩ := (HS.out.kept HB.out).at j (by rw [← HN.out]; exact hlt)
      have hx : (atI l j).ok := It.at l HOK.out j
      have HT : Hid ((l.take (j + 1)).map std = (l.take j).map std ++ [std (atI l j)]) := by unfold Hid; rw [takeI_at l j (by rw [← HN.out]; exact hlt)]; simp
      have HX : Hid (∀ k, 0 ≤ (std (atI l j)).z.getD k 0 ∧ (std (atI l j)).z.getD k 0 < 256) := std_bytes _ hx
      generalize atI l j = x at *
      have HSZ : Hid ((std x).z = if x.d = true then [] else x.s) := rfl
      have hyp : (std x).p = x.p := rfl
      have hyd : (std x).d = x.d := rfl
      obtain ⟨y, hy⟩ : ∃ y, y = std x := ⟨_, rfl⟩
      rw [← hy] at HT HX HSZ hyp hyd
      clear hy
      have FT : Hid (∀ W, From wr W → W.cell? ⟨b, off + j * 35, none⟩ = some (.string y.p) ∧ W.cell? ⟨b, off + j * 35 + 1, none⟩ = some (.bool y.d)) := fun W hb => by
        rw [hyp, hyd]
        exact ⟨(range_head (range_kept hr hb)).1, (range_head (range_kept hr hb)).2.1⟩
      have FS : Hid (∀ W, From wr W → W.rangeAt b (off + j * 35 + 3) (x.s.map (Value.int .u8))) := fun W hb => range_sum (range_kept hr hb)
      have FB : Hid (∀ W, From wr W → Below w.heap.size w W) := fun W hb => HB.out.trans (Below.mono hb HB.out.size)
      have HSL : Hid (x.s.length = 32) := hx.1
      have HSB : Hid (∀ k, 0 ≤ x.s.getD k 0 ∧ x.s.getD k 0 < 256) := hx.2.1
      have BE2 : Hid (Tryz.prog.built 54 [(0, .string y.p), (1, .bool y.d)] = some #[.string y.p, .bool y.d, .slice none 0 0]) := builtE2 _ _
      rw [← hyd] at HSZ
      generalize x.s = S at *
      clear hr hx hyp hyd
      generalize (l.take j).map std = L at *
      obtain ⟨U, RU, OU⟩ := HO.out
      have R1 : Hid (∀ W, From wr W → RE W w.heap.size (.slice va j vc) L U) := fun W hb => RU.below hb
      have Q1 : Hid (∀ W, From wr W → ∀ i, i < L.length → W.ownsRow w.heap.size 5 1 (U i) (atE L i).z.length ((atE L i).z.map (Value.int .u8)) ∧ ∀ k, 0 ≤ (atE L i).z.getD k 0 ∧ (atE L i).z.getD k 0 < 256) := fun W hb i hi => ⟨own_below (OU i hi).1 hb, (OU i hi).2⟩
      have HJ : Hid (L.length = j) := hlj
      clear RU OU HO hlj
      obtain ⟨yp, hyp⟩ : ∃ yp, yp = y.p := ⟨_, rfl⟩
      obtain ⟨yd, hyd⟩ : ∃ yd, yd = y.d := ⟨_, rfl⟩
      have YP : Hid (y.p = yp) := hyp.symm
      have YD : Hid (y.d = yd) := hyd.symm
      rw [← hyp] at FT BE2
      rw [← hyd] at FT BE2 HSZ
      clear hyp hyd
      go_wp2_with fail
      refine wp_region_held_drew (S := From wr) (by kernel_rfl) (Below.drew (Below.refl _ _)) (fun _ => ?_)
      refine wpAnyH_name (fun u0 hu0 => ?_)
      have bu0 : Below wr.heap.size wr u0 := by rw [hu0.out]; exact Below.drew (Below.refl _ _)
      refine wpAnyH_take (i := 0) (oi := { dst := some 13, op := Op.move (Operand.tmp 0), type := 25, pos := "ref.go:40", after := #[], guard := none }) (v := ?vr1) rfl (by kernel_rfl) (by kernel_rfl) (by kernel_rfl) (fun _ _ _ h => h) (Or.inl ⟨by rfl, ?yr1⟩) bu0 ?rr1
      case yr1 => (intro w hSw; go_simp; try with_reducible rfl)
      try simp only [Act.put, List.setIfInBounds_toArray, List.set_cons_zero, List.set_cons_succ]
      refine wpAnyH_take (i := 1) (oi := { dst := some 14, op := Op.move (Operand.tmp 4), type := 3, pos := "ref.go:40", after := #[], guard := none }) (v := ?vr2) rfl (by kernel_rfl) (by kernel_rfl) (by kernel_rfl) (fun _ _ _ h => h) (Or.inl ⟨by rfl, ?yr2⟩) bu0 ?rr2
      case yr2 => (intro w hSw; go_simp; try with_reducible rfl)
      try simp only [Act.put, List.setIfInBounds_toArray, List.set_cons_zero, List.set_cons_succ]
      refine wpAnyH_take (i := 2) (oi := { dst := some 15, op := Op.indexAddr 25 (Operand.tmp 13) (Operand.tmp 14), type := 0, pos := "ref.go:40", after := #[{ on := 0, ground := Ground.data }, { on := 1, ground := Ground.data }], guard := none }) (v := ?vr3) rfl (by kernel_rfl) (by kernel_rfl) (by kernel_rfl) (fun _ _ _ h => h) (Or.inl ⟨by rfl, ?yr3⟩) bu0 ?rr3
      case yr3 => (intro w hSw; go_simp; try with_reducible rfl)
      try simp only [Act.put, List.setIfInBounds_toArray, List.set_cons_zero, List.set_cons_succ]
      refine wpAnyH_take (i := 3) (oi := { dst := some 16, op := Op.fieldAddr 42 (Operand.tmp 15) 0, type := 0, pos := "ref.go:40", after := #[{ on := 2, ground := Ground.data }], guard := none }) (v := ?vr4) rfl (by kernel_rfl) (by kernel_rfl) (by kernel_rfl) (fun _ _ _ h => h) (Or.inl ⟨by rfl, ?yr4⟩) bu0 ?rr4
      case yr4 => (intro w hSw; go_simp; try with_reducible rfl)
      try simp only [Act.put, List.setIfInBounds_toArray, List.set_cons_zero, List.set_cons_succ]
      refine wpAnyH_take (i := 4) (oi := { dst := some 17, op := Op.load 9 (Operand.tmp 16), type := 9, pos := "ref.go:40", after := #[{ on := 3, ground := Ground.data }], guard := none }) (v := ?vr5) rfl (by kernel_rfl) (by kernel_rfl) (by kernel_rfl) (fun _ _ _ h => h) (Or.inl ⟨by rfl, ?yr5⟩) bu0 ?rr5
      case yr5 => (intro w hSw; obtain ⟨t0, t1⟩ := FT.out w hSw; go_simp; try with_reducible rfl)
      try simp only [Act.put, List.setIfInBounds_toArray, List.set_cons_zero, List.set_cons_succ]
      refine wpAnyH_take (i := 5) (oi := { dst := some 18, op := Op.move (Operand.tmp 0), type := 25, pos := "ref.go:40", after := #[], guard := none }) (v := ?vr6) rfl (by kernel_rfl) (by kernel_rfl) (by kernel_rfl) (fun _ _ _ h => h) (Or.inl ⟨by rfl, ?yr6⟩) bu0 ?rr6
      case yr6 => (intro w hSw; go_simp; try with_reducible rfl)
      try simp only [Act.put, List.setIfInBounds_toArray, List.set_cons_zero, List.set_cons_succ]
      refine wpAnyH_take (i := 6) (oi := { dst := some 19, op := Op.move (Operand.tmp 4), type := 3, pos := "ref.go:40", after := #[], guard := none }) (v := ?vr7) rfl (by kernel_rfl) (by kernel_rfl) (by kernel_rfl) (fun _ _ _ h => h) (Or.inl ⟨by rfl, ?yr7⟩) bu0 ?rr7
      case yr7 => (intro w hSw; go_simp; try with_reducible rfl)
      try simp only [Act.put, List.setIfInBounds_toArray, List.set_cons_zero, List.set_cons_succ]
      refine wpAnyH_take (i := 7) (oi := { dst := some 20, op := Op.indexAddr 25 (Operand.tmp 18) (Operand.tmp 19), type := 0, pos := "ref.go:40", after := #[{ on := 5, ground := Ground.data }, { on := 6, ground := Ground.data }], guard := none }) (v := ?vr8) rfl (by kernel_rfl) (by kernel_rfl) (by kernel_rfl) (fun _ _ _ h => h) (Or.inl ⟨by rfl, ?yr8⟩) bu0 ?rr8
      case yr8 => (intro w hSw; go_simp; try with_reducible rfl)
      try simp only [Act.put, List.setIfInBounds_toArray, List.set_cons_zero, List.set_cons_succ]
      refine wpAnyH_take (i := 8) (oi := { dst := some 21, op := Op.fieldAddr 42 (Operand.tmp 20) 1, type := 0, pos := "ref.go:40", after := #[{ on := 7, ground := Ground.data }], guard := none }) (v := ?vr9) rfl (by kernel_rfl) (by kernel_rfl) (by kernel_rfl) (fun _ _ _ h => h) (Or.inl ⟨by rfl, ?yr9⟩) bu0 ?rr9
      case yr9 => (intro w hSw; go_simp; try with_reducible rfl)
      try simp only [Act.put, List.setIfInBounds_toArray, List.set_cons_zero, List.set_cons_succ]
      refine wpAnyH_take (i := 9) (oi := { dst := some 22, op := Op.load 4 (Operand.tmp 21), type := 4, pos := "ref.go:40", after := #[{ on := 8, ground := Ground.data }], guard := none }) (v := ?vr10) rfl (by kernel_rfl) (by kernel_rfl) (by kernel_rfl) (fun _ _ _ h => h) (Or.inl ⟨by rfl, ?yr10⟩) bu0 ?rr10
      case yr10 => (intro w hSw; obtain ⟨t0, t1⟩ := FT.out w hSw; go_simp; try with_reducible rfl)
      try simp only [Act.put, List.setIfInBounds_toArray, List.set_cons_zero, List.set_cons_succ]
      refine wpAnyH_take (i := 10) (oi := { dst := some 23, op := Op.build 54 #[(0, Operand.tmp 17), (1, Operand.tmp 22)], type := 54, pos := "ref.go:40", after := #[{ on := 4, ground := Ground.data }, { on := 9, ground := Ground.data }], guard := none }) (v := .agg #[.string yp, .bool yd, .slice none 0 0]) rfl (by kernel_rfl) (by kernel_rfl) (by kernel_rfl) (fun _ _ _ h => h) (yields_built (by rfl) 54 _ rfl [(0, .string yp), (1, .bool yd)] rfl #[.string yp, .bool yd, .slice none 0 0] BE2.out) bu0 ?_
      try simp only [Act.put, List.setIfInBounds_toArray, List.set_cons_zero, List.set_cons_succ]
      refine wpAnyH_ready (rs := [11]) (by kernel_rfl) (by simp) ?_
      refine AllReadyH.cons (o := { dst := some 5, op := Op.alloc 54, type := 0, pos := "ref.go:40", after := #[], guard := none }) rfl (fun KK hKK => ?_) ?_
      · go_simp
        refine hKK.out _ _ (bu0.trans (Below.mono (al_below _ _) bu0.size)) (fun _ => ?_)
        clear hKK KK
        try simp only [Act.put, List.setIfInBounds_toArray, List.set_cons_zero, List.set_cons_succ]
        refine wpAnyH_name (fun u12 hu12 => ?_)
        have bu12 : Below wr.heap.size wr u12 := by rw [hu12.out]; exact (bu0.trans (Below.mono (al_below _ _) bu0.size))
        have Gu12 : u12.heap[u0.heap.size]? = some (.cells #[.string ⟨#[]⟩, .bool false, .slice none 0 0] 54 (0, 0)) := by rw [hu12.out]; exact heap_alloc_new _ _
        refine wpAnyH_ready (rs := [12]) (by kernel_rfl) (by simp) ?_
        refine AllReadyH.cons (o := { dst := none, op := Op.store 54 (Operand.tmp 5) (Operand.tmp 23), type := 0, pos := "ref.go:40", after := #[{ on := 11, ground := Ground.data }, { on := 10, ground := Ground.data }, { on := 0, ground := Ground.phase }, { on := 1, ground := Ground.phase }, { on := 2, ground := Ground.phase }, { on := 3, ground := Ground.phase }, { on := 4, ground := Ground.phase }, { on := 5, ground := Ground.phase }, { on := 6, ground := Ground.phase }, { on := 7, ground := Ground.phase }, { on := 8, ground := Ground.phase }, { on := 9, ground := Ground.phase }, { on := 10, ground := Ground.phase }, { on := 11, ground := Ground.phase }], guard := none }) rfl (fun KK hKK => ?_) ?_
        · refine wp_store_row 54 _ _ rfl u0.heap.size #[.string yp, .bool yd, .slice none 0 0] rfl rfl 54 #[.string ⟨#[]⟩, .bool false, .slice none 0 0] Gu12 (infoEn _ _ _) rfl (ones3 _ _ _ _ _) ?_
          refine hKK.out _ _ (below_setRow bu12 bu0.size _) (fun _ => ?_)
          clear hKK KK
          try simp only [Act.put]
          refine wpAnyH_name (fun u13 hu13 => ?_)
          have bu13 : Below wr.heap.size wr u13 := by rw [hu13.out]; exact (below_setRow bu12 bu0.size _)
          have Zu13 := setRow_heap _ _ _ (#[.string yp, .bool yd, .slice none 0 0]) _ _ Gu12
          rw [← hu13.out] at Zu13
          refine wpAnyH_done (by kernel_rfl) ?_ _
          have T1 : Hid (u13.heap[u0.heap.size]? = some (.cells #[.string yp, .bool yd, .slice none 0 0] 54 (0, 0))) := Zu13
          have LU : Hid (wr.heap.size ≤ u0.heap.size) := bu0.size
          have F1 : Hid (From wr u13) := bu13
          have LN : Hid (u0.heap.size < u13.heap.size) := (Array.getElem?_eq_some_iff.1 T1.out).1
          generalize u0.heap.size = gE at *
          obtain ⟨w1, hw1⟩ : ∃ w1, w1 = u13 := ⟨_, rfl⟩
          rw [← hw1] at T1 F1 LN ⊢
          clear hw1
          obtain ⟨p0, p1, p2, f0, f1, f2⟩ := trio T1.out
          cases yd
          · obtain rfl : y.z = S := by have := HSZ.out; simpa using this
            have RN := FS.out w1 F1.out
            have HRN : Hid (w1.rangeAt b (off + j * 35 + 3) (y.z.map (Value.int .u8))) := RN
            clear RN
            go_wp2_with (refine wpList_load_mid rfl 40 _ rfl b (off + j * 35 + 3) rfl (y.z.map (Value.int .u8)) _ HRN.out Tryz.underlying40 rfl (infoHl _ HSL.out) (Hid.out ?_))
            unfold Hid
            obtain ⟨W2, hW2⟩ : ∃ W2, W2 = w1.alloc (.cells (u8c y.z) 40) := ⟨_, rfl⟩
            have e2 := alloc_h w1 y.z
            rw [← hW2] at e2
            have HE2 : Hid ((w1.alloc (.cells #[.int .u8 0, .int .u8 0, .int .u8 0, .int .u8 0, .int .u8 0, .int .u8 0, .int .u8 0, .int .u8 0, .int .u8 0, .int .u8 0, .int .u8 0, .int .u8 0, .int .u8 0, .int .u8 0, .int .u8 0, .int .u8 0, .int .u8 0, .int .u8 0, .int .u8 0, .int .u8 0, .int .u8 0, .int .u8 0, .int .u8 0, .int .u8 0, .int .u8 0, .int .u8 0, .int .u8 0, .int .u8 0, .int .u8 0, .int .u8 0, .int .u8 0, .int .u8 0] 40)).setRow w1.heap.size (u8c y.z) = W2) := e2
            clear e2
            go_wp2_with (refine wpList_store_row rfl 40 _ _ rfl w1.heap.size (u8c y.z) rfl rfl 40 hzc (new_h w1) (infoH _ HSL.out) (by rw [hzc_size, u8c_size, HSL.out]) (u8c_ones _) (Hid.out ?_))
            unfold Hid
            rw [HE2.out]
            have b2 : Below w1.heap.size w1 W2 := by rw [hW2]; exact al_below _ _
            have s2 : Sl W2 (.slice (some ⟨w1.heap.size, 0, none⟩) 32 32) y.z := sl_u8c (by rw [hW2]; exact heap_alloc_new _ _) HSL.out HSB.out
            have O2 : Hid ((W2.alloc (.cells #[] 5)).ownsRow W2.heap.size 5 1 (.slice (some ⟨W2.heap.size, 0, none⟩) 0 0) 0 []) := own_none' W2
            have S2 : Hid (Sl (W2.alloc (.cells #[] 5)) (.slice (some ⟨w1.heap.size, 0, none⟩) 32 32) y.z) := s2.kept (al_below _ _)
            have L2 : Hid (W2.heap.size ≤ (W2.alloc (.cells #[] 5)).heap.size) := by unfold Hid; simp
            have F2 : Hid (From wr W2) := Below.trans F1.out (b2.mono (Below.size F1.out))
            have T2 : Hid (W2.heap[gE]? = some (.cells #[.string yp, .bool false, .slice none 0 0] 54 (0, 0))) := (b2.block _ LN.out).trans T1.out
            have LN2 : Hid (gE < W2.heap.size) := Nat.lt_of_lt_of_le LN.out b2.size
            clear b2 s2 HE2 hW2 HRN p0 p1 p2 f0 f1 f2 T1 F1 LN
            go_wp2_with (at_builtin; refine wpList_append_sl rfl _ _ rfl W2.heap.size _ 0 [] rfl O2.out _ y.z rfl S2.out (by rw [HSL.out]; omega) L2.out (Hid.out ?_))
            unfold Hid
            intro v3 w3 r3 g3
            have b3 : Below W2.heap.size W2 w3 := (al_below W2 (.cells #[] 5)).trans ((Below.refl W2.heap.size _).grown g3 L2.out (own_base O2.out))
            try rw [Nat.zero_add, List.nil_append] at r3
            obtain ⟨au, cu, rfl⟩ := own_shape r3
            obtain ⟨nz, hnz⟩ : ∃ nz, nz = y.z.length := ⟨_, rfl⟩
            have HNZ : Hid (nz = y.z.length) := hnz
            rw [← hnz] at r3 ⊢
            have O3 : Hid (w3.ownsRow W2.heap.size 5 1 (.slice au nz cu) nz (y.z.map (Value.int .u8))) := r3
            have T3 : Hid (w3.heap[gE]? = some (.cells #[.string yp, .bool false, .slice none 0 0] 54 (0, 0))) := (b3.block _ LN2.out).trans T2.out
            have F3 : Hid (From wr w3) := Below.trans F2.out (b3.mono (Below.size F2.out))
            clear r3 g3 b3 O2 S2 L2 F2 T2 hnz
            obtain ⟨p0, p1, p2, f0, f1, f2⟩ := trio T3.out
            obtain ⟨w4, hw4⟩ : ∃ w4, w4 = w3.setCell ⟨gE, 2, none⟩ (.slice au nz cu) := ⟨_, rfl⟩
            have T4 : Hid (w4.heap[gE]? = some (.cells #[.string yp, .bool false, .slice au nz cu] 54 (0, 0))) := by unfold Hid; rw [hw4, heap_setCell_same _ _ _ _ _ _ T3.out]; rfl
            have O4 : Hid (w4.ownsRow w.heap.size 5 1 (.slice au nz cu) nz (y.z.map (Value.int .u8))) := by
              unfold Hid
              rw [hw4]
              refine own_mono (ownsRow_setCell_other O3.out (fun e => ?_) _) (Nat.le_trans HB.out.size (Nat.le_trans LU.out (Nat.le_of_lt LN2.out)))
              have h5 : W2.heap.size ≤ gE := own_base O3.out _ e
              have := LN2.out
              omega
            have F4 : From wr w4 := by rw [hw4]; exact Below.setCell F3.out LU.out _
            have R4 : Hid (RE w4 w.heap.size (.slice va j vc) L U) := R1.out w4 F4
            have Q4 : Hid (∀ i, i < L.length → w4.ownsRow w.heap.size 5 1 (U i) (atE L i).z.length ((atE L i).z.map (Value.int .u8)) ∧ ∀ k, 0 ≤ (atE L i).z.getD k 0 ∧ (atE L i).z.getD k 0 < 256) := Q1.out w4 F4
            have B4 : Hid (Below w.heap.size w w4) := FB.out w4 F4
            have hw4' : w3.setCell ⟨gE, 2, none⟩ (.slice au nz cu) = w4 := hw4.symm
            have HW4 : Hid (w3.setCell ⟨gE, 2, none⟩ (.slice au nz cu) = w4) := hw4.symm
            clear F4 hw4 F3 T3 O3 hw4' 
            have HG4 : Hid (w3.heap.size = w4.heap.size) := by unfold Hid; rw [← HW4.out]; simp [World.setCell]
            go_wp2_with (at_builtin; refine Hid.out ?_)
            unfold Hid
            rw [HW4.out]
            clear HW4 p0 p1 p2 f0 f1 f2
            clear T4
            obtain ⟨W5, hW5⟩ : ∃ W5, W5 = w4.alloc (.cells #[.string yp, .bool false, .slice au nz cu] 54) := ⟨_, rfl⟩
            have b5 : Below w4.heap.size w4 W5 := by rw [hW5]; exact al_below _ _
            have R5 : Hid (RE W5 w.heap.size (.slice va j vc) L U) := R4.out.below b5
            have Q5 : Hid (∀ i, i < L.length → W5.ownsRow w.heap.size 5 1 (U i) (atE L i).z.length ((atE L i).z.map (Value.int .u8)) ∧ ∀ k, 0 ≤ (atE L i).z.getD k 0 ∧ (atE L i).z.getD k 0 < 256) := fun i hi => ⟨own_below (Q4.out i hi).1 b5, (Q4.out i hi).2⟩
            have O5 : Hid (W5.ownsRow w.heap.size 5 1 (.slice au nz cu) nz (y.z.map (Value.int .u8))) := own_below O4.out b5
            have B5 : Hid (Below w.heap.size w W5) := B4.out.trans (b5.mono B4.out.size)
            have K5 : Hid (∀ j, j < [y].length * 3 → W5.cell? ⟨w3.heap.size, 0 + j, none⟩ = some (cellE [y] (fun _ => .slice au nz cu) j)) := fun j hj => by
              have e := flat_get [y] (fun _ => Value.slice au nz cu) j
              rw [if_pos hj, ← flat_one] at e
              rw [hW5, Nat.zero_add, World.cell?_alloc_at _ _ _ _ HG4.out, ← e, YP.out, YD.out]
              simp
            clear b5 R4 Q4 O4 B4
            subst hW5
            go_wp2_with (at_builtin; refine wpList_append_en rfl _ _ rfl w.heap.size _ L U rfl R5.out w3.heap.size 1 [y] (fun _ => .slice au nz cu) 1 0 rfl rfl K5.out (fun _ _ => rfl) (by rw [HJ.out]; simp; omega) B5.out.size (Hid.out ?_))
            unfold Hid
            intro v6 w6 r6 g6
            have B6 : Hid (Below w.heap.size w w6) := B5.out.grown g6 B5.out.size (own_base R5.out)
            have O6 : Hid (OE w6 w.heap.size v6 ((l.take (j + 1)).map std)) := by
              unfold Hid
              rw [HT.out]
              have hz := HNZ.out
              subst hz
              exact OE.step Q5.out R5.out O5.out HX.out r6 g6
            clear r6 g6 R5 Q5 O5 K5
            go_wp2
            go_roundw
            case rel => exact ⟨j + 1, by omega, by go_num, O6.out, B6.out⟩
            case measure => simp [intOf]; omega
          · obtain hz0 : y.z = [] := by have := HSZ.out; simpa using this
            obtain ⟨w4, hw4⟩ : ∃ w4 : World, w4 = w1 := ⟨_, rfl⟩
            rw [← hw4] at T1 F1 p0 p1 p2 f0 f1 f2 ⊢
            clear hw4
            have T4 : Hid (w4.heap[gE]? = some (.cells #[.string yp, .bool true, .slice none 0 0] 54 (0, 0))) := T1.out
            have O4 : Hid (w4.ownsRow w.heap.size 5 1 (.slice none 0 0) y.z.length (y.z.map (Value.int .u8))) := by unfold Hid; rw [hz0]; exact World.ownsRow_nil _ _ _ _
            have R4 : Hid (RE w4 w.heap.size (.slice va j vc) L U) := R1.out w4 F1.out
            have Q4 : Hid (∀ i, i < L.length → w4.ownsRow w.heap.size 5 1 (U i) (atE L i).z.length ((atE L i).z.map (Value.int .u8)) ∧ ∀ k, 0 ≤ (atE L i).z.getD k 0 ∧ (atE L i).z.getD k 0 < 256) := Q1.out w4 F1.out
            have B4 : Hid (Below w.heap.size w w4) := FB.out w4 F1.out
            clear hz0 f0 f1 f2
            go_wp2_with (at_builtin; refine Hid.out ?_)
            unfold Hid
            clear p0 p1 p2
            clear T4
            obtain ⟨W5, hW5⟩ : ∃ W5, W5 = w4.alloc (.cells #[.string yp, .bool true, .slice none 0 0] 54) := ⟨_, rfl⟩
            have b5 : Below w4.heap.size w4 W5 := by rw [hW5]; exact al_below _ _
            have R5 : Hid (RE W5 w.heap.size (.slice va j vc) L U) := R4.out.below b5
            have Q5 : Hid (∀ i, i < L.length → W5.ownsRow w.heap.size 5 1 (U i) (atE L i).z.length ((atE L i).z.map (Value.int .u8)) ∧ ∀ k, 0 ≤ (atE L i).z.getD k 0 ∧ (atE L i).z.getD k 0 < 256) := fun i hi => ⟨own_below (Q4.out i hi).1 b5, (Q4.out i hi).2⟩
            have O5 : Hid (W5.ownsRow w.heap.size 5 1 (.slice none 0 0) y.z.length (y.z.map (Value.int .u8))) := own_below O4.out b5
            have B5 : Hid (Below w.heap.size w W5) := B4.out.trans (b5.mono B4.out.size)
            have K5 : Hid (∀ j, j < [y].length * 3 → W5.cell? ⟨w4.heap.size, 0 + j, none⟩ = some (cellE [y] (fun _ => .slice none 0 0) j)) := fun j hj => by
              have e := flat_get [y] (fun _ => Value.slice none 0 0) j
              rw [if_pos hj, ← flat_one] at e
              rw [hW5, Nat.zero_add, World.cell?_alloc_at _ _ _ _ rfl, ← e, YP.out, YD.out]
              simp
            clear b5 R4 Q4 O4 B4
            subst hW5
            go_wp2_with (at_builtin; refine wpList_append_en rfl _ _ rfl w.heap.size _ L U rfl R5.out w4.heap.size 1 [y] (fun _ => .slice none 0 0) 1 0 rfl rfl K5.out (fun _ _ => rfl) (by rw [HJ.out]; simp; omega) B5.out.size (Hid.out ?_))
            unfold Hid
            intro v6 w6 r6 g6
            have B6 : Hid (Below w.heap.size w w6) := B5.out.grown g6 B5.out.size (own_base R5.out)
            have O6 : Hid (OE w6 w.heap.size v6 ((l.take (j + 1)).map std)) := by
              unfold Hid
              rw [HT.out]
              skip
              skip
              exact OE.step Q5.out R5.out O5.out HX.out r6 g6
            clear r6 g6 R5 Q5 O5 K5
            go_wp2
            go_roundw
            case rel => exact ⟨j + 1, by omega, by go_num, O6.out, B6.out⟩
            case measure => simp [intOf]; omega
        exact AllReadyH.nil
      exact AllReadyH.nil
    · obtain rfl : j = n := by omega
      have HR : Hid (OE wr w.heap.size (.slice va j vc) (l.map std)) := by
        have h1 := HO.out
        have h2 : l.take j = l := by rw [HN.out, List.take_length]
        rw [h2] at h1
        exact h1
      go_wp2
      go_ret
      exact ⟨_, rfl, HR.out, HB.out⟩
end Go.Proofs.YtdnbiibijoggoaaGreatDoor

namespace Go.Proofs.YtdnbiibijoggoaaGreatDoor
open Go.RowKit
set_option maxRecDepth 100000

set_option maxHeartbeats 2000000 in
theorem rsameI_any (v u : Value) (l m : List It) (w : World) (h1 : IS w v l) (h2 : IS w u m) (hl : l.length ≤ 100000) (hm : m.length ≤ 100000) :
    Calls Tryz.prog 10 #[v, u] w fun e w' => e = .returned (.bool (saI l m)) ∧ Below w.heap.size w w' := by
  obtain ⟨a, c, rfl, _, _, _⟩ := h1.shape
  obtain ⟨a', c', rfl, _, _, _⟩ := h2.shape
  have HNE : Hid (l.length ≠ m.length → saI l m = false) := fun h => by unfold saI; simp [h]
  have HOK2 : Hid (l.length = m.length → (∀ k, k < l.length → sIt (atI l k) (atI m k) = true) → saI l m = true) := fun h k => by
    unfold saI
    rw [Bool.and_eq_true, decide_eq_true_eq, List.all_eq_true]
    exact ⟨h, fun i hi => k i (List.mem_range.1 hi)⟩
  have HHIT : Hid (∀ j, j < l.length → sIt (atI l j) (atI m j) = false → saI l m = false) := fun j hj h => by
    unfold saI
    rw [Bool.and_eq_false_iff]
    right
    rw [List.all_eq_false]
    exact ⟨j, List.mem_range.2 hj, by rw [h]; simp⟩
  have H1 : Hid (IS w (.slice a l.length c) l) := h1
  have H2 : Hid (IS w (.slice a' m.length c') m) := h2
  have K1 : Hid (∀ x ∈ l, x.ok) := h1.ok
  have K2 : Hid (∀ x ∈ m, x.ok) := h2.ok
  obtain ⟨n, hn'⟩ : ∃ n, n = l.length := ⟨_, rfl⟩
  obtain ⟨k, hk'⟩ : ∃ k, k = m.length := ⟨_, rfl⟩
  have HN : Hid (n = l.length) := hn'
  have HK : Hid (k = m.length) := hk'
  rw [← hn'] at H1 hl HNE HOK2 HHIT ⊢
  rw [← hk'] at H2 hm HNE HOK2 ⊢
  clear h1 h2 hn' hk'
  generalize saI l m = r at *
  by_cases hnk : n = k
  · subst hnk
    have t0 : ((n : Int) != (n : Int)) = false := by simp
    clear HNE
    go_enter Tryz.func10, Tryz.ntmps10
    go_wp2
    go_loopw [5] (fun q wr => ∃ j : Nat, j ≤ n ∧ q = .int .i64 j ∧ (∀ k, k < j → sIt (atI l k) (atI m k) = true) ∧ Below w.heap.size w wr) (fun q _ => n - (intOf q).toNat)
    case atStart => exact ⟨0, by omega, rfl, fun k hk => by omega, Below.refl _ _⟩
    case round =>
      obtain ⟨j, hj, rfl, ok, bel⟩ := hrel
      have HB : Hid (Below w.heap.size w wr) := bel
      have OK : Hid (∀ k, k < j → sIt (atI l k) (atI m k) = true) := ok
      clear ok
      by_cases hlt : j < n
      · have lt2 : (j : Int) < (n : Int) := by omega
        have lt3 : (0 : Int) ≤ (j : Int) := by omega
        obtain ⟨b, off, rfl, r1⟩ := (H1.out.kept HB.out).at j (by rw [← HN.out]; exact hlt)
        obtain ⟨b', off', rfl, r2⟩ := (H2.out.kept HB.out).at j (by rw [← HK.out]; exact hlt)
        have hx := It.at l K1.out j
        have hy := It.at m K2.out j
        have HF : Hid (sIt (atI l j) (atI m j) = false → r = false) := HHIT.out j hlt
        have NX : Hid (sIt (atI l j) (atI m j) = true → ∀ k, k < j + 1 → sIt (atI l k) (atI m k) = true) := fun h k hk => by
          rcases Nat.lt_or_ge k j with h' | h'
          · exact OK.out k h'
          · rw [show k = j by omega]; exact h
        clear OK HHIT
        generalize atI l j = x at *
        generalize atI m j = y at *
        have FX : Hid (∀ W, From wr W → W.rangeAt b (off + j * 35) x.cells) := fun W h => range_kept r1 h
        have FY : Hid (∀ W, From wr W → W.rangeAt b' (off' + j * 35) y.cells) := fun W h => range_kept r2 h
        have FB : Hid (∀ W, From wr W → Below w.heap.size w W) := fun W h => bel.trans (Below.mono h bel.size)
        have ZX : Hid ((Tryz.prog.info? 42).map (·.size) = some x.cells.length) := sizeI.trans (by rw [It.len hx])
        have ZY : Hid ((Tryz.prog.info? 42).map (·.size) = some y.cells.length) := sizeI.trans (by rw [It.len hy])
        have E1 : Hid (∀ W, (binOp .neq 42 (.agg x.cells.toArray) (.agg y.cells.toArray)).run Tryz.prog W = .ok (.bool (!sIt x y)) W) := fun W => neq_run x y hx hy W
        have E2 : Hid (∀ (a b : Operand) W, (eqGuard .neq 42 a b (.agg x.cells.toArray) (.agg y.cells.toArray)).run Tryz.prog W = .ok () W) := fun a b W => eqg_run .neq x y a b W
        clear bel r1 r2 hx hy
        generalize x.cells = cs at *
        generalize y.cells = ds at *
        generalize sIt x y = sb at *
        cases sb with
        | true =>
          have NX2 : Hid (∀ k, k < j + 1 → sIt (atI l k) (atI m k) = true) := NX.out rfl
          clear NX HF
          go_wp2_with fail
          refine wp_region_held_drew (S := From wr) (by kernel_rfl) ((Below.refl _ _).drew) (fun _ => ?_)
          refine wpAnyH_on ((Below.refl _ _).drew) (fun u0 hu0 bu0 => ?_)
          replace FX := on FX bu0
          replace FY := on FY bu0
          replace FB := on FB bu0
          refine wpAnyH_take (i := 0) (oi := { dst := some 17, op := Op.move (Operand.tmp 0), type := 25, pos := "ref.go:142", after := #[], guard := none }) (v := ?vr1) rfl (by kernel_rfl) (by kernel_rfl) (by kernel_rfl) (fun _ _ _ h => h) (Or.inl ⟨by rfl, ?yr1⟩) (Below.refl _ _) ?rr1
          case yr1 => (intro w hSw; go_simp; try with_reducible rfl)
          try simp only [Act.put, List.setIfInBounds_toArray, List.set_cons_zero, List.set_cons_succ]
          refine wpAnyH_take (i := 1) (oi := { dst := some 18, op := Op.move (Operand.tmp 5), type := 3, pos := "ref.go:142", after := #[], guard := none }) (v := ?vr2) rfl (by kernel_rfl) (by kernel_rfl) (by kernel_rfl) (fun _ _ _ h => h) (Or.inl ⟨by rfl, ?yr2⟩) (Below.refl _ _) ?rr2
          case yr2 => (intro w hSw; go_simp; try with_reducible rfl)
          try simp only [Act.put, List.setIfInBounds_toArray, List.set_cons_zero, List.set_cons_succ]
          refine wpAnyH_take (i := 2) (oi := { dst := some 19, op := Op.indexAddr 25 (Operand.tmp 17) (Operand.tmp 18), type := 0, pos := "ref.go:142", after := #[{ on := 0, ground := Ground.data }, { on := 1, ground := Ground.data }], guard := none }) (v := ?vr3) rfl (by kernel_rfl) (by kernel_rfl) (by kernel_rfl) (fun _ _ _ h => h) (Or.inl ⟨by rfl, ?yr3⟩) (Below.refl _ _) ?rr3
          case yr3 => (intro w hSw; go_simp; try with_reducible rfl)
          try simp only [Act.put, List.setIfInBounds_toArray, List.set_cons_zero, List.set_cons_succ]
          refine wpAnyH_take (i := 3) (oi := { dst := some 20, op := Op.load 42 (Operand.tmp 19), type := 42, pos := "ref.go:142", after := #[{ on := 2, ground := Ground.data }], guard := none }) (v := .agg cs.toArray) rfl (by kernel_rfl) (by kernel_rfl) (by kernel_rfl) (fun _ _ _ h => h) (yieldsIf_load_mid (by rfl) 42 _ rfl b (off + j * 35) rfl cs _ (fun w hw => FX.out w hw) Tryz.underlying42 rfl ZX.out) (Below.refl _ _) ?_
          try simp only [Act.put, List.setIfInBounds_toArray, List.set_cons_zero, List.set_cons_succ]
          refine wpAnyH_take (i := 4) (oi := { dst := some 21, op := Op.move (Operand.tmp 1), type := 25, pos := "ref.go:142", after := #[], guard := none }) (v := ?vr5) rfl (by kernel_rfl) (by kernel_rfl) (by kernel_rfl) (fun _ _ _ h => h) (Or.inl ⟨by rfl, ?yr5⟩) (Below.refl _ _) ?rr5
          case yr5 => (intro w hSw; go_simp; try with_reducible rfl)
          try simp only [Act.put, List.setIfInBounds_toArray, List.set_cons_zero, List.set_cons_succ]
          refine wpAnyH_take (i := 5) (oi := { dst := some 22, op := Op.move (Operand.tmp 5), type := 3, pos := "ref.go:142", after := #[], guard := none }) (v := ?vr6) rfl (by kernel_rfl) (by kernel_rfl) (by kernel_rfl) (fun _ _ _ h => h) (Or.inl ⟨by rfl, ?yr6⟩) (Below.refl _ _) ?rr6
          case yr6 => (intro w hSw; go_simp; try with_reducible rfl)
          try simp only [Act.put, List.setIfInBounds_toArray, List.set_cons_zero, List.set_cons_succ]
          refine wpAnyH_take (i := 6) (oi := { dst := some 23, op := Op.indexAddr 25 (Operand.tmp 21) (Operand.tmp 22), type := 0, pos := "ref.go:142", after := #[{ on := 4, ground := Ground.data }, { on := 5, ground := Ground.data }], guard := none }) (v := ?vr7) rfl (by kernel_rfl) (by kernel_rfl) (by kernel_rfl) (fun _ _ _ h => h) (Or.inl ⟨by rfl, ?yr7⟩) (Below.refl _ _) ?rr7
          case yr7 => (intro w hSw; go_simp; try with_reducible rfl)
          try simp only [Act.put, List.setIfInBounds_toArray, List.set_cons_zero, List.set_cons_succ]
          refine wpAnyH_take (i := 7) (oi := { dst := some 24, op := Op.load 42 (Operand.tmp 23), type := 42, pos := "ref.go:142", after := #[{ on := 6, ground := Ground.data }], guard := none }) (v := .agg ds.toArray) rfl (by kernel_rfl) (by kernel_rfl) (by kernel_rfl) (fun _ _ _ h => h) (yieldsIf_load_mid (by rfl) 42 _ rfl b' (off' + j * 35) rfl ds _ (fun w hw => FY.out w hw) Tryz.underlying42 rfl ZY.out) (Below.refl _ _) ?_
          try simp only [Act.put, List.setIfInBounds_toArray, List.set_cons_zero, List.set_cons_succ]
          refine wpAnyH_take (i := 8) (oi := { dst := some 25, op := Op.binOp BinOp.neq 42 (Operand.tmp 20) (Operand.tmp 24) 42, type := 4, pos := "ref.go:142", after := #[{ on := 3, ground := Ground.data }, { on := 7, ground := Ground.data }], guard := none }) (v := .bool (!true)) rfl (by kernel_rfl) (by kernel_rfl) (by kernel_rfl) (fun _ _ _ h => h) (yields_eqi (by rfl) .neq _ _ _ rfl (.agg cs.toArray) (.agg ds.toArray) (!true) rfl rfl (fun w => E2.out _ _ w) (fun w => E1.out w)) (Below.refl _ _) ?_
          try simp only [Act.put, List.setIfInBounds_toArray, List.set_cons_zero, List.set_cons_succ]
          refine wpAnyH_done (by kernel_rfl) ?_ _
          have BZ : Hid (Below w.heap.size w u0) := FB.out _ (Below.refl _ _)
          clear FX FY FB E1 E2 ZX ZY
          go_wp2
          go_roundw
          case rel => exact ⟨j + 1, by omega, by go_num, NX2.out, BZ.out⟩
          case measure => simp [intOf]; omega
        | false =>
          have HF2 : Hid (r = false) := HF.out rfl
          clear NX HF
          go_wp2_with fail
          refine wp_region_held_drew (S := From wr) (by kernel_rfl) ((Below.refl _ _).drew) (fun _ => ?_)
          refine wpAnyH_on ((Below.refl _ _).drew) (fun u0 hu0 bu0 => ?_)
          replace FX := on FX bu0
          replace FY := on FY bu0
          replace FB := on FB bu0
          refine wpAnyH_take (i := 0) (oi := { dst := some 17, op := Op.move (Operand.tmp 0), type := 25, pos := "ref.go:142", after := #[], guard := none }) (v := ?vs1) rfl (by kernel_rfl) (by kernel_rfl) (by kernel_rfl) (fun _ _ _ h => h) (Or.inl ⟨by rfl, ?ys1⟩) (Below.refl _ _) ?rs1
          case ys1 => (intro w hSw; go_simp; try with_reducible rfl)
          try simp only [Act.put, List.setIfInBounds_toArray, List.set_cons_zero, List.set_cons_succ]
          refine wpAnyH_take (i := 1) (oi := { dst := some 18, op := Op.move (Operand.tmp 5), type := 3, pos := "ref.go:142", after := #[], guard := none }) (v := ?vs2) rfl (by kernel_rfl) (by kernel_rfl) (by kernel_rfl) (fun _ _ _ h => h) (Or.inl ⟨by rfl, ?ys2⟩) (Below.refl _ _) ?rs2
          case ys2 => (intro w hSw; go_simp; try with_reducible rfl)
          try simp only [Act.put, List.setIfInBounds_toArray, List.set_cons_zero, List.set_cons_succ]
          refine wpAnyH_take (i := 2) (oi := { dst := some 19, op := Op.indexAddr 25 (Operand.tmp 17) (Operand.tmp 18), type := 0, pos := "ref.go:142", after := #[{ on := 0, ground := Ground.data }, { on := 1, ground := Ground.data }], guard := none }) (v := ?vs3) rfl (by kernel_rfl) (by kernel_rfl) (by kernel_rfl) (fun _ _ _ h => h) (Or.inl ⟨by rfl, ?ys3⟩) (Below.refl _ _) ?rs3
          case ys3 => (intro w hSw; go_simp; try with_reducible rfl)
          try simp only [Act.put, List.setIfInBounds_toArray, List.set_cons_zero, List.set_cons_succ]
          refine wpAnyH_take (i := 3) (oi := { dst := some 20, op := Op.load 42 (Operand.tmp 19), type := 42, pos := "ref.go:142", after := #[{ on := 2, ground := Ground.data }], guard := none }) (v := .agg cs.toArray) rfl (by kernel_rfl) (by kernel_rfl) (by kernel_rfl) (fun _ _ _ h => h) (yieldsIf_load_mid (by rfl) 42 _ rfl b (off + j * 35) rfl cs _ (fun w hw => FX.out w hw) Tryz.underlying42 rfl ZX.out) (Below.refl _ _) ?_
          try simp only [Act.put, List.setIfInBounds_toArray, List.set_cons_zero, List.set_cons_succ]
          refine wpAnyH_take (i := 4) (oi := { dst := some 21, op := Op.move (Operand.tmp 1), type := 25, pos := "ref.go:142", after := #[], guard := none }) (v := ?vs5) rfl (by kernel_rfl) (by kernel_rfl) (by kernel_rfl) (fun _ _ _ h => h) (Or.inl ⟨by rfl, ?ys5⟩) (Below.refl _ _) ?rs5
          case ys5 => (intro w hSw; go_simp; try with_reducible rfl)
          try simp only [Act.put, List.setIfInBounds_toArray, List.set_cons_zero, List.set_cons_succ]
          refine wpAnyH_take (i := 5) (oi := { dst := some 22, op := Op.move (Operand.tmp 5), type := 3, pos := "ref.go:142", after := #[], guard := none }) (v := ?vs6) rfl (by kernel_rfl) (by kernel_rfl) (by kernel_rfl) (fun _ _ _ h => h) (Or.inl ⟨by rfl, ?ys6⟩) (Below.refl _ _) ?rs6
          case ys6 => (intro w hSw; go_simp; try with_reducible rfl)
          try simp only [Act.put, List.setIfInBounds_toArray, List.set_cons_zero, List.set_cons_succ]
          refine wpAnyH_take (i := 6) (oi := { dst := some 23, op := Op.indexAddr 25 (Operand.tmp 21) (Operand.tmp 22), type := 0, pos := "ref.go:142", after := #[{ on := 4, ground := Ground.data }, { on := 5, ground := Ground.data }], guard := none }) (v := ?vs7) rfl (by kernel_rfl) (by kernel_rfl) (by kernel_rfl) (fun _ _ _ h => h) (Or.inl ⟨by rfl, ?ys7⟩) (Below.refl _ _) ?rs7
          case ys7 => (intro w hSw; go_simp; try with_reducible rfl)
          try simp only [Act.put, List.setIfInBounds_toArray, List.set_cons_zero, List.set_cons_succ]
          refine wpAnyH_take (i := 7) (oi := { dst := some 24, op := Op.load 42 (Operand.tmp 23), type := 42, pos := "ref.go:142", after := #[{ on := 6, ground := Ground.data }], guard := none }) (v := .agg ds.toArray) rfl (by kernel_rfl) (by kernel_rfl) (by kernel_rfl) (fun _ _ _ h => h) (yieldsIf_load_mid (by rfl) 42 _ rfl b' (off' + j * 35) rfl ds _ (fun w hw => FY.out w hw) Tryz.underlying42 rfl ZY.out) (Below.refl _ _) ?_
          try simp only [Act.put, List.setIfInBounds_toArray, List.set_cons_zero, List.set_cons_succ]
          refine wpAnyH_take (i := 8) (oi := { dst := some 25, op := Op.binOp BinOp.neq 42 (Operand.tmp 20) (Operand.tmp 24) 42, type := 4, pos := "ref.go:142", after := #[{ on := 3, ground := Ground.data }, { on := 7, ground := Ground.data }], guard := none }) (v := .bool (!false)) rfl (by kernel_rfl) (by kernel_rfl) (by kernel_rfl) (fun _ _ _ h => h) (yields_eqi (by rfl) .neq _ _ _ rfl (.agg cs.toArray) (.agg ds.toArray) (!false) rfl rfl (fun w => E2.out _ _ w) (fun w => E1.out w)) (Below.refl _ _) ?_
          try simp only [Act.put, List.setIfInBounds_toArray, List.set_cons_zero, List.set_cons_succ]
          refine wpAnyH_done (by kernel_rfl) ?_ _
          have BZ : Hid (Below w.heap.size w u0) := FB.out _ (Below.refl _ _)
          clear FX FY FB E1 E2 ZX ZY
          go_wp2
          go_ret
          exact ⟨by rw [HF2.out]; rfl, BZ.out⟩
      · obtain rfl : j = n := by omega
        have HR : Hid (r = true) := HOK2.out (by trivial) OK.out
        clear HOK2 HHIT OK
        go_wp2
        go_ret
        exact ⟨by rw [HR.out]; rfl, HB.out⟩
  · have HR : Hid (r = false) := HNE.out hnk
    have t0 : ((n : Int) != (k : Int)) = true := by simp; omega
    clear HNE HOK2 HHIT
    go_enter Tryz.func10, Tryz.ntmps10
    go_wp2
    go_ret
    exact ⟨by rw [HR.out]; rfl, Below.refl _ _⟩
end Go.Proofs.YtdnbiibijoggoaaGreatDoor

namespace Go.Proofs.YtdnbiibijoggoaaGreatDoor
open Go.RowKit
set_option maxRecDepth 100000

set_option maxHeartbeats 2000000 in
theorem rtotal_any (v : Value) (l : List It) (w : World) (h : IS w v l) (hl : l.length ≤ 100000) :
    Calls Tryz.prog 21 #[v] w fun e w' => e = .returned (.int .i64 (tot 0 l)) ∧ Below w.heap.size w w' := by
  obtain ⟨a, c, rfl, h2, h3, h4⟩ := h.shape
  have HS : Hid (IS w (.slice a l.length c) l) := h
  have HOK : Hid (∀ x ∈ l, x.ok) := h.ok
  have hn := hl
  obtain ⟨n, hn'⟩ : ∃ n, n = l.length := ⟨_, rfl⟩
  have HN : Hid (n = l.length) := hn'
  rw [← hn'] at HS h2 hn ⊢
  clear h hl h3 h4 hn'
  go_enter Tryz.func21, Tryz.ntmps21
  go_wp2
  go_loopw [3, 4] (fun s q wr => ∃ j : Nat, j ≤ n ∧ q = .int .i64 j ∧ s = .int .i64 (tot 0 (l.take j)) ∧ Below w.heap.size w wr) (fun _ q _ => n - (intOf q).toNat)
  case atStart => exact ⟨0, by omega, rfl, rfl, Below.refl _ _⟩
  case round =>
    obtain ⟨j, hj, rfl, rfl, bel⟩ := hrel
    have HB : Hid (Below w.heap.size w wr) := bel
    clear bel
    by_cases hlt : j < n
    · have lt2 : (j : Int) < (n : Int) := by omega
      obtain ⟨b, off, rfl, hr⟩ := (HS.out.kept HB.out).at j (by rw [← HN.out]; exact hlt)
      have hx : (atI l j).ok := It.at l HOK.out j
      have HT : Hid (tot 0 (l.take (j + 1)) = (if (atI l j).d = true then tot 0 (l.take j) else wrap64 (tot 0 (l.take j) + (atI l j).n))) := tot_step l j (by rw [← HN.out]; exact hlt) 0
      generalize atI l j = x at *
      generalize tot 0 (l.take j) = T at *
      obtain ⟨k0, k1, k2⟩ := range_head hr
      have B1 : Hid (Below w.heap.size w wr) := HB.out
      clear hr hx k0
      generalize x.n = xn at *
      generalize x.d = xd at *
      cases xd
      · have HT2 : Hid (tot 0 (l.take (j + 1)) = wrap64 (T + xn)) := by unfold Hid; have := HT.out; simpa using this
        clear HT
        go_wp2
        go_roundw
        case rel => exact ⟨j + 1, by omega, by go_num, by rw [HT2.out], B1.out⟩
        case measure => simp [intOf]; omega
      · have HT2 : Hid (tot 0 (l.take (j + 1)) = T) := by unfold Hid; have := HT.out; simpa using this
        clear HT
        go_wp2
        go_roundw
        case rel => exact ⟨j + 1, by omega, by go_num, by rw [HT2.out], B1.out⟩
        case measure => simp [intOf]; omega
    · obtain rfl : j = n := by omega
      have HR : Hid (tot 0 (l.take j) = tot 0 l) := by unfold Hid; rw [HN.out, List.take_length]
      go_wp2
      go_ret
      exact ⟨by rw [HR.out]; rfl, HB.out⟩
end Go.Proofs.YtdnbiibijoggoaaGreatDoor

namespace Go.Proofs.YtdnbiibijoggoaaGreatDoor
open Go.RowKit
set_option maxRecDepth 100000

theorem retR {tmps : Array Value} {w : World} {g : Nat} {x : It} {b : Bool} (hx : x.ok) (hp : tmps.getD 4 undef = .pointer (some ⟨g, 0, none⟩)) (he : tmps.getD 5 undef = .bool b)
    (hg : w.heap[g]? = some (.cells x.cells.toArray 42 (0, 0))) : (results Tryz.f15 tmps).run Tryz.prog w = .ok (.tuple #[x.val, .bool b]) w := by
  have hld : (loadVar 42 ⟨g, 0, none⟩).run Tryz.prog w = .ok x.val w := run_loadVar_row w g 42 42 x.cells.toArray (0, 0) _ hg Tryz.underlying42 rfl (It.info x hx)
  rw [results_cell_tmp rfl, hp, he]
  simp [asAddr, Result.andThen, hld]
set_option maxHeartbeats 2000000 in
theorem rfind_any (v : Value) (l : List It) (q : ByteArray) (w : World) (h : IS w v l) (hl : l.length ≤ 100000) :
    Calls Tryz.prog 15 #[v, .string q] w fun e w' => e = .returned (.tuple #[((fin l q).getD it0).val, .bool (fin l q).isSome]) ∧ Below w.heap.size w w' := by
  obtain ⟨W0, hW0⟩ : ∃ W0, W0 = w.alloc (.cells izc 42) := ⟨_, rfl⟩
  have b0 : Below w.heap.size w W0 := by rw [hW0]; exact al_below _ _
  have s0 : W0.heap.size = w.heap.size + 1 := by rw [hW0]; simp
  have g0 : W0.heap[w.heap.size]? = some (.cells izc 42 (0, 0)) := by rw [hW0]; exact heap_alloc_new _ _
  have hwz : w.alloc (.cells #[.string ⟨#[]⟩, .bool false, .int .i64 0, .int .u8 0, .int .u8 0, .int .u8 0, .int .u8 0, .int .u8 0, .int .u8 0, .int .u8 0, .int .u8 0, .int .u8 0, .int .u8 0, .int .u8 0, .int .u8 0, .int .u8 0, .int .u8 0, .int .u8 0, .int .u8 0, .int .u8 0, .int .u8 0, .int .u8 0, .int .u8 0, .int .u8 0, .int .u8 0, .int .u8 0, .int .u8 0, .int .u8 0, .int .u8 0, .int .u8 0, .int .u8 0, .int .u8 0, .int .u8 0, .int .u8 0, .int .u8 0] 42) = W0 := hW0.symm
  obtain ⟨a, c, rfl, h2, h3, h4⟩ := h.shape
  have HS : Hid (IS W0 (.slice a l.length c) l) := h.kept b0
  have HOK : Hid (∀ x ∈ l, x.ok) := h.ok
  have G0 : Hid (∀ W, Below W0.heap.size W0 W → W.heap[w.heap.size]? = some (.cells izc 42 (0, 0)) ∧ Below w.heap.size w W) := fun W hb => ⟨(hb.block _ (by omega)).trans g0, b0.trans (hb.mono b0.size)⟩
  have hn := hl
  obtain ⟨n, hn'⟩ : ∃ n, n = l.length := ⟨_, rfl⟩
  have HN : Hid (n = l.length) := hn'
  rw [← hn'] at HS h2 hn ⊢
  have HH : Hid (∀ j, j < l.length → (∀ k, k < j → ¬ (atI l k).p = q) → (atI l j).p = q → fin l q = some (atI l j)) := fun j hj h1 h2 => fin_hit l q j hj h1 h2
  have HE : Hid ((∀ k, k < l.length → ¬ (atI l k).p = q) → fin l q = none) := fin_none l q
  have BZ : Hid (Tryz.prog.built 42 [] = some it0.cells.toArray) := builtZ
  clear h hl h3 h4 hn' hW0 b0 s0 g0
  generalize fin l q = R at *
  go_enter Tryz.func15, Tryz.ntmps15
  go_wp2_with fail
  try rw [hwz]
  clear hwz
  go_loopw [6] (fun z wr => ∃ j : Nat, j ≤ n ∧ z = .int .i64 j ∧ (∀ k, k < j → ¬ (atI l k).p = q) ∧ Below W0.heap.size W0 wr) (fun z _ => n - (intOf z).toNat)
  case atStart => exact ⟨0, by omega, rfl, fun k hk => by omega, Below.refl _ _⟩
  case round =>
    obtain ⟨j, hj, rfl, ok, bel⟩ := hrel
    have HB : Hid (Below W0.heap.size W0 wr) := bel
    have OK : Hid (∀ k, k < j → ¬ (atI l k).p = q) := ok
    clear bel ok
    by_cases hlt : j < n
    · have lt2 : (j : Int) < (n : Int) := by omega
      obtain ⟨b, off, rfl, hr⟩ := (HS.out.kept HB.out).at j (by rw [← HN.out]; exact hlt)
      have hx : (atI l j).ok := It.at l HOK.out j
      have HF : Hid ((atI l j).p = q → R = some (atI l j)) := HH.out j (by rw [← HN.out]; exact hlt) OK.out
      have NX : Hid (¬ (atI l j).p = q → ∀ k, k < j + 1 → ¬ (atI l k).p = q) := fun h k hk => by
        rcases Nat.lt_or_ge k j with h' | h'
        · exact OK.out k h'
        · rw [show k = j by omega]; exact h
      clear OK HH
      generalize atI l j = x at *
      have RN : Hid (wr.rangeAt b (off + j * 35) x.cells) := hr
      have HZ : Hid ((Tryz.prog.info? 42).map (·.size) = some x.cells.length) := sizeI.trans (by rw [It.len hx])
      have HI : Hid ((Tryz.prog.info? 42).map (·.size) = some x.cells.toArray.size) := It.info x hx
      have HE2 : Hid (izc.size = x.cells.toArray.size) := izc_size.trans (It.size x hx).symm
      have k0 := (range_head hr).1
      have B1 : Hid (Below W0.heap.size W0 wr) := HB.out
      have H1 : Hid (∀ v ∈ x.cells, v.oneCell' = true) := It.one x
      have HX : Hid x.ok := hx
      clear hr hx
      obtain ⟨cs, hcs⟩ : ∃ cs, cs = x.cells := ⟨_, rfl⟩
      have HCS : Hid (cs = x.cells) := hcs
      rw [← hcs] at RN HZ HI HE2 H1
      clear hcs
      by_cases hq : x.p = q
      · have t0 : (x.p.toList == q.toList) = true := by rw [tl_beq]; simp [hq]
        have HR : Hid (R = some x) := HF.out hq
        have GG : Hid (wr.heap[w.heap.size]? = some (.cells izc 42 (0, 0)) ∧ Below w.heap.size w wr) := G0.out wr B1.out
        clear HF NX hq G0
        generalize x.p = xp at *
        go_wp2_with (first
          | refine wpList_load_mid rfl 42 _ rfl b (off + j * 35) rfl cs _ RN.out Tryz.underlying42 rfl HZ.out ?_
          | refine wpList_store_row rfl 42 _ _ rfl w.heap.size cs.toArray rfl rfl 42 izc GG.out.1 HI.out HE2.out (all_oneCell_toArray H1.out) ?_)
        have hc := HCS.out
        subst hc
        refine bodyPost_ret (v := .tuple #[x.val, .bool true]) (retR HX.out rfl rfl (setRow_heap _ _ _ _ _ _ GG.out.1)) rfl ⟨by rw [HR.out]; rfl, below_setRow GG.out.2 (Nat.le_refl _) _⟩
      · have t0 : (x.p.toList == q.toList) = false := by rw [tl_beq]; simp [hq]
        have NX2 : Hid (∀ k, k < j + 1 → ¬ (atI l k).p = q) := NX.out hq
        clear HF NX hq G0
        generalize x.p = xp at *
        go_wp2
        go_roundw
        case rel => exact ⟨j + 1, by omega, by go_num, NX2.out, B1.out⟩
        case measure => simp [intOf]; omega
    · obtain rfl : j = n := by omega
      have HR : Hid (R = none) := HE.out (by rw [← HN.out]; exact OK.out)
      have GG : Hid (wr.heap[w.heap.size]? = some (.cells izc 42 (0, 0)) ∧ Below w.heap.size w wr) := G0.out wr HB.out
      clear HE HH OK G0
      go_wp2_with (first
          | refine wpList_built rfl 42 [] rfl [] rfl it0.cells.toArray BZ.out ?_
          | refine wpList_store_row rfl 42 _ _ rfl w.heap.size it0.cells.toArray rfl rfl 42 izc GG.out.1 (It.info _ it0_ok) rfl (It.ones _) ?_)
      refine bodyPost_ret (v := .tuple #[it0.val, .bool false]) (retR it0_ok rfl rfl (setRow_heap _ _ _ _ _ _ GG.out.1)) rfl ⟨by rw [HR.out]; rfl, below_setRow GG.out.2 (Nat.le_refl _) _⟩
end Go.Proofs.YtdnbiibijoggoaaGreatDoor
