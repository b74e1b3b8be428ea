/-
  Texts on Rq, Rp, Rt, in one.
-/
import Derived.Test.YtjiefndjgkhcjaaDoorPka
import Derived.Test.YtjiefndjgkhcjaaDoorFg
import Derived.Test.YtjiefndjgkhcjaaDoorFiRLay
namespace Go.Proofs.YtjiefndjgkhcjaaDoor
open Go.RowKit
set_option maxRecDepth 100000

/-- The sums that bytes begin with. -/
def cg (xs : List Int) : Sg := ⟨xs.getD 0 0 * 16777216 + xs.getD 1 0 * 65536 + xs.getD 2 0 * 256 + xs.getD 3 0, (xs.take 36).drop 4⟩
/-- So many of them. -/
def gs (j : Nat) (xs : List Int) : List Sg := (List.range j).map fun i => cg (xs.drop (36 * i))
theorem gs_len (j : Nat) (xs : List Int) : (gs j xs).length = j := by simp [gs]
theorem gs_succ (j : Nat) (xs : List Int) : gs (j + 1) xs = gs j xs ++ [cg (xs.drop (36 * j))] := by simp [gs, List.range_succ]
theorem cg_ok (xs : List Int) (hb : Bt xs) (hl : 36 ≤ xs.length) : (cg xs).ok := by
  have h0 := hb 0
  have h1 := hb 1
  have h2 := hb 2
  have h3 := hb 3
  refine ⟨?_, bytes_drop _ _ (bytes_take _ _ hb), ?_, ?_⟩
  · show ((xs.take 36).drop 4).length = 32
    rw [List.length_drop, List.length_take]; omega
  · show 0 ≤ xs.getD 0 0 * 16777216 + xs.getD 1 0 * 65536 + xs.getD 2 0 * 256 + xs.getD 3 0
    omega
  · show xs.getD 0 0 * 16777216 + xs.getD 1 0 * 65536 + xs.getD 2 0 * 256 + xs.getD 3 0 < 4294967296
    omega
theorem cg_lay (x : Sg) (h : x.ok) (ys : List Int) : cg (layG x ++ ys) = x := by
  have e : layG x ++ ys = (x.k / 16777216 % 256) :: (x.k / 65536 % 256) :: (x.k / 256 % 256) :: (x.k % 256) :: (x.s ++ ys) := by simp [layG, be4]
  have hk := h.2.2
  have hl := h.1
  rw [e]
  obtain ⟨k, s⟩ := x
  simp only at hk hl ⊢
  unfold cg
  congr 1
  · simp only [List.getD_cons_zero, List.getD_cons_succ]
    omega
  · simp only [List.take_succ_cons, List.drop_succ_cons, List.drop_zero]
    rw [List.take_append_of_le_length (by omega), List.take_of_length_le (by omega)]
theorem flat_drop (l : List Sg) (hok : ∀ x ∈ l, x.ok) : ∀ i, i ≤ l.length → (l.map layG).flatten.drop (36 * i) = ((l.drop i).map layG).flatten
  | 0, _ => by simp
  | i + 1, hi => by
    have ih := flat_drop l hok i (by omega)
    rw [show 36 * (i + 1) = 36 * i + 36 by omega, ← List.drop_drop, ih, drop_at l i hi, List.map_cons, List.flatten_cons]
    have := layG_len (atI l i) (Sg.at l hok i)
    rw [← this, List.drop_left]
theorem gs_lay (l : List Sg) (hok : ∀ x ∈ l, x.ok) : gs l.length (l.map layG).flatten = l := by
  apply List.ext_getElem
  · exact gs_len _ _
  · intro i h1 h2
    simp only [gs, List.getElem_map, List.getElem_range]
    rw [flat_drop l hok i (by omega), drop_at l i h2, List.map_cons, List.flatten_cons, cg_lay _ (Sg.at l hok i), atI_eq l i h2]
theorem gs_ok (j : Nat) (xs : List Int) (hb : Bt xs) (hl : 36 * j ≤ xs.length) : ∀ x ∈ gs j xs, x.ok := fun x hx => by
  simp only [gs, List.mem_map, List.mem_range] at hx
  obtain ⟨i, hi, rfl⟩ := hx
  exact cg_ok _ (bytes_drop _ _ hb) (by rw [List.length_drop]; omega)
/-- What is read up to where no more can be is what Get tells. -/
theorem rget_eq (b : List Int) (hb : Bt b) (j : Nat) (h0 : j = 0 ∨ ((gn b).2.2 = 0 ∧ 36 * j ≤ (gn b).2.1.length)) (he : ¬ ((gn b).2.2 = 0 ∧ 36 ≤ (gn b).2.1.length - 36 * j ∧ j ≤ 4096)) :
    bget b = if Fi.dnE ((gn b).2.1.drop (36 * j)) (gn b).2.2 = 0 ∧ (bput (gz b).1 (gn b).1 (gs j (gn b).2.1)).2 = 0 ∧ (bput (gz b).1 (gn b).1 (gs j (gn b).2.1)).1 = b then ((gz b).1, (gn b).1, gs j (gn b).2.1, 0) else (0, 0, [], 4) := by
  have hbn : Bt (gn b).2.1 := rN_bt _ _ 65536 (rN_bt b 0 4096 hb)
  have hok : ∀ x ∈ gs j (gn b).2.1, x.ok := by
    rcases h0 with rfl | h0
    · intro x hx; simp [gs] at hx
    · exact gs_ok j _ hbn h0.2
  by_cases h : Fi.dnE ((gn b).2.1.drop (36 * j)) (gn b).2.2 = 0 ∧ (bput (gz b).1 (gn b).1 (gs j (gn b).2.1)).2 = 0 ∧ (bput (gz b).1 (gn b).1 (gs j (gn b).2.1)).1 = b
  · rw [if_pos h]
    obtain ⟨_, h2, h3⟩ := h
    have hm := bput_zero _ _ _ h2
    rw [bput_ok _ _ _ hm] at h3
    have := bget_lay _ _ _ hok hm
    simp only at h3
    rw [h3] at this
    exact this
  · rw [if_neg h]
    rcases bget_cases b with ⟨hg, hp⟩ | hg
    · exfalso
      have hm := bput_zero _ _ _ (by rw [hp])
      have hA := rdA_ok b hb
      rw [bput_ok _ _ _ hm] at hp
      have hl : layL (gz b).1 (gn b).1 (rdA b) = b := congrArg Prod.fst hp
      have e1 := gn_lay (gz b).1 (gn b).1 (rdA b) [] hm
      rw [List.append_nil, List.append_nil, hl] at e1
      obtain ⟨_, _, _, _, _, h4⟩ := chk_zero _ _ _ hm
      have e2 : (gn b).2.1 = ((rdA b).map layG).flatten := congrArg (fun p => p.2.1) e1
      have e3 : (gn b).2.2 = 0 := congrArg (fun p => p.2.2) e1
      have hlen := lays_len (rdA b) hA
      have hj : j = (rdA b).length := by
        rw [e2, e3, hlen] at he h0
        have : 36 * j ≤ (rdA b).length * 36 := by
          rcases h0 with rfl | h0
          · omega
          · exact h0.2
        omega
      have e4 : gs j (gn b).2.1 = rdA b := by rw [e2, hj]; exact gs_lay _ hA
      refine h ⟨?_, ?_, ?_⟩
      · rw [e3, e2, hj]
        unfold Fi.dnE
        rw [if_pos rfl, if_neg]
        rw [List.length_drop, hlen]
        omega
      · rw [e4, bput_ok _ _ _ hm]
      · rw [e4, bput_ok _ _ _ hm]; exact hl
    · exact hg
end Go.Proofs.YtjiefndjgkhcjaaDoor

namespace Go.Proofs.YtjiefndjgkhcjaaDoor
open Go.RowKit
set_option maxRecDepth 100000

theorem numB_bt (n : Int) : ∀ k, 0 ≤ (Fi.numB n).getD k 0 ∧ (Fi.numB n).getD k 0 < 256 := by
  unfold Fi.numB
  split
  · intro k; simp
  · rename_i h0
    obtain ⟨W, hW, _, hI, h1, h2, hn⟩ := Fi.pos_lim n h0
    rw [hW, Int.toNat_natCast]
    exact Fi.pb_bytes n W hI h1 h2
theorem rnum_own (k : Int) (W : World) : Calls Tryd.prog 36 #[.int .i64 k] W fun r w' => ∃ v, r = .returned v ∧ Ow w' W.heap.size v (Fi.numB k) ∧ Below W.heap.size W w' := (Fi.rnumB_any k W).mono fun _ _ ⟨v, e, o, b⟩ => ⟨v, e, ⟨o, numB_bt k⟩, b⟩
theorem sl_four {w : World} (k : Int) : Sl (w.alloc (.cells #[.int .u8 (k / 16777216 % 256), .int .u8 (k / 65536 % 256), .int .u8 (k / 256 % 256), .int .u8 (k % 256)] 5)) (.slice (some ⟨w.heap.size, 0, none⟩) 4 4) (be4 k) := by
  refine sl_range (A := be4 k) (fun j v hv => ?_) (be4_bytes k) rfl (Nat.le_refl _) (by unfold maxLen; omega)
  rw [World.cell?_alloc_at _ _ _ _ rfl]
  simpa [be4] using hv
theorem layG_take (l : List Sg) (j : Nat) (hj : j < l.length) : ((l.take (j + 1)).map layG).flatten = ((l.take j).map layG).flatten ++ layG (atI l j) := by
  rw [takeI_at l j hj]; simp
set_option maxHeartbeats 8000000 in
theorem rput_any (z n : Int) (v : Value) (l : List Sg) (w : World) (h : GS w v l) (hl : l.length ≤ 90000) :
    Calls Tryd.prog 16 #[.int .i64 z, .int .i64 n, v] w fun e w' => ∃ v', e = .returned (.tuple #[v', .int .i64 (bput z n l).2]) ∧ Ow w' w.heap.size v' (bput z n l).1 ∧ Below w.heap.size w w' := by
  obtain ⟨a, c, rfl, h2, h3, h4⟩ := h.shape
  have CK := rcheck_any z n a l.length c w (by omega)
  have HS : Hid (GS w (.slice a l.length c) l) := h
  have HOK : Hid (∀ x ∈ l, x.ok) := h.ok
  have HBG : Hid (∀ j, ((Fi.numB z ++ Fi.numB n) ++ ((l.take j).map layG).flatten).length ≤ 4000000) := fun j => by
    have h1 := lays_len (l.take j) (fun x hx => h.ok x (List.mem_of_mem_take hx))
    have h2 := numB_len8 z
    have h5 := numB_len8 n
    have h3 : (l.take j).length ≤ 90000 := by rw [List.length_take]; omega
    rw [List.length_append, List.length_append]
    omega
  have HN8 : Hid ((Fi.numB z).length ≤ 8 ∧ (Fi.numB n).length ≤ 8) := ⟨numB_len8 z, numB_len8 n⟩
  have HM : Hid (bput z n l = if chk z n l.length ≠ 0 then ([], chk z n l.length) else (layL z n l, 0)) := rfl
  have HY : Hid (layL z n l = (Fi.numB z ++ Fi.numB n) ++ ((l.take l.length).map layG).flatten) := by unfold Hid layL; rw [List.take_length, List.append_assoc]
  obtain ⟨L, hn'⟩ : ∃ L, L = l.length := ⟨_, rfl⟩
  have HN : Hid (L = l.length) := hn'
  rw [← hn'] at HS h2 hl CK HM HY ⊢
  clear h h3 h4 hn'
  generalize bput z n l = R at *
  generalize chk z n L = k at *
  generalize layL z n l = Y at *
  go_enter Tryd.func16, Tryd.ntmps16
  go_wp2_with fail
  refine CK.mono ?_
  rintro e w1 ⟨rfl, hq⟩
  replace hq := hq.symm
  subst hq
  clear CK
  by_cases hk : k = 0
  · subst hk
    have HRE : Hid (R = (Y, 0)) := by unfold Hid; have := HM.out; simpa using this
    clear HM
    have cn := rnum_own z w
    go_wp2_with fail
    refine cn.mono ?_
    rintro e w1 ⟨v1, rfl, o1, b1⟩
    clear cn
    have B1 : Hid (Below w.heap.size w w1) := b1
    have O1 : Hid (Ow w1 w.heap.size v1 (Fi.numB z)) := o1
    obtain ⟨za, zc, rfl⟩ := o1.shape
    have cn := rnum_own n w1
    clear o1 b1
    obtain ⟨nz, hnz⟩ : ∃ nz, nz = (Fi.numB z).length := ⟨_, rfl⟩
    rw [← hnz] at O1 ⊢
    have HNZ : Hid (nz = (Fi.numB z).length) := hnz
    clear hnz
    go_wp2_with fail
    refine cn.mono ?_
    rintro e w2 ⟨v2, rfl, o2, b2⟩
    clear cn
    have B2 : Hid (Below w.heap.size w w2) := B1.out.trans (b2.mono B1.out.size)
    have O2 : Hid (Ow w2 w.heap.size (.slice za nz zc) (Fi.numB z)) := O1.out.below b2
    have S2 : Hid (Sl w2 v2 (Fi.numB n)) := o2.sl
    obtain ⟨na, nc, rfl⟩ := o2.shape
    obtain ⟨nn, hnn⟩ : ∃ nn, nn = (Fi.numB n).length := ⟨_, rfl⟩
    rw [← hnn] at S2 ⊢
    clear o2 b2 O1 B1 hnn
    go_wp2_with (at_builtin; refine wpList_append_ow rfl _ _ rfl w.heap.size _ (Fi.numB z) rfl O2.out _ (Fi.numB n) rfl S2.out (by have := HN8.out; omega) B2.out.size (Hid.out ?_))
    unfold Hid
    intro v3 w3 o3 b3
    have B3 : Hid (Below w.heap.size w w3) := B2.out.trans b3
    have O3 : Hid (Ow w3 w.heap.size v3 ((Fi.numB z ++ Fi.numB n) ++ ((l.take 0).map layG).flatten)) := by
      unfold Hid
      have e : (Fi.numB z ++ Fi.numB n) ++ ((l.take 0).map layG).flatten = Fi.numB z ++ Fi.numB n := by simp
      rw [e]
      exact o3
    obtain ⟨a3, c3, rfl⟩ := o3.shape
    clear o3 b3 O2 S2 B2
    generalize (Fi.numB z ++ Fi.numB n).length = n3 at *
    go_wp2_with fail
    go_loopw [9, 10] (fun s q wr => ∃ j : Nat, j ≤ L ∧ q = .int .i64 j ∧ Ow wr w.heap.size s ((Fi.numB z ++ Fi.numB n) ++ ((l.take j).map layG).flatten) ∧ Below w.heap.size w wr) (fun _ q _ => L - (intOf q).toNat)
    case atStart => exact ⟨0, by omega, rfl, O3.out, B3.out⟩
    case round =>
      clear O3 B3
      obtain ⟨j, hj, rfl, oe, bel⟩ := hrel
      have HB : Hid (Below w.heap.size w wr) := bel
      have HO : Hid (Ow wr w.heap.size u9 ((Fi.numB z ++ Fi.numB n) ++ ((l.take j).map layG).flatten)) := oe
      obtain ⟨va, vc, rfl⟩ := oe.shape
      clear bel oe
      by_cases hlt : j < L
      · have lt2 : (j : Int) < (L : Int) := by omega
        have lt3 : (0 : Int) ≤ (j : Int) := by omega
        have hlt' : j < l.length := by rw [← HN.out]; exact hlt
        obtain ⟨b, off, rfl, r1⟩ := (HS.out.kept HB.out).at j hlt'
        have hx : (atI l j).ok := Sg.at l HOK.out j
        have HT : Hid ((Fi.numB z ++ Fi.numB n) ++ ((l.take (j + 1)).map layG).flatten = (((Fi.numB z ++ Fi.numB n) ++ ((l.take j).map layG).flatten) ++ be4 (atI l j).k) ++ (atI l j).s) := by unfold Hid; rw [layG_take l j hlt']; simp [layG]
        have hb0 := HBG.out j
        have HSL : Hid ((atI l j).s.length = 32) := hx.1
        have HSB : Hid (∀ k, 0 ≤ (atI l j).s.getD k 0 ∧ (atI l j).s.getD k 0 < 256) := hx.2.1
        obtain ⟨x1, x2⟩ := hx.2.2
        have FK : Hid (∀ W, From wr W → W.cell? ⟨b, off + j * 33, none⟩ = some (.int .u32 (atI l j).k)) := fun W h => range_head (range_kept r1 h)
        have FX : Hid (∀ W, From wr W → W.rangeAt b (off + j * 33 + 1) ((atI l j).s.map (Value.int .u8))) := fun W h => range_kept (range_sum r1) h
        clear r1 hx
        generalize (atI l j).k = kk at *
        generalize (atI l j).s = S at *
        generalize (Fi.numB z ++ Fi.numB n) ++ ((l.take j).map layG).flatten = X at *
        have ZX : Hid ((Tryd.prog.info? 55).map (·.size) = some (S.map (Value.int .u8)).length) := infoHl _ HSL.out
        have LX : Hid (X.length ≤ 4000000) := hb0
        clear hb0
        obtain ⟨nx, hnx⟩ : ∃ nx, nx = X.length := ⟨_, rfl⟩
        rw [← hnx] at HO ⊢
        clear hnx
        go_wp2_with fail
        refine wp_region_held_drew (S := From wr) (by kernel_rfl) (Below.drew (Below.refl _ _)) (fun _ => ?_)
        refine wpAnyH_name (fun u0 hu0 => ?_)
        have bu0 : Below wr.heap.size wr u0 := by rw [hu0.out]; exact Below.drew (Below.refl _ _)
        have Ou0 : Ow u0 w.heap.size (.slice va nx vc) X := by rw [hu0.out]; exact HO.out
        refine wpAnyH_take (i := 0) (oi := { dst := some 31, op := Op.move (Operand.tmp 2), type := 24, pos := "ref.go:69", after := #[], guard := none }) (v := ?vr1) rfl (by kernel_rfl) (by kernel_rfl) (by kernel_rfl) (fun _ _ _ h => h) (Or.inl ⟨by rfl, ?yr1⟩) bu0 ?rr1
        case yr1 => (intro w hSw; go_simp; try with_reducible rfl)
        try simp only [Act.put, List.setIfInBounds_toArray, List.set_cons_zero, List.set_cons_succ]
        refine wpAnyH_take (i := 1) (oi := { dst := some 32, op := Op.move (Operand.tmp 10), type := 3, pos := "ref.go:69", after := #[], guard := none }) (v := ?vr2) rfl (by kernel_rfl) (by kernel_rfl) (by kernel_rfl) (fun _ _ _ h => h) (Or.inl ⟨by rfl, ?yr2⟩) bu0 ?rr2
        case yr2 => (intro w hSw; go_simp; try with_reducible rfl)
        try simp only [Act.put, List.setIfInBounds_toArray, List.set_cons_zero, List.set_cons_succ]
        refine wpAnyH_take (i := 2) (oi := { dst := some 33, op := Op.indexAddr 24 (Operand.tmp 31) (Operand.tmp 32), type := 0, pos := "ref.go:69", after := #[{ on := 0, ground := Ground.data }, { on := 1, ground := Ground.data }], guard := none }) (v := ?vr3) rfl (by kernel_rfl) (by kernel_rfl) (by kernel_rfl) (fun _ _ _ h => h) (Or.inl ⟨by rfl, ?yr3⟩) bu0 ?rr3
        case yr3 => (intro w hSw; go_simp; try with_reducible rfl)
        try simp only [Act.put, List.setIfInBounds_toArray, List.set_cons_zero, List.set_cons_succ]
        refine wpAnyH_take (i := 3) (oi := { dst := some 34, op := Op.fieldAddr 57 (Operand.tmp 33) 0, type := 0, pos := "ref.go:69", after := #[{ on := 2, ground := Ground.data }], guard := none }) (v := ?vr4) rfl (by kernel_rfl) (by kernel_rfl) (by kernel_rfl) (fun _ _ _ h => h) (Or.inl ⟨by rfl, ?yr4⟩) bu0 ?rr4
        case yr4 => (intro w hSw; go_simp; try with_reducible rfl)
        try simp only [Act.put, List.setIfInBounds_toArray, List.set_cons_zero, List.set_cons_succ]
        refine wpAnyH_take (i := 4) (oi := { dst := some 35, op := Op.load 44 (Operand.tmp 34), type := 44, pos := "ref.go:69", after := #[{ on := 3, ground := Ground.data }], guard := none }) (v := ?vr5) rfl (by kernel_rfl) (by kernel_rfl) (by kernel_rfl) (fun _ _ _ h => h) (Or.inl ⟨by rfl, ?yr5⟩) bu0 ?rr5
        case yr5 => (intro w hSw; have t0 := FK.out w hSw; go_simp; try with_reducible rfl)
        try simp only [Act.put, List.setIfInBounds_toArray, List.set_cons_zero, List.set_cons_succ]
        refine wpAnyH_take (i := 5) (oi := { dst := some 36, op := Op.move (Operand.tmp 2), type := 24, pos := "ref.go:69", after := #[{ on := 11, ground := Ground.gcOnly Departure.lateStores }], guard := none }) (v := ?vr6) rfl (by kernel_rfl) (by kernel_rfl) (by kernel_rfl) (fun _ _ _ h => h) (Or.inl ⟨by rfl, ?yr6⟩) bu0 ?rr6
        case yr6 => (intro w hSw; go_simp; try with_reducible rfl)
        try simp only [Act.put, List.setIfInBounds_toArray, List.set_cons_zero, List.set_cons_succ]
        refine wpAnyH_take (i := 6) (oi := { dst := some 37, op := Op.move (Operand.tmp 10), type := 3, pos := "ref.go:69", after := #[{ on := 11, ground := Ground.gcOnly Departure.lateStores }], guard := none }) (v := ?vr7) rfl (by kernel_rfl) (by kernel_rfl) (by kernel_rfl) (fun _ _ _ h => h) (Or.inl ⟨by rfl, ?yr7⟩) bu0 ?rr7
        case yr7 => (intro w hSw; go_simp; try with_reducible rfl)
        try simp only [Act.put, List.setIfInBounds_toArray, List.set_cons_zero, List.set_cons_succ]
        refine wpAnyH_take (i := 7) (oi := { dst := some 38, op := Op.indexAddr 24 (Operand.tmp 36) (Operand.tmp 37), type := 0, pos := "ref.go:69", after := #[{ on := 5, ground := Ground.data }, { on := 6, ground := Ground.data }, { on := 11, ground := Ground.gcOnly Departure.lateStores }], guard := none }) (v := ?vr8) rfl (by kernel_rfl) (by kernel_rfl) (by kernel_rfl) (fun _ _ _ h => h) (Or.inl ⟨by rfl, ?yr8⟩) bu0 ?rr8
        case yr8 => (intro w hSw; go_simp; try with_reducible rfl)
        try simp only [Act.put, List.setIfInBounds_toArray, List.set_cons_zero, List.set_cons_succ]
        refine wpAnyH_take (i := 8) (oi := { dst := some 39, op := Op.fieldAddr 57 (Operand.tmp 38) 1, type := 0, pos := "ref.go:69", after := #[{ on := 7, ground := Ground.data }, { on := 11, ground := Ground.gcOnly Departure.lateStores }], guard := none }) (v := ?vr9) rfl (by kernel_rfl) (by kernel_rfl) (by kernel_rfl) (fun _ _ _ h => h) (Or.inl ⟨by rfl, ?yr9⟩) bu0 ?rr9
        case yr9 => (intro w hSw; go_simp; try with_reducible rfl)
        try simp only [Act.put, List.setIfInBounds_toArray, List.set_cons_zero, List.set_cons_succ]
        refine wpAnyH_take (i := 9) (oi := { dst := some 40, op := Op.load 55 (Operand.tmp 39), type := 55, pos := "ref.go:69", after := #[{ on := 8, ground := Ground.data }, { on := 11, ground := Ground.gcOnly Departure.lateStores }], guard := none }) (v := .agg (S.map (Value.int .u8)).toArray) rfl (by kernel_rfl) (by kernel_rfl) (by kernel_rfl) (fun _ _ _ h => h) (yieldsIf_load_mid (by rfl) 55 _ rfl b (off + j * 33 + 1) rfl (S.map (Value.int .u8)) _ (fun w hw => FX.out w hw) Tryd.underlying55 rfl ZX.out) bu0 ?_
        try simp only [Act.put, List.setIfInBounds_toArray, List.set_cons_zero, List.set_cons_succ]
        refine wpAnyH_ready (rs := [10]) (by kernel_rfl) (by simp) ?_
        refine AllReadyH.cons (o := { dst := some 12, op := Op.alloc 55, type := 0, pos := "ref.go:69", after := #[], guard := none }) rfl (fun KK hKK => ?_) ?_
        · go_simp
          refine hKK.out _ _ (bu0.trans ((al_below _ _).mono bu0.size)) (fun _ => ?_)
          clear hKK KK
          try simp only [Act.put, List.setIfInBounds_toArray, List.set_cons_zero, List.set_cons_succ]
          refine wpAnyH_name (fun u11 hu11 => ?_)
          have bu11 : Below wr.heap.size wr u11 := by rw [hu11.out]; exact (bu0.trans ((al_below _ _).mono bu0.size))
          have Gu11 : u11.heap[u0.heap.size]? = some (.cells hzc 55 (0, 0)) := by rw [hu11.out]; exact new_h u0
          have Ou11 : Ow u11 w.heap.size (.slice va nx vc) X := by rw [hu11.out]; exact Ou0.below (al_below _ _)
          have Eu11 := alloc_h u0 S
          refine wpAnyH_take (i := 11) (oi := { dst := some 11, op := Op.assign (Operand.tmp 35), type := 44, pos := "ref.go:69", after := #[{ on := 4, ground := Ground.data }, { on := 0, ground := Ground.phase }, { on := 1, ground := Ground.phase }, { on := 2, ground := Ground.phase }, { on := 3, ground := Ground.phase }, { on := 4, ground := Ground.phase }, { on := 5, ground := Ground.textOnly Departure.lateStores }, { on := 6, ground := Ground.textOnly Departure.lateStores }, { on := 7, ground := Ground.textOnly Departure.lateStores }, { on := 8, ground := Ground.textOnly Departure.lateStores }, { on := 9, ground := Ground.textOnly Departure.lateStores }, { on := 10, ground := Ground.phase }], guard := none }) (v := ?vr12) rfl (by kernel_rfl) (by kernel_rfl) (by kernel_rfl) (fun _ _ _ h => h) (Or.inl ⟨by rfl, ?yr12⟩) bu11 ?rr12
          case yr12 => (intro w hSw; go_simp; try with_reducible rfl)
          try simp only [Act.put, List.setIfInBounds_toArray, List.set_cons_zero, List.set_cons_succ]
          refine wpAnyH_ready (rs := [12]) (by kernel_rfl) (by simp) ?_
          refine AllReadyH.cons (o := { dst := none, op := Op.store 55 (Operand.tmp 12) (Operand.tmp 40), type := 0, pos := "ref.go:69", after := #[{ on := 10, ground := Ground.data }, { on := 9, ground := Ground.data }, { on := 11, ground := Ground.chain }, { on := 0, ground := Ground.phase }, { on := 1, ground := Ground.phase }, { on := 2, ground := Ground.phase }, { on := 3, ground := Ground.phase }, { on := 4, ground := Ground.phase }, { on := 5, ground := Ground.phase }, { on := 6, ground := Ground.phase }, { on := 7, ground := Ground.phase }, { on := 8, ground := Ground.phase }, { on := 9, ground := Ground.phase }, { on := 10, ground := Ground.phase }, { on := 11, ground := Ground.phase }], guard := none }) rfl (fun KK hKK => ?_) ?_
          · refine wp_store_row 55 _ _ rfl u0.heap.size (S.map (Value.int .u8)).toArray rfl rfl 55 hzc Gu11 (infoH S HSL.out) (by rw [hzc_size]; exact (by simp [HSL.out])) (u8c_ones S) ?_
            refine hKK.out _ _ (below_setRow bu11 bu0.size _) (fun _ => ?_)
            clear hKK KK
            try simp only [Act.put]
            refine wpAnyH_name (fun u13 hu13 => ?_)
            have bu13 : Below wr.heap.size wr u13 := by rw [hu13.out]; exact (below_setRow bu11 bu0.size _)
            have Wu13 : u13 = u0.alloc (.cells (u8c S) 55) := by rw [hu13.out, hu11.out]; exact Eu11
            refine wpAnyH_done (by kernel_rfl) ?_ _
            obtain ⟨w4, hw4⟩ : ∃ w4, w4 = u0 := ⟨_, rfl⟩
            have Q4 : Hid (Below wr.heap.size wr w4) := by unfold Hid; rw [hw4]; exact bu0
            have O4 : Hid (Ow w4 w.heap.size (.slice va nx vc) X) := by unfold Hid; rw [hw4]; exact Ou0
            have W5 : u13 = w4.alloc (.cells (u8c S) 55) := by rw [hw4]; exact Wu13
            rw [← hw4]
            obtain ⟨w5, hw5⟩ : ∃ w5, w5 = u13 := ⟨_, rfl⟩
            rw [← hw5] at W5 ⊢
            have b5 : Below w4.heap.size w4 w5 := by rw [W5]; exact al_below _ _
            have B5 : Hid (Below w.heap.size w w5) := HB.out.trans ((Q4.out.trans (b5.mono Q4.out.size)).mono HB.out.size)
            have O5 : Hid (Ow w5 w.heap.size (.slice va nx vc) X) := O4.out.below b5
            have G5 : Hid (w5.heap[w4.heap.size]? = some (.cells (u8c S) 55 (0, 0))) := by unfold Hid; rw [W5]; exact heap_alloc_new _ _
            clear hw4 hw5 W5 b5 O4 Q4 FK FX
            have O6 : Hid (Ow (w5.alloc (.cells #[.int .u8 (kk / 16777216 % 256), .int .u8 (kk / 65536 % 256), .int .u8 (kk / 256 % 256), .int .u8 (kk % 256)] 5)) w.heap.size (.slice va nx vc) X) := O5.out.below (al_below _ _)
            have S6 : Hid (Sl (w5.alloc (.cells #[.int .u8 (kk / 16777216 % 256), .int .u8 (kk / 65536 % 256), .int .u8 (kk / 256 % 256), .int .u8 (kk % 256)] 5)) (.slice (some ⟨w5.heap.size, 0, none⟩) 4 4) (be4 kk)) := sl_four kk
            have L6 : Hid (w.heap.size ≤ (w5.alloc (.cells #[.int .u8 (kk / 16777216 % 256), .int .u8 (kk / 65536 % 256), .int .u8 (kk / 256 % 256), .int .u8 (kk % 256)] 5)).heap.size) := Nat.le_trans B5.out.size (al_below _ _).size
            have z24 : kk / 16777216 % 256 = kk / 16777216 := by omega
            rw [z24] at O6 S6 L6
            go_wp2_with (at_builtin; refine wpList_append_owx rfl _ _ rfl w.heap.size _ X rfl O6.out _ (be4 kk) rfl S6.out (by show X.length + 4 ≤ _; have := LX.out; omega) L6.out (Hid.out ?_))
            unfold Hid
            intro v7 w7 o7 b7 k7
            have G7 : Hid (w7.heap[w4.heap.size]? = some (.cells (u8c S) 55 (0, 0))) := k7 _ _ _ _ _ (by decide) ((Below.block (al_below w5 _) _ (Array.getElem?_eq_some_iff.1 G5.out).1).trans G5.out)
            have B7 : Hid (Below w.heap.size w w7) := (B5.out.trans ((al_below _ _).mono B5.out.size)).trans b7
            have O7 : Hid (Ow w7 w.heap.size v7 (X ++ be4 kk)) := o7
            have S7 : Hid (Sl w7 (.slice (some ⟨w4.heap.size, 0, none⟩) 32 32) S) := sl_u8c G7.out HSL.out HSB.out
            obtain ⟨a7, c7, rfl⟩ := o7.shape
            have LX7 : Hid ((X ++ be4 kk).length ≤ 4000004) := by unfold Hid; rw [List.length_append]; show X.length + 4 ≤ _; have := LX.out; omega
            obtain ⟨X7, hX7⟩ : ∃ X7, X7 = X ++ be4 kk := ⟨_, rfl⟩
            rw [← hX7] at O7 LX7 ⊢
            have HX7 : Hid (X7 = X ++ be4 kk) := hX7
            clear hX7 o7 b7 k7 O6 S6 L6 G5 B5 O5
            obtain ⟨n7, hn7⟩ : ∃ n7, n7 = X7.length := ⟨_, rfl⟩
            rw [← hn7] at O7 ⊢
            clear hn7
            go_wp2_with (at_builtin; refine wpList_append_ow rfl _ _ rfl w.heap.size _ X7 rfl O7.out _ S rfl S7.out (by rw [HSL.out]; have := LX7.out; omega) B7.out.size (Hid.out ?_))
            unfold Hid
            intro v8 w8 o8 b8
            have B8 : Hid (Below w.heap.size w w8) := B7.out.trans b8
            have O8 : Hid (Ow w8 w.heap.size v8 ((Fi.numB z ++ Fi.numB n) ++ ((l.take (j + 1)).map layG).flatten)) := by
              unfold Hid
              rw [HT.out, ← HX7.out]
              exact o8
            clear o8 b8 O7 S7 B7
            go_wp2
            go_roundw
            case rel => exact ⟨j + 1, by omega, by go_num, O8.out, B8.out⟩
            case measure => simp [intOf]; omega
          exact AllReadyH.nil
        exact AllReadyH.nil
      · obtain rfl : j = L := by omega
        have OZ : Hid (Ow wr w.heap.size (.slice va ((Fi.numB z ++ Fi.numB n) ++ ((l.take j).map layG).flatten).length vc) Y) := by unfold Hid; rw [HY.out]; exact HO.out
        clear HO
        generalize ((Fi.numB z ++ Fi.numB n) ++ ((l.take j).map layG).flatten).length = nx at *
        go_wp2
        go_ret2
        exact ⟨.slice va nx vc, by rw [HRE.out]; rfl, by rw [HRE.out]; exact OZ.out, HB.out⟩
  · have HRE : Hid (R = ([], k)) := by unfold Hid; have := HM.out; rwa [if_pos hk] at this
    have hk2 : (k != 0) = true := by simpa using hk
    go_wp2
    go_ret2
    exact ⟨.slice none 0 0, by rw [HRE.out]; rfl, by rw [HRE.out]; exact ⟨World.ownsRow_nil _ _ _ _, fun k => by simp⟩, Below.refl _ _⟩
end Go.Proofs.YtjiefndjgkhcjaaDoor

namespace Go.Proofs.YtjiefndjgkhcjaaDoor
open Go.RowKit
set_option maxRecDepth 100000

theorem rvNum (sv : Value) (xs : List Int) (e m : Int) (w : World) (h : Fi.Rv w sv xs) :
    Calls Tryd.prog 42 #[.agg #[sv, .int .i64 e], .int .i64 m] w fun r w' => ∃ sv', r = .returned (.tuple #[.agg #[sv', .int .i64 (rN xs e m).2.2], .int .i64 (rN xs e m).1]) ∧ (∀ W, Fi.Rv W sv xs → Fi.Rv W sv' (rN xs e m).2.1) ∧ Below w.heap.size w w' := by
  obtain ⟨a, c, rfl, _⟩ := id h
  unfold rN
  split
  · rename_i he; subst he; exact Fi.rnum_any a c xs m w h
  · rename_i he
    exact (Fi.rnum_stop a xs.length c e m w he).mono fun _ _ ⟨e1, b⟩ => ⟨_, e1, fun _ hW => hW, b⟩
theorem rvRaw (sv : Value) (xs : List Int) (e n : Int) (w : World) (h : Fi.Rv w sv xs) :
    Calls Tryd.prog 43 #[.agg #[sv, .int .i64 e], .int .i64 n] w fun r w' => ∃ sv', r = .returned (.tuple #[.agg #[sv', .int .i64 (rR xs e n).2.2], .string (Fi.strB (rR xs e n).1)]) ∧ (∀ W, Fi.Rv W sv xs → Fi.Rv W sv' (rR xs e n).2.1) ∧ Below w.heap.size w w' := by
  obtain ⟨a, c, rfl, _⟩ := id h
  unfold rR
  split
  · rename_i he; subst he; exact Fi.rraw_any a c xs n w h
  · rename_i he
    exact (Fi.rraw_stop a xs.length c e n w he).mono fun _ _ ⟨e1, b⟩ => ⟨_, e1, fun _ hW => hW, b⟩
theorem rv_of {w : World} {v : Value} {b : List Int} (h : Sl w v b) (hs : ∀ x l c, v = .slice (some x) l c → 0 < c → x.spot = none) : Fi.Rv w v b := by
  obtain ⟨a, c, rfl, h1, h2, h3, h4⟩ := h
  exact ⟨a, c, rfl, h1, h2, h3, fun x hx hc => hs x _ _ (by rw [hx]) hc, h4⟩
theorem rv_shape {w : World} {v : Value} {b : List Int} (h : Fi.Rv w v b) : ∃ a c, v = .slice a b.length c := by
  obtain ⟨a, c, e, _⟩ := h
  exact ⟨a, c, e⟩
/-- The first bytes of a text, the rest noughts. -/
def ovk (X : List Int) (k : Nat) : List Int := X.take k ++ z32.drop k
theorem ovk_set (X : List Int) (k : Nat) (hk : k < X.length) (h32 : X.length ≤ 32) : (ovk X k).set k (X.getD k 0) = ovk X (k + 1) := by
  unfold ovk
  have hl : (X.take k).length = k := by rw [List.length_take]; omega
  have hz : k < z32.length := by rw [z32_len]; omega
  have e : (z32.drop k).set 0 (X.getD k 0) = X.getD k 0 :: z32.drop (k + 1) := by rw [List.drop_eq_getElem_cons hz]; rfl
  rw [List.set_append_right _ _ (by omega), hl, Nat.sub_self, e]
  have e2 : X.take (k + 1) = X.take k ++ [X.getD k 0] := by rw [List.take_add_one, List.getElem?_eq_getElem hk]; simp [List.getD, List.getElem?_eq_getElem hk]
  rw [e2, List.append_assoc]
  rfl
theorem ovk_len (X : List Int) (k : Nat) (hX : X.length ≤ 32) (hk : k ≤ X.length) : (ovk X k).length = 32 := by unfold ovk; rw [List.length_append, List.length_take, List.length_drop, z32_len]; omega
theorem info74 (u0 u1 : Value) : (Tryd.prog.info? 78).map (·.size) = some #[u0, u1].size := by
  show _ = some 2
  kernel_rfl
theorem ones2 {a : Option Addr} {n c : Nat} {k : Int} : #[Value.slice a n c, .int .i64 k].all (·.oneCell') = true :=
  all_oneCell_toArray (cs := [Value.slice a n c, .int .i64 k]) fun v hv => by
    simp only [List.mem_cons, List.not_mem_nil, or_false] at hv
    rcases hv with rfl | rfl <;> rfl
theorem run_index_sb (X : List Int) (hX : ∀ k, 0 ≤ X.getD k 0 ∧ X.getD k 0 < 256) (w : World) (k : Nat) (h : k < X.length) : (Instr.index 9 (.string (Fi.strB X)) (.int .i64 (k : Int))).run Tryd.prog w = .ok (.int .u8 (X.getD k 0)) w := by
  have hs : k < (Fi.strB X).size := by rw [Fi.strB_size]; exact h
  have e : (Fi.strB X)[k]? = some (Fi.strB X)[k] := by rw [getElem?_pos (Fi.strB X) k hs]
  have e2 : (((Fi.strB X)[k]).toNat : Int) = X.getD k 0 := by
    have hd : (Fi.strB X)[k] = UInt8.ofNat (X[k]'h).toNat := by
      show (Fi.strB X).data[k] = _
      simp [Fi.strB]
    have hx := hX k
    simp only [List.getD, List.getElem?_eq_getElem h, Option.getD_some] at hx ⊢
    rw [hd, UInt8.toNat_ofNat']
    omega
  simp [Instr.index, asIntOf, run_underlying Tryd.underlying9, e, e2]
/-- What stands while sums' variable is filled. -/
def XS (W wx : World) (X : Nat) (y : Sg) : Prop := wx.heap[X]? = some (.cells y.cells.toArray 57 (0, 0)) ∧ Below W.heap.size W wx ∧ W.heap.size ≤ X
theorem XS.set {W wx : World} {X : Nat} {y y' : Sg} (h : XS W wx X y) (i : Nat) (v : Value) (hy : y.cells.toArray.setIfInBounds i v = y'.cells.toArray) : XS W (wx.setCell ⟨X, i, none⟩ v) X y' := by
  refine ⟨by rw [heap_setCell_same _ _ _ _ _ _ h.1, hy], ?_, h.2.2⟩
  obtain ⟨b1, b2, b3, b4, b5⟩ := h.2.1
  have h3 := h.2.2
  exact ⟨b1, b2, b3, by simpa [World.setCell] using b4, fun k hk => by rw [heap_setCell_other _ _ _ _ (by show k ≠ X; omega)]; exact b5 k hk⟩
theorem XS.cell {W wx : World} {X : Nat} {y : Sg} (h : XS W wx X y) (k : Nat) (hk : k < y.s.length) : wx.cell? ⟨X, 1 + k, none⟩ = some (.int .u8 (y.s.getD k 0)) ∧ wx.frozen? ⟨X, 1 + k, none⟩ = false := by
  refine ⟨?_, frozen_of_row _ _ _ _ _ h.1⟩
  rw [cell_of_row _ _ _ _ _ _ h.1, Nat.add_comm 1 k]
  simp [Sg.cells, List.getD, List.getElem?_eq_getElem hk]
theorem set_sum (k : Int) (s : List Int) (i : Nat) (z : Int) : (Sg.cells ⟨k, s⟩).toArray.setIfInBounds (1 + i) (.int .u8 z) = (Sg.cells ⟨k, s.set i z⟩).toArray := by
  rw [Nat.add_comm 1 i]
  simp [Sg.cells, List.map_set]
theorem or32 (i : Nat) (x y : Int) (hx0 : 0 ≤ x) (hx : x % 2 ^ i = 0) (hx1 : x < 4294967296) (hy0 : 0 ≤ y) (hy : y < 2 ^ i) (hy1 : y < 4294967296) : bits .or .u32 x y = x + y :=
  bits_join .u32 32 (by decide) (fun n h₀ h₁ => by rw [IntKind.wrap_u32]; omega) i x y hx0 hx (by omega) hy0 hy (by omega)
theorem w32 (x : Int) (h0 : 0 ≤ x) (h1 : x < 4294967296) : IntKind.u32.wrap x = x := by rw [IntKind.wrap_u32]; omega
theorem strB_inj2 {X Y : List Int} (hX : ∀ k, 0 ≤ X.getD k 0 ∧ X.getD k 0 < 256) (hY : ∀ k, 0 ≤ Y.getD k 0 ∧ Y.getD k 0 < 256) (h : strB X = strB Y) : X = Y := by
  have h1 : X.map (fun n => UInt8.ofNat n.toNat) = Y.map (fun n => UInt8.ofNat n.toNat) := by
    have := congrArg (fun z : ByteArray => z.data.toList) h
    simpa [strB] using this
  have hl : X.length = Y.length := by have := congrArg List.length h1; simpa using this
  apply List.ext_getElem hl
  intro i a c
  have h2 := congrArg (fun z : List UInt8 => z[i]?) h1
  simp only [List.getElem?_map, List.getElem?_eq_getElem a, List.getElem?_eq_getElem c, Option.map_some, Option.some.injEq] at h2
  have h3 := congrArg UInt8.toNat h2
  rw [UInt8.toNat_ofNat', UInt8.toNat_ofNat'] at h3
  have hx := hX i
  have hy := hY i
  simp only [List.getD, List.getElem?_eq_getElem a, List.getElem?_eq_getElem c, Option.getD_some] at hx hy
  omega
set_option maxHeartbeats 16000000 in
theorem rgetB_any (v : Value) (b : List Int) (w : World) (h : Sl w v b) (hsp : ∀ x l c, v = .slice (some x) l c → 0 < c → x.spot = none) (hl : b.length ≤ 9223372036854775807) :
    Calls Tryd.prog 18 #[v] w fun e w' => ∃ v', e = .returned (.tuple #[.int .i64 (bget b).1, .int .i64 (bget b).2.1, v', .int .i64 (bget b).2.2.2]) ∧ RI w' w.heap.size v' (bget b).2.2.1 ∧ Below w.heap.size w w' := by
  have RV : Hid (∀ W, Below w.heap.size w W → Fi.Rv W v b) := fun W hb => rv_of (h.kept hb) hsp
  have HS : Hid (Sl w v b) := h
  have HBT : Bt b := h.bytes
  have HE : Hid (∀ j, (j = 0 ∨ ((gn b).2.2 = 0 ∧ 36 * j ≤ (gn b).2.1.length)) → ¬ ((gn b).2.2 = 0 ∧ 36 ≤ (gn b).2.1.length - 36 * j ∧ j ≤ 4096) →
    bget b = if Fi.dnE ((gn b).2.1.drop (36 * j)) (gn b).2.2 = 0 ∧ (bput (gz b).1 (gn b).1 (gs j (gn b).2.1)).2 = 0 ∧ (bput (gz b).1 (gn b).1 (gs j (gn b).2.1)).1 = b then ((gz b).1, (gn b).1, gs j (gn b).2.1, 0) else (0, 0, [], 4)) := fun j => rget_eq b HBT j
  have HB1 : Bt (gz b).2.1 := rN_bt b 0 4096 HBT
  have HB2 : Hid (Bt (gn b).2.1) := rN_bt (gz b).2.1 (gz b).2.2 65536 HB1
  have HLX : Hid ((gn b).2.1.length ≤ 9223372036854775807) := by
    have d : ∀ (xs : List Int) (e m : Int), (rN xs e m).2.1.length ≤ xs.length := fun xs e m => by
      unfold rN
      split
      · show (xs.drop _).length ≤ _
        rw [List.length_drop]; omega
      · exact Nat.le_refl _
    have d1 : (gn b).2.1.length ≤ (gz b).2.1.length := d _ _ _
    have d2 : (gz b).2.1.length ≤ b.length := d _ _ _
    unfold Hid
    omega
  have C1 := rvNum v b 0 4096 w (RV.out w (Below.refl _ _))
  rw [show rN b 0 4096 = gz b from rfl] at C1
  have HNQ : Hid (rN (gz b).2.1 (gz b).2.2 65536 = gn b) := rfl
  obtain ⟨va, vc, rfl, -⟩ := id h
  clear h HBT hsp HB1 hl
  generalize bget b = R0 at *
  obtain ⟨nb, hnb⟩ : ∃ nb, nb = b.length := ⟨_, rfl⟩
  rw [← hnb] at HS C1 RV ⊢
  clear hnb
  generalize gz b = qz at *
  obtain ⟨zz, zx, ze⟩ := qz
  simp only at C1 HE HNQ
  go_enter Tryd.func18, Tryd.ntmps18
  go_wp2_with fail
  refine C1.mono ?_
  rintro e w1 ⟨sv1, rfl, rv1, b1⟩
  clear C1
  have B1 : Hid (Below w.heap.size w w1) := b1
  have RV1 : Hid (∀ W, Below w.heap.size w W → Fi.Rv W sv1 zx) := fun W hb => rv1 W (RV.out W hb)
  obtain ⟨s1a, s1c, rfl⟩ := rv_shape (RV1.out w1 b1)
  obtain ⟨n1, hn1⟩ : ∃ n1, n1 = zx.length := ⟨_, rfl⟩
  rw [← hn1] at RV1 ⊢
  obtain ⟨W2, hW2⟩ : ∃ W2, W2 = w1.alloc (.cells #[.slice s1a n1 s1c, .int .i64 ze] 78) := ⟨_, rfl⟩
  have b2 : Below w1.heap.size w1 W2 := by rw [hW2]; exact al_below _ _
  have g2 : W2.heap[w1.heap.size]? = some (.cells #[.slice s1a n1 s1c, .int .i64 ze] 78 (0, 0)) := by rw [hW2]; exact heap_alloc_new _ _
  have HW2 : Hid (w1.alloc (.cells #[.slice s1a n1 s1c, .int .i64 ze] 78) = W2) := hW2.symm
  have LW : Hid (w.heap.size ≤ w1.heap.size) := b1.size
  have BW2 : Hid (Below w.heap.size w W2) := b1.trans (b2.mono b1.size)
  have B2 : Hid (Below w1.heap.size w1 W2) := b2
  have G2 : Hid (W2.heap[w1.heap.size]? = some (.cells #[.slice s1a n1 s1c, .int .i64 ze] 78 (0, 0))) := g2
  have k0 : W2.cell? ⟨w1.heap.size, 0, none⟩ = some (.slice s1a n1 s1c) := by rw [cell_of_row _ _ _ _ _ _ g2]; rfl
  have k1 : W2.cell? ⟨w1.heap.size, 1, none⟩ = some (.int .i64 ze) := by rw [cell_of_row _ _ _ _ _ _ g2]; rfl
  have C2 := rvNum _ zx ze 65536 W2 (RV1.out W2 BW2.out)
  rw [HNQ.out] at C2
  clear b1 rv1 b2 hW2 hn1 g2 HNQ
  obtain ⟨R, hR⟩ : ∃ R, R = w1.heap.size := ⟨_, rfl⟩
  have HR : Hid (R = w1.heap.size) := hR
  generalize gn b = qn at *
  obtain ⟨nn, nx, ne⟩ := qn
  simp only at C2 HE HB2 HLX
  clear hR k0 k1
  go_wp2_with fail
  rw [HW2.out]
  clear HW2
  refine C2.mono ?_
  rintro e w3 ⟨sv3, rfl, rv3, b3⟩
  clear C2
  have B3 : Hid (Below w1.heap.size w1 w3) := B2.out.trans (b3.mono B2.out.size)
  have RV3 : Hid (∀ W, Below w.heap.size w W → Fi.Rv W sv3 nx) := fun W hb => rv3 W (RV1.out W hb)
  have G3 : Hid (w3.heap[w1.heap.size]? = some (.cells #[.slice s1a n1 s1c, .int .i64 ze] 78 (0, 0))) := (b3.block _ (Array.getElem?_eq_some_iff.1 G2.out).1).trans G2.out
  obtain ⟨s3a, s3c, rfl⟩ := rv_shape (RV3.out w3 (B1.out.trans (B3.out.mono LW.out)))
  obtain ⟨n3, hn3⟩ : ∃ n3, n3 = nx.length := ⟨_, rfl⟩
  have HN3 : Hid (n3 = nx.length) := hn3
  rw [← hn3] at RV3 HLX ⊢
  clear rv3 b3 RV1 B2 G2 BW2 hn3
  obtain ⟨W4, hW4⟩ : ∃ W4, W4 = w3.setRow w1.heap.size #[.slice s3a n3 s3c, .int .i64 ne] := ⟨_, rfl⟩
  have HW4 : Hid (w3.setRow w1.heap.size #[.slice s3a n3 s3c, .int .i64 ne] = W4) := hW4.symm
  have G4 : Hid (W4.heap[w1.heap.size]? = some (.cells #[.slice s3a n3 s3c, .int .i64 ne] 78 (0, 0))) := by unfold Hid; rw [hW4]; exact setRow_heap _ _ _ _ _ _ G3.out
  have B4 : Hid (Below w1.heap.size w1 W4) := by unfold Hid; rw [hW4]; exact below_setRow B3.out (Nat.le_refl _) _
  clear hW4
  go_wp2_with (refine wpList_store_row rfl 78 _ _ rfl w1.heap.size #[.slice s3a n3 s3c, .int .i64 ne] rfl rfl 78 _ G3.out (info74 _ _) rfl ones2 (Hid.out ?_))
  unfold Hid
  rw [HW4.out]
  have L4 : Hid (w1.heap.size < W4.heap.size) := (Array.getElem?_eq_some_iff.1 G4.out).1
  rw [← HR.out] at G4 L4 ⊢
  clear HW4 G3 B3
  go_wp2_with fail
  go_loopw [9] (fun s wr => ∃ (j : Nat) (sv : Value), (j = 0 ∨ (ne = 0 ∧ 36 * j ≤ n3)) ∧ j ≤ 4097 ∧ RI wr W4.heap.size s (gs j nx) ∧ wr.heap[R]? = some (.cells #[sv, .int .i64 ne] 78 (0, 0)) ∧ (∀ W, Below w.heap.size w W → Fi.Rv W sv (nx.drop (36 * j))) ∧ Below w1.heap.size w1 wr ∧ W4.heap.size ≤ wr.heap.size) (fun s _ => match s with | .slice _ n _ => 4098 - n | _ => 0)
  case atStart => exact ⟨0, _, .inl rfl, by omega, RI.nil _ _, G4.out, RV3.out, B4.out, Nat.le_refl _⟩
  case round =>
    clear G4 RV3 B4
    obtain ⟨j, sv, h0, hj, ri, hg, rv, bel, hsz⟩ := hrel
    have HO : Hid (RI wr W4.heap.size u9 (gs j nx)) := ri
    have HG : Hid (wr.heap[R]? = some (.cells #[sv, .int .i64 ne] 78 (0, 0))) := hg
    have HV : Hid (∀ W, Below w.heap.size w W → Fi.Rv W sv (nx.drop (36 * j))) := rv
    have HB : Hid (Below w1.heap.size w1 wr) := bel
    have HZ : Hid (W4.heap.size ≤ wr.heap.size) := hsz
    have HBW : Hid (Below w.heap.size w wr) := B1.out.trans (bel.mono LW.out)
    have H0 : Hid (j = 0 ∨ (ne = 0 ∧ 36 * j ≤ n3)) := h0
    have HDL : Hid ((nx.drop (36 * j)).length = n3 - 36 * j) := by unfold Hid; rw [List.length_drop, HN3.out]
    obtain ⟨ia, ic, rfl, _, _, _⟩ := ri.is.shape
    obtain ⟨sa, sc, rfl⟩ := rv_shape (rv wr HBW.out)
    have hRl : R < wr.heap.size := (Array.getElem?_eq_some_iff.1 hg).1
    have k0 : wr.cell? ⟨R, 0, none⟩ = some (.slice sa (n3 - 36 * j) sc) := by rw [cell_of_row _ _ _ _ _ _ hg, HDL.out]; rfl
    have k1 : wr.cell? ⟨R, 1, none⟩ = some (.int .i64 ne) := by rw [cell_of_row _ _ _ _ _ _ hg]; rfl
    rw [gs_len] at HO ⊢
    rw [HDL.out] at HG HV
    clear ri hg rv bel hsz h0
    by_cases hgo : ne = 0 ∧ 36 ≤ n3 - 36 * j ∧ j ≤ 4096
    · obtain ⟨he0, h36, hj2⟩ := hgo
      subst he0
      have t36 : (36 : Int) ≤ ((n3 - 36 * j : Nat) : Int) := by omega
      have tj : (j : Int) ≤ 4096 := by omega
      have hbx : Bt (nx.drop (36 * j)) := bytes_drop _ _ HB2.out
      have HGS : Hid (gs (j + 1) nx = gs j nx ++ [cg (nx.drop (36 * j))]) := gs_succ j nx
      have HYO : Hid (Sg.ok (cg (nx.drop (36 * j)))) := cg_ok _ hbx (by rw [HDL.out]; exact h36)
      have HNX : Hid ((nx.drop (36 * j)).drop 36 = nx.drop (36 * (j + 1))) := by unfold Hid; rw [List.drop_drop]; congr 1
      have HCG : Hid (cg (nx.drop (36 * j)) = ⟨(nx.drop (36 * j)).getD 0 0 * 16777216 + (nx.drop (36 * j)).getD 1 0 * 65536 + (nx.drop (36 * j)).getD 2 0 * 256 + (nx.drop (36 * j)).getD 3 0, ((nx.drop (36 * j)).take 36).drop 4⟩) := rfl
      have HQL : Hid (((nx.drop (36 * j)).take 36).length = 36) := by unfold Hid; rw [List.length_take, HDL.out]; omega
      have HQB : Hid (∀ k, 0 ≤ ((nx.drop (36 * j)).take 36).getD k 0 ∧ ((nx.drop (36 * j)).take 36).getD k 0 < 256) := bytes_take _ _ hbx
      have HQE : Hid (∀ k, k < 36 → ((nx.drop (36 * j)).take 36).getD k 0 = (nx.drop (36 * j)).getD k 0) := fun k hk => by simp [List.getD, hk]
      have CR := rvRaw (.slice sa (n3 - 36 * j) sc) (nx.drop (36 * j)) 0 36 wr (HV.out wr HBW.out)
      have er : rR (nx.drop (36 * j)) 0 36 = ((nx.drop (36 * j)).take 36, (nx.drop (36 * j)).drop 36, 0) := by
        have := rR_app ((nx.drop (36 * j)).take 36) ((nx.drop (36 * j)).drop 36) 36 HQL.out
        rwa [List.take_append_drop] at this
      rw [er] at CR
      simp only at CR
      rw [HNX.out] at CR
      have HLJ : Hid ((gs j nx).length = j) := gs_len _ _
      clear er hbx
      generalize cg (nx.drop (36 * j)) = y at *
      generalize gs j nx = LL at *
      generalize (nx.drop (36 * j)).take 36 = Q at *
      obtain ⟨nd, hnd⟩ : ∃ nd, nd = n3 - 36 * j := ⟨_, rfl⟩
      rw [← hnd] at k0 t36 CR HG HV
      have HND : Hid (nd = n3 - 36 * j) := hnd
      have h36' : 36 ≤ nd := by rw [hnd]; exact h36
      clear hnd h36
      go_wp2_with fail
      refine CR.mono ?_
      rintro e w5 ⟨sv5, rfl, rv5, b5⟩
      clear CR k0 k1
      have RV5 : Hid (∀ W, Below w.heap.size w W → Fi.Rv W sv5 (nx.drop (36 * (j + 1)))) := fun W hb => rv5 W (HV.out W hb)
      have BW5 : Hid (Below w.heap.size w w5) := HBW.out.trans (b5.mono HBW.out.size)
      obtain ⟨s5a, s5c, rfl⟩ := rv_shape (RV5.out w5 BW5.out)
      obtain ⟨n5, hn5⟩ : ∃ n5, n5 = (nx.drop (36 * (j + 1))).length := ⟨_, rfl⟩
      rw [← hn5] at RV5 ⊢
      have G5 : Hid (w5.heap[R]? = some (.cells #[.slice sa nd sc, .int .i64 0] 78 (0, 0))) := (b5.block _ hRl).trans HG.out
      obtain ⟨W6, hW6⟩ : ∃ W6, W6 = w5.setRow R #[.slice s5a n5 s5c, .int .i64 0] := ⟨_, rfl⟩
      have HW6 : Hid (w5.setRow R #[.slice s5a n5 s5c, .int .i64 0] = W6) := hW6.symm
      have G6 : Hid (W6.heap[R]? = some (.cells #[.slice s5a n5 s5c, .int .i64 0] 78 (0, 0))) := by unfold Hid; rw [hW6]; exact setRow_heap _ _ _ _ _ _ G5.out
      have b15 : Below w1.heap.size w1 w5 := HB.out.trans (b5.mono HB.out.size)
      have B6 : Hid (Below w1.heap.size w1 W6) := by unfold Hid; rw [hW6]; exact below_setRow b15 (by rw [HR.out]; exact Nat.le_refl _) _
      have o5 := HO.out.below b5
      have O6 : Hid (RI W6 W4.heap.size (.slice ia j ic) LL) := o5.but (w' := W6) (g := R) (by rw [hW6]; exact ⟨rfl, rfl, rfl, by rw [setRow_size]; exact Nat.le_refl _, fun k hk hn => setRow_other _ _ _ _ hn⟩) (by rw [HR.out]; exact (by have := L4.out; rwa [HR.out] at this))
      have Z6 : Hid (W4.heap.size ≤ W6.heap.size) := by unfold Hid; rw [hW6, setRow_size]; exact Nat.le_trans HZ.out b5.size
      clear b5 b15 o5 rv5 hn5 hW6 HG HV HO HB HBW HZ hRl
      go_wp2_with (refine wpList_store_row rfl 78 _ _ rfl R #[.slice s5a n5 s5c, .int .i64 0] rfl rfl 78 _ G5.out (info74 _ _) rfl ones2 (Hid.out ?_))
      unfold Hid
      rw [HW6.out]
      clear HW6 G5
      have HIX : Hid (∀ (W : World) (k : Nat), k < 36 → (Instr.index 9 (.string (Fi.strB Q)) (.int .i64 (k : Int))).run Tryd.prog W = .ok (.int .u8 (Q.getD k 0)) W) := fun W k hk => run_index_sb Q HQB.out W k (by rw [HQL.out]; exact hk)
      have i0 : ∀ W, (Instr.index 9 (.string (Fi.strB Q)) (.int .i64 0)).run Tryd.prog W = .ok (.int .u8 (Q.getD 0 0)) W := fun W => HIX.out W 0 (by omega)
      have i1 : ∀ W, (Instr.index 9 (.string (Fi.strB Q)) (.int .i64 1)).run Tryd.prog W = .ok (.int .u8 (Q.getD 1 0)) W := fun W => HIX.out W 1 (by omega)
      have i2 : ∀ W, (Instr.index 9 (.string (Fi.strB Q)) (.int .i64 2)).run Tryd.prog W = .ok (.int .u8 (Q.getD 2 0)) W := fun W => HIX.out W 2 (by omega)
      have i3 : ∀ W, (Instr.index 9 (.string (Fi.strB Q)) (.int .i64 3)).run Tryd.prog W = .ok (.int .u8 (Q.getD 3 0)) W := fun W => HIX.out W 3 (by omega)
      have d0 := HQB.out 0
      have d1 := HQB.out 1
      have d2 := HQB.out 2
      have d3 := HQB.out 3
      have HYK : Hid (y = ⟨Q.getD 0 0 * 16777216 + Q.getD 1 0 * 65536 + Q.getD 2 0 * 256 + Q.getD 3 0, Q.drop 4⟩) := by
        unfold Hid
        rw [HCG.out, HQE.out 0 (by omega), HQE.out 1 (by omega), HQE.out 2 (by omega), HQE.out 3 (by omega)]
      have HXI : Hid (∀ (W : World) (k : Nat), k < 32 → (Instr.index 9 (.string (Fi.strB Q)) (.int .i64 ((4 + k : Nat) : Int))).run Tryd.prog W = .ok (.int .u8 ((Q.drop 4).getD k 0)) W) := fun W k hk => by
        have := HIX.out W (4 + k) (by omega)
        rw [this]
        simp [List.getD, List.getElem?_drop]
      have HSL : Hid ((Q.drop 4).length = 32) := by unfold Hid; rw [List.length_drop, HQL.out]
      clear HIX HCG HQE HQB HQL
      generalize Q.getD 0 0 = q0 at *
      generalize Q.getD 1 0 = q1 at *
      generalize Q.getD 2 0 = q2 at *
      generalize Q.getD 3 0 = q3 at *
      generalize Q.drop 4 = SS at *
      generalize Fi.strB Q = SQ at *
      obtain ⟨d0a, d0b⟩ := d0
      obtain ⟨d1a, d1b⟩ := d1
      obtain ⟨d2a, d2b⟩ := d2
      obtain ⟨d3a, d3b⟩ := d3
      have x0 := w32 q0 d0a (by omega)
      have x1 := w32 q1 d1a (by omega)
      have x2 := w32 q2 d2a (by omega)
      have x3 := w32 q3 d3a (by omega)
      have y0 := w32 (q0 * 16777216) (by omega) (by omega)
      have y1 := w32 (q1 * 65536) (by omega) (by omega)
      have y2 := w32 (q2 * 256) (by omega) (by omega)
      have o1 := or32 24 (q0 * 16777216) (q1 * 65536) (by omega) (by omega) (by omega) (by omega) (by omega) (by omega)
      have o2 := or32 16 (q0 * 16777216 + q1 * 65536) (q2 * 256) (by omega) (by omega) (by omega) (by omega) (by omega) (by omega)
      have o3 := or32 8 (q0 * 16777216 + q1 * 65536 + q2 * 256) q3 (by omega) (by omega) (by omega) (by omega) (by omega) (by omega)
      have HKW : Hid (Tryd.prog.built 57 [(0, .int .u32 (q0 * 16777216 + q1 * 65536 + q2 * 256 + q3))] = some (Sg.cells ⟨q0 * 16777216 + q1 * 65536 + q2 * 256 + q3, z32⟩).toArray) := builtW _
      obtain ⟨yz, hyz⟩ : ∃ yz : Sg, yz = ⟨q0 * 16777216 + q1 * 65536 + q2 * 256 + q3, z32⟩ := ⟨_, rfl⟩
      have HOZ : Hid (yz.ok) := by unfold Hid; rw [hyz]; exact ⟨z32_len, z32_bytes, by show 0 ≤ q0 * 16777216 + q1 * 65536 + q2 * 256 + q3; omega, by show q0 * 16777216 + q1 * 65536 + q2 * 256 + q3 < 4294967296; omega⟩
      rw [← hyz] at HKW
      have HYZ : Hid (yz = ⟨q0 * 16777216 + q1 * 65536 + q2 * 256 + q3, z32⟩) := hyz
      clear hyz
      go_wp2_with fail
      refine wp_region_held_drew (S := From W6) (by kernel_rfl) (Below.drew (Below.refl _ _)) (fun _ => ?_)
      refine wpAnyH_name (fun u0 hu0 => ?_)
      have bu0 : Below W6.heap.size W6 u0 := by rw [hu0.out]; exact Below.drew (Below.refl _ _)
      refine wpAnyH_take (i := 0) (oi := { dst := some 45, op := Op.move (Operand.tmp 10), type := 9, pos := "ref.go:84", after := #[], guard := none }) (v := ?vr1) rfl (by kernel_rfl) (by kernel_rfl) (by kernel_rfl) (fun _ _ _ h => h) (Or.inl ⟨by rfl, ?yr1⟩) bu0 ?rr1
      case yr1 => (intro w hSw; go_simp; try with_reducible rfl)
      try simp only [Act.put, List.setIfInBounds_toArray, List.set_cons_zero, List.set_cons_succ]
      refine wpAnyH_take (i := 1) (oi := { dst := some 46, op := Op.index 9 (Operand.tmp 45) (Operand.const (Value.int IntKind.i64 0)), type := 5, pos := "ref.go:84", after := #[{ on := 0, ground := Ground.data }], guard := none }) (v := ?vr2) rfl (by kernel_rfl) (by kernel_rfl) (by kernel_rfl) (fun _ _ _ h => h) (Or.inl ⟨by rfl, ?yr2⟩) bu0 ?rr2
      case yr2 => (intro w hSw; go_simp; try with_reducible rfl)
      try simp only [Act.put, List.setIfInBounds_toArray, List.set_cons_zero, List.set_cons_succ]
      refine wpAnyH_take (i := 2) (oi := { dst := some 47, op := Op.convert 5 44 (Operand.tmp 46), type := 44, pos := "ref.go:84", after := #[{ on := 1, ground := Ground.data }], guard := none }) (v := ?vr3) rfl (by kernel_rfl) (by kernel_rfl) (by kernel_rfl) (fun _ _ _ h => h) (Or.inl ⟨by rfl, ?yr3⟩) bu0 ?rr3
      case yr3 => (intro w hSw; go_simp; try with_reducible rfl)
      try simp only [Act.put, List.setIfInBounds_toArray, List.set_cons_zero, List.set_cons_succ]
      refine wpAnyH_take (i := 3) (oi := { dst := some 48, op := Op.binOp BinOp.shl 44 (Operand.tmp 47) (Operand.const (Value.int IntKind.u64 24)) 71, type := 44, pos := "ref.go:84", after := #[{ on := 2, ground := Ground.data }], guard := none }) (v := ?vr4) rfl (by kernel_rfl) (by kernel_rfl) (by kernel_rfl) (fun _ _ _ h => h) (Or.inl ⟨by rfl, ?yr4⟩) bu0 ?rr4
      case yr4 => (intro w hSw; go_simp; try with_reducible rfl)
      try simp only [Act.put, List.setIfInBounds_toArray, List.set_cons_zero, List.set_cons_succ]
      refine wpAnyH_take (i := 4) (oi := { dst := some 49, op := Op.move (Operand.tmp 10), type := 9, pos := "ref.go:84", after := #[], guard := none }) (v := ?vr5) rfl (by kernel_rfl) (by kernel_rfl) (by kernel_rfl) (fun _ _ _ h => h) (Or.inl ⟨by rfl, ?yr5⟩) bu0 ?rr5
      case yr5 => (intro w hSw; go_simp; try with_reducible rfl)
      try simp only [Act.put, List.setIfInBounds_toArray, List.set_cons_zero, List.set_cons_succ]
      refine wpAnyH_take (i := 5) (oi := { dst := some 50, op := Op.index 9 (Operand.tmp 49) (Operand.const (Value.int IntKind.i64 1)), type := 5, pos := "ref.go:84", after := #[{ on := 4, ground := Ground.data }], guard := none }) (v := ?vr6) rfl (by kernel_rfl) (by kernel_rfl) (by kernel_rfl) (fun _ _ _ h => h) (Or.inl ⟨by rfl, ?yr6⟩) bu0 ?rr6
      case yr6 => (intro w hSw; go_simp; try with_reducible rfl)
      try simp only [Act.put, List.setIfInBounds_toArray, List.set_cons_zero, List.set_cons_succ]
      refine wpAnyH_take (i := 6) (oi := { dst := some 51, op := Op.convert 5 44 (Operand.tmp 50), type := 44, pos := "ref.go:84", after := #[{ on := 5, ground := Ground.data }], guard := none }) (v := ?vr7) rfl (by kernel_rfl) (by kernel_rfl) (by kernel_rfl) (fun _ _ _ h => h) (Or.inl ⟨by rfl, ?yr7⟩) bu0 ?rr7
      case yr7 => (intro w hSw; go_simp; try with_reducible rfl)
      try simp only [Act.put, List.setIfInBounds_toArray, List.set_cons_zero, List.set_cons_succ]
      refine wpAnyH_take (i := 7) (oi := { dst := some 52, op := Op.binOp BinOp.shl 44 (Operand.tmp 51) (Operand.const (Value.int IntKind.u64 16)) 71, type := 44, pos := "ref.go:84", after := #[{ on := 6, ground := Ground.data }], guard := none }) (v := ?vr8) rfl (by kernel_rfl) (by kernel_rfl) (by kernel_rfl) (fun _ _ _ h => h) (Or.inl ⟨by rfl, ?yr8⟩) bu0 ?rr8
      case yr8 => (intro w hSw; go_simp; try with_reducible rfl)
      try simp only [Act.put, List.setIfInBounds_toArray, List.set_cons_zero, List.set_cons_succ]
      refine wpAnyH_take (i := 8) (oi := { dst := some 53, op := Op.binOp BinOp.or 44 (Operand.tmp 48) (Operand.tmp 52) 44, type := 44, pos := "ref.go:84", after := #[{ on := 3, ground := Ground.data }, { on := 7, ground := Ground.data }], guard := none }) (v := ?vr9) rfl (by kernel_rfl) (by kernel_rfl) (by kernel_rfl) (fun _ _ _ h => h) (Or.inl ⟨by rfl, ?yr9⟩) bu0 ?rr9
      case yr9 => (intro w hSw; go_simp; try with_reducible rfl)
      try simp only [Act.put, List.setIfInBounds_toArray, List.set_cons_zero, List.set_cons_succ]
      refine wpAnyH_take (i := 9) (oi := { dst := some 54, op := Op.move (Operand.tmp 10), type := 9, pos := "ref.go:84", after := #[], guard := none }) (v := ?vr10) rfl (by kernel_rfl) (by kernel_rfl) (by kernel_rfl) (fun _ _ _ h => h) (Or.inl ⟨by rfl, ?yr10⟩) bu0 ?rr10
      case yr10 => (intro w hSw; go_simp; try with_reducible rfl)
      try simp only [Act.put, List.setIfInBounds_toArray, List.set_cons_zero, List.set_cons_succ]
      refine wpAnyH_take (i := 10) (oi := { dst := some 55, op := Op.index 9 (Operand.tmp 54) (Operand.const (Value.int IntKind.i64 2)), type := 5, pos := "ref.go:84", after := #[{ on := 9, ground := Ground.data }], guard := none }) (v := ?vr11) rfl (by kernel_rfl) (by kernel_rfl) (by kernel_rfl) (fun _ _ _ h => h) (Or.inl ⟨by rfl, ?yr11⟩) bu0 ?rr11
      case yr11 => (intro w hSw; go_simp; try with_reducible rfl)
      try simp only [Act.put, List.setIfInBounds_toArray, List.set_cons_zero, List.set_cons_succ]
      refine wpAnyH_take (i := 11) (oi := { dst := some 56, op := Op.convert 5 44 (Operand.tmp 55), type := 44, pos := "ref.go:84", after := #[{ on := 10, ground := Ground.data }], guard := none }) (v := ?vr12) rfl (by kernel_rfl) (by kernel_rfl) (by kernel_rfl) (fun _ _ _ h => h) (Or.inl ⟨by rfl, ?yr12⟩) bu0 ?rr12
      case yr12 => (intro w hSw; go_simp; try with_reducible rfl)
      try simp only [Act.put, List.setIfInBounds_toArray, List.set_cons_zero, List.set_cons_succ]
      refine wpAnyH_take (i := 12) (oi := { dst := some 57, op := Op.binOp BinOp.shl 44 (Operand.tmp 56) (Operand.const (Value.int IntKind.u64 8)) 71, type := 44, pos := "ref.go:84", after := #[{ on := 11, ground := Ground.data }], guard := none }) (v := ?vr13) rfl (by kernel_rfl) (by kernel_rfl) (by kernel_rfl) (fun _ _ _ h => h) (Or.inl ⟨by rfl, ?yr13⟩) bu0 ?rr13
      case yr13 => (intro w hSw; go_simp; try with_reducible rfl)
      try simp only [Act.put, List.setIfInBounds_toArray, List.set_cons_zero, List.set_cons_succ]
      refine wpAnyH_take (i := 13) (oi := { dst := some 58, op := Op.binOp BinOp.or 44 (Operand.tmp 53) (Operand.tmp 57) 44, type := 44, pos := "ref.go:84", after := #[{ on := 8, ground := Ground.data }, { on := 12, ground := Ground.data }], guard := none }) (v := ?vr14) rfl (by kernel_rfl) (by kernel_rfl) (by kernel_rfl) (fun _ _ _ h => h) (Or.inl ⟨by rfl, ?yr14⟩) bu0 ?rr14
      case yr14 => (intro w hSw; go_simp; try with_reducible rfl)
      try simp only [Act.put, List.setIfInBounds_toArray, List.set_cons_zero, List.set_cons_succ]
      refine wpAnyH_take (i := 14) (oi := { dst := some 59, op := Op.move (Operand.tmp 10), type := 9, pos := "ref.go:84", after := #[], guard := none }) (v := ?vr15) rfl (by kernel_rfl) (by kernel_rfl) (by kernel_rfl) (fun _ _ _ h => h) (Or.inl ⟨by rfl, ?yr15⟩) bu0 ?rr15
      case yr15 => (intro w hSw; go_simp; try with_reducible rfl)
      try simp only [Act.put, List.setIfInBounds_toArray, List.set_cons_zero, List.set_cons_succ]
      refine wpAnyH_take (i := 15) (oi := { dst := some 60, op := Op.index 9 (Operand.tmp 59) (Operand.const (Value.int IntKind.i64 3)), type := 5, pos := "ref.go:84", after := #[{ on := 14, ground := Ground.data }], guard := none }) (v := ?vr16) rfl (by kernel_rfl) (by kernel_rfl) (by kernel_rfl) (fun _ _ _ h => h) (Or.inl ⟨by rfl, ?yr16⟩) bu0 ?rr16
      case yr16 => (intro w hSw; go_simp; try with_reducible rfl)
      try simp only [Act.put, List.setIfInBounds_toArray, List.set_cons_zero, List.set_cons_succ]
      refine wpAnyH_take (i := 16) (oi := { dst := some 61, op := Op.convert 5 44 (Operand.tmp 60), type := 44, pos := "ref.go:84", after := #[{ on := 15, ground := Ground.data }], guard := none }) (v := ?vr17) rfl (by kernel_rfl) (by kernel_rfl) (by kernel_rfl) (fun _ _ _ h => h) (Or.inl ⟨by rfl, ?yr17⟩) bu0 ?rr17
      case yr17 => (intro w hSw; go_simp; try with_reducible rfl)
      try simp only [Act.put, List.setIfInBounds_toArray, List.set_cons_zero, List.set_cons_succ]
      refine wpAnyH_take (i := 17) (oi := { dst := some 62, op := Op.binOp BinOp.or 44 (Operand.tmp 58) (Operand.tmp 61) 44, type := 44, pos := "ref.go:84", after := #[{ on := 13, ground := Ground.data }, { on := 16, ground := Ground.data }], guard := none }) (v := ?vr18) rfl (by kernel_rfl) (by kernel_rfl) (by kernel_rfl) (fun _ _ _ h => h) (Or.inl ⟨by rfl, ?yr18⟩) bu0 ?rr18
      case yr18 => (intro w hSw; go_simp; try with_reducible rfl)
      try simp only [Act.put, List.setIfInBounds_toArray, List.set_cons_zero, List.set_cons_succ]
      refine wpAnyH_take (i := 18) (oi := { dst := some 63, op := Op.build 57 #[(0, Operand.tmp 62)], type := 57, pos := "ref.go:84", after := #[{ on := 17, ground := Ground.data }], guard := none }) (v := .agg yz.cells.toArray) rfl (by kernel_rfl) (by kernel_rfl) (by kernel_rfl) (fun _ _ _ h => h) (yields_built (by rfl) 57 [(0, _)] rfl [(0, .int .u32 (q0 * 16777216 + q1 * 65536 + q2 * 256 + q3))] rfl yz.cells.toArray HKW.out) bu0 ?_
      try simp only [Act.put, List.setIfInBounds_toArray, List.set_cons_zero, List.set_cons_succ]
      refine wpAnyH_ready (rs := [19]) (by kernel_rfl) (by simp) ?_
      refine AllReadyH.cons (o := { dst := some 11, op := Op.alloc 57, type := 0, pos := "ref.go:84", after := #[], guard := none }) rfl (fun KK hKK => ?_) ?_
      · go_simp
        refine hKK.out _ _ (bu0.trans ((al_below _ _).mono bu0.size)) (fun _ => ?_)
        clear hKK KK
        try simp only [Act.put, List.setIfInBounds_toArray, List.set_cons_zero, List.set_cons_succ]
        refine wpAnyH_name (fun u20 hu20 => ?_)
        have bu20 : Below W6.heap.size W6 u20 := by rw [hu20.out]; exact (bu0.trans ((al_below _ _).mono bu0.size))
        have Gu20 : u20.heap[u0.heap.size]? = some (.cells izc 57 (0, 0)) := by rw [hu20.out]; exact new_it u0
        refine wpAnyH_ready (rs := [20]) (by kernel_rfl) (by simp) ?_
        refine AllReadyH.cons (o := { dst := none, op := Op.store 57 (Operand.tmp 11) (Operand.tmp 63), type := 0, pos := "ref.go:84", after := #[{ on := 19, ground := Ground.data }, { on := 18, ground := Ground.data }, { on := 0, ground := Ground.phase }, { on := 1, ground := Ground.phase }, { on := 2, ground := Ground.phase }, { on := 3, ground := Ground.phase }, { on := 4, ground := Ground.phase }, { on := 5, ground := Ground.phase }, { on := 6, ground := Ground.phase }, { on := 7, ground := Ground.phase }, { on := 8, ground := Ground.phase }, { on := 9, ground := Ground.phase }, { on := 10, ground := Ground.phase }, { on := 11, ground := Ground.phase }, { on := 12, ground := Ground.phase }, { on := 13, ground := Ground.phase }, { on := 14, ground := Ground.phase }, { on := 15, ground := Ground.phase }, { on := 16, ground := Ground.phase }, { on := 17, ground := Ground.phase }, { on := 18, ground := Ground.phase }, { on := 19, ground := Ground.phase }], guard := none }) rfl (fun KK hKK => ?_) ?_
        · refine wp_store_row 57 _ _ rfl u0.heap.size yz.cells.toArray rfl rfl 57 izc Gu20 (Sg.info _ HOZ.out) (izc_size.trans (Sg.size _ HOZ.out).symm) (Sg.ones _) ?_
          refine hKK.out _ _ (below_setRow bu20 bu0.size _) (fun _ => ?_)
          clear hKK KK
          try simp only [Act.put]
          refine wpAnyH_name (fun u21 hu21 => ?_)
          have bu21 : Below W6.heap.size W6 u21 := by rw [hu21.out]; exact (below_setRow bu20 bu0.size _)
          have Zu21 := setRow_heap _ _ _ yz.cells.toArray _ _ Gu20
          rw [← hu21.out] at Zu21
          refine wpAnyH_done (by kernel_rfl) ?_ _
          have XS0 : XS W6 u21 u0.heap.size ⟨q0 * 16777216 + q1 * 65536 + q2 * 256 + q3, ovk SS 0⟩ := ⟨by have := Zu21; rw [HYZ.out] at this; exact this, bu21, bu0.size⟩
          obtain ⟨XB, hXB⟩ : ∃ XB, XB = u0.heap.size := ⟨_, rfl⟩
          rw [← hXB] at XS0 ⊢
          clear hXB
          obtain ⟨W7, hW7⟩ : ∃ W7, W7 = u21 := ⟨_, rfl⟩
          rw [← hW7] at XS0 ⊢
          clear hW7
          have HX0 : Hid (XS W6 W7 XB ⟨q0 * 16777216 + q1 * 65536 + q2 * 256 + q3, ovk SS 0⟩) := XS0
          clear XS0 HKW HOZ HYZ i0 i1 i2 i3 x0 x1 x2 x3 y0 y1 y2 o1 o2 o3
          generalize q0 * 16777216 + q1 * 65536 + q2 * 256 + q3 = kk at *
          go_wp2_with fail
          obtain ⟨wo, rfl⟩ : ∃ wo, wo = wr := ⟨wr, rfl⟩
          go_loopw [12] (fun q wx => ∃ k : Nat, k ≤ 32 ∧ q = .int .i64 k ∧ XS W6 wx XB ⟨kk, ovk SS k⟩) (fun q _ => 32 - (intOf q).toNat)
          case atStart => exact ⟨0, by omega, rfl, HX0.out⟩
          case round =>
            clear HX0
            obtain ⟨k, hk, rfl, xs⟩ := hrel
            have XK : Hid (XS W6 wr XB ⟨kk, ovk SS k⟩) := xs
            clear xs
            by_cases hkl : k < 32
            · have lk2 : (k : Int) < 32 := by omega
              have lk3 : (0 : Int) ≤ (k : Int) := by omega
              have hix := HXI.out wr k hkl
              have e4 : ((4 + k : Nat) : Int) = 4 + (k : Int) := by omega
              rw [e4] at hix
              obtain ⟨xk, fzk⟩ := XK.out.cell k (by show k < (ovk SS k).length; rw [ovk_len SS k (by have := HSL.out; omega) (by have := HSL.out; omega)]; exact hkl)
              have GN : Hid (XS W6 (wr.setCell ⟨XB, 1 + k, none⟩ (.int .u8 (SS.getD k 0))) XB ⟨kk, ovk SS (k + 1)⟩) := by
                refine XK.out.set (1 + k) _ ?_
                rw [set_sum, ovk_set SS k (by have := HSL.out; omega) (by have := HSL.out; omega)]
              clear e4
              generalize SS.getD k 0 = zk at *
              go_wp2
              go_roundw
              case rel => exact ⟨k + 1, by omega, by go_num, GN.out⟩
              case measure => simp [intOf]; omega
            · obtain rfl : k = 32 := by omega
              have XY : Hid (XS W6 wr XB y) := by
                unfold Hid
                have e : ovk SS 32 = SS := by
                  unfold ovk
                  rw [List.take_of_length_le (by rw [HSL.out]; exact Nat.le_refl _), List.drop_of_length_le (by rw [z32_len]; exact Nat.le_refl _), List.append_nil]
                have := XK.out
                rw [e] at this
                rw [HYK.out]
                exact this
              have ZR : Hid (wr.rangeAt XB 0 y.cells) := IB.range XY.out.1
              have ZZ : Hid ((Tryd.prog.info? 57).map (·.size) = some y.cells.length) := sizeI.trans (by rw [Sg.len HYO.out])
              have lk2 : ¬ ((32 : Nat) : Int) < 32 := by omega
              clear XK
              go_wp2_with (refine wpList_load_mid rfl 57 _ rfl XB 0 rfl y.cells _ ZR.out Tryd.underlying57 rfl ZZ.out (Hid.out ?_))
              unfold Hid
              obtain ⟨V8, hV8⟩ : ∃ V8, V8 = wr.alloc (.cells y.cells.toArray 57) := ⟨_, rfl⟩
              have c8 : Below wr.heap.size wr V8 := by rw [hV8]; exact al_below _ _
              have b68 : Below W6.heap.size W6 V8 := XY.out.2.1.trans (c8.mono XY.out.2.1.size)
              have R8 : Hid (RI V8 W4.heap.size (.slice ia j ic) LL) := O6.out.below b68
              have K8 : Hid (V8.rangeAt wr.heap.size 0 y.cells) := by unfold Hid; rw [hV8]; exact (IB.new wr y).range
              have G8 : Hid (V8.heap[R]? = some (.cells #[.slice s5a n5 s5c, .int .i64 0] 78 (0, 0))) := (b68.block _ (Array.getElem?_eq_some_iff.1 G6.out).1).trans G6.out
              have D8 : Hid (Below w1.heap.size w1 V8) := B6.out.trans (b68.mono B6.out.size)
              have Z8 : Hid (W4.heap.size ≤ V8.heap.size) := Nat.le_trans Z6.out b68.size
              go_wp2_with (refine wpList_bsI rfl _ rfl y HYO.out rfl (Hid.out ?_))
              unfold Hid
              rw [← hV8]
              clear hV8 c8 b68 ZR ZZ XY
              go_wp2_with (at_builtin; refine wpList_append_it rfl _ _ rfl W4.heap.size _ LL rfl R8.out wr.heap.size y 1 HYO.out rfl K8.out (by rw [HLJ.out]; omega) Z8.out (Hid.out ?_))
              unfold Hid
              intro v9 w9 r9 g9
              have c9 : Below W4.heap.size V8 w9 := (Below.refl W4.heap.size V8).grown g9 Z8.out (own_base R8.out.1)
              have O9 : Hid (RI w9 W4.heap.size v9 (gs (j + 1) nx)) := by unfold Hid; rw [HGS.out]; exact r9
              have E9 : Hid (w9.heap[R]? = some (.cells #[.slice s5a n5 s5c, .int .i64 0] 78 (0, 0))) := (c9.block _ L4.out).trans G8.out
              have D9 : Hid (Below w1.heap.size w1 w9) := D8.out.trans (c9.mono (by have := L4.out; have := HR.out; omega))
              have Z9 : Hid (W4.heap.size ≤ w9.heap.size) := Nat.le_trans Z8.out c9.size
              obtain ⟨a9, c9', e9, -⟩ := O9.out.is.shape
              rw [gs_len] at e9
              subst e9
              clear r9 g9 c9 R8 K8 G8 D8 Z8
              go_wp2
              go_roundw
              case rel => exact ⟨j + 1, _, .inr ⟨trivial, by have := HND.out; omega⟩, by omega, O9.out, E9.out, RV5.out, D9.out, Z9.out⟩
              case measure => simp; omega
        exact AllReadyH.nil
      exact AllReadyH.nil
    · have hgo2 := hgo
      have HEE : Hid (R0 = if Fi.dnE (nx.drop (36 * j)) ne = 0 ∧ (bput zz nn (gs j nx)).2 = 0 ∧ (bput zz nn (gs j nx)).1 = b then (zz, nn, gs j nx, 0) else (0, 0, [], 4)) := HE.out j (by rw [← HN3.out]; exact H0.out) (by rw [← HN3.out]; exact hgo2)
      have CP := rput_any zz nn (.slice ia j ic) (gs j nx) wr HO.out.is (by rw [gs_len]; omega)
      have HOW : Hid (RI wr w.heap.size (.slice ia j ic) (gs j nx)) := HO.out.mono (Nat.le_trans LW.out (by have := L4.out; have := HR.out; omega))
      have CD : Hid (∀ W, Calls Tryd.prog 44 #[.agg #[.slice sa (n3 - 36 * j) sc, .int .i64 ne]] W fun r w' => r = .returned (.int .i64 (Fi.dnE (nx.drop (36 * j)) ne)) ∧ Below W.heap.size W w') := fun W => by
        have := Fi.rdone_any sa sc (nx.drop (36 * j)) ne W (by rw [HDL.out]; have := HLX.out; omega)
        rwa [HDL.out] at this
      clear HE HO HV HB HZ H0 hgo2
      generalize Fi.dnE (nx.drop (36 * j)) ne = dd at *
      generalize gs j nx = LL at *
      generalize bput zz nn LL = P at *
      obtain ⟨pb, pe⟩ := P
      simp only at CP HEE
      obtain ⟨nd, hnd⟩ : ∃ nd, nd = n3 - 36 * j := ⟨_, rfl⟩
      rw [← hnd] at k0 HG CD hgo
      clear hnd HDL
      by_cases hne : ne = 0
      · subst hne
        by_cases h36 : 36 ≤ nd
        · have t36 : (36 : Int) ≤ (nd : Int) := by omega
          have tj : ¬ (j : Int) ≤ 4096 := by omega
          clear hgo
          go_wp2_with fail
          refine CP.mono ?_
          rintro e w6 ⟨v6, rfl, o6, b6⟩
          clear CP k0 k1
          have B6 : Hid (Below w.heap.size w w6) := HBW.out.trans (b6.mono HBW.out.size)
          have R6 : Hid (RI w6 w.heap.size (.slice ia j ic) LL) := HOW.out.below b6
          have G6 := (b6.block _ hRl).trans HG.out
          have k0 : w6.cell? ⟨R, 0, none⟩ = some (.slice sa nd sc) := by rw [cell_of_row _ _ _ _ _ _ G6]; rfl
          have k1 : w6.cell? ⟨R, 1, none⟩ = some (.int .i64 0) := by rw [cell_of_row _ _ _ _ _ _ G6]; rfl
          have SP : Hid (Sl w6 v6 pb) := o6.sl
          have OB6 : Hid (∀ k, 0 ≤ pb.getD k 0 ∧ pb.getD k 0 < 256) := o6.2
          obtain ⟨pa, pc, rfl⟩ := o6.shape
          have cd := CD.out w6
          generalize pb.length = np at *
          clear o6 b6 HOW HBW G6 hRl HG CD
          go_wp2_with fail
          refine cd.mono ?_
          rintro e w7 ⟨rfl, b7⟩
          clear cd k0 k1
          have B7 : Hid (Below w.heap.size w w7) := B6.out.trans (b7.mono B6.out.size)
          have R7 : Hid (RI w7 w.heap.size (.slice ia j ic) LL) := R6.out.below b7
          have cv1 := (SP.out.kept b7).conv
          have cv2 := (HS.out.kept B7.out).conv
          clear b7 B6 R6 SP
          by_cases hdd : dd = 0
          · subst hdd
            have hd0 : ((0 : Int) != 0) = false := by simp
            by_cases hpe : pe = 0
            · subst hpe
              by_cases hq : pb = b
              · have HRE : Hid (R0 = (zz, nn, LL, 0)) := by unfold Hid; have := HEE.out; rwa [if_pos ⟨rfl, rfl, hq⟩] at this
                subst hq
                have t3 : ((strB pb).toList == (strB pb).toList) = true := by simp
                have t3b : ((strB pb).toList != (strB pb).toList) = false := by simp
                generalize strB pb = SR at *
                clear HEE
                go_wp2
                ((try simp only [Exit.inBlock, Exit.then]); refine bodyPost_ret (results_tmp4 rfl _ _ _) rfl ?_)
                exact ⟨.slice ia j ic, by rw [HRE.out]; rfl, by rw [HRE.out]; exact R7.out, B7.out⟩
              · have HRE : Hid (R0 = (0, 0, [], 4)) := by unfold Hid; have := HEE.out; rwa [if_neg (fun h => hq h.2.2)] at this
                have t3 : ((strB pb).toList == (strB b).toList) = false := by rw [strB_beq OB6.out HS.out.bytes]; simpa using hq
                have t3b : ((strB pb).toList != (strB b).toList) = true := by rw [bne, t3]; rfl
                generalize strB pb = SR at *
                generalize strB b = SB at *
                clear HEE hq
                go_wp2
                ((try simp only [Exit.inBlock, Exit.then]); refine bodyPost_ret (results_tmp4 rfl _ _ _) rfl ?_)
                exact ⟨.slice none 0 0, by rw [HRE.out]; rfl, by rw [HRE.out]; exact RI.nil _ _, B7.out⟩
            · have HRE : Hid (R0 = (0, 0, [], 4)) := by unfold Hid; have := HEE.out; rwa [if_neg (fun h => hpe h.2.1)] at this
              have t0 : (pe != 0) = true := by simpa using hpe
              clear HEE cv1 cv2
              go_wp2
              ((try simp only [Exit.inBlock, Exit.then]); refine bodyPost_ret (results_tmp4 rfl _ _ _) rfl ?_)
              exact ⟨.slice none 0 0, by rw [HRE.out]; rfl, by rw [HRE.out]; exact RI.nil _ _, B7.out⟩
          · have HRE : Hid (R0 = (0, 0, [], 4)) := by unfold Hid; have := HEE.out; rwa [if_neg (fun h => hdd h.1)] at this
            have t0 : (dd != 0) = true := by simpa using hdd
            clear HEE cv1 cv2
            go_wp2
            ((try simp only [Exit.inBlock, Exit.then]); refine bodyPost_ret (results_tmp4 rfl _ _ _) rfl ?_)
            exact ⟨.slice none 0 0, by rw [HRE.out]; rfl, by rw [HRE.out]; exact RI.nil _ _, B7.out⟩
        · have t36 : ¬ (36 : Int) ≤ (nd : Int) := by omega
          clear hgo
          go_wp2_with fail
          refine CP.mono ?_
          rintro e w6 ⟨v6, rfl, o6, b6⟩
          clear CP k0 k1
          have B6 : Hid (Below w.heap.size w w6) := HBW.out.trans (b6.mono HBW.out.size)
          have R6 : Hid (RI w6 w.heap.size (.slice ia j ic) LL) := HOW.out.below b6
          have G6 := (b6.block _ hRl).trans HG.out
          have k0 : w6.cell? ⟨R, 0, none⟩ = some (.slice sa nd sc) := by rw [cell_of_row _ _ _ _ _ _ G6]; rfl
          have k1 : w6.cell? ⟨R, 1, none⟩ = some (.int .i64 0) := by rw [cell_of_row _ _ _ _ _ _ G6]; rfl
          have SP : Hid (Sl w6 v6 pb) := o6.sl
          have OB6 : Hid (∀ k, 0 ≤ pb.getD k 0 ∧ pb.getD k 0 < 256) := o6.2
          obtain ⟨pa, pc, rfl⟩ := o6.shape
          have cd := CD.out w6
          generalize pb.length = np at *
          clear o6 b6 HOW HBW G6 hRl HG CD
          go_wp2_with fail
          refine cd.mono ?_
          rintro e w7 ⟨rfl, b7⟩
          clear cd k0 k1
          have B7 : Hid (Below w.heap.size w w7) := B6.out.trans (b7.mono B6.out.size)
          have R7 : Hid (RI w7 w.heap.size (.slice ia j ic) LL) := R6.out.below b7
          have cv1 := (SP.out.kept b7).conv
          have cv2 := (HS.out.kept B7.out).conv
          clear b7 B6 R6 SP
          by_cases hdd : dd = 0
          · subst hdd
            have hd0 : ((0 : Int) != 0) = false := by simp
            by_cases hpe : pe = 0
            · subst hpe
              by_cases hq : pb = b
              · have HRE : Hid (R0 = (zz, nn, LL, 0)) := by unfold Hid; have := HEE.out; rwa [if_pos ⟨rfl, rfl, hq⟩] at this
                subst hq
                have t3 : ((strB pb).toList == (strB pb).toList) = true := by simp
                have t3b : ((strB pb).toList != (strB pb).toList) = false := by simp
                generalize strB pb = SR at *
                clear HEE
                go_wp2
                ((try simp only [Exit.inBlock, Exit.then]); refine bodyPost_ret (results_tmp4 rfl _ _ _) rfl ?_)
                exact ⟨.slice ia j ic, by rw [HRE.out]; rfl, by rw [HRE.out]; exact R7.out, B7.out⟩
              · have HRE : Hid (R0 = (0, 0, [], 4)) := by unfold Hid; have := HEE.out; rwa [if_neg (fun h => hq h.2.2)] at this
                have t3 : ((strB pb).toList == (strB b).toList) = false := by rw [strB_beq OB6.out HS.out.bytes]; simpa using hq
                have t3b : ((strB pb).toList != (strB b).toList) = true := by rw [bne, t3]; rfl
                generalize strB pb = SR at *
                generalize strB b = SB at *
                clear HEE hq
                go_wp2
                ((try simp only [Exit.inBlock, Exit.then]); refine bodyPost_ret (results_tmp4 rfl _ _ _) rfl ?_)
                exact ⟨.slice none 0 0, by rw [HRE.out]; rfl, by rw [HRE.out]; exact RI.nil _ _, B7.out⟩
            · have HRE : Hid (R0 = (0, 0, [], 4)) := by unfold Hid; have := HEE.out; rwa [if_neg (fun h => hpe h.2.1)] at this
              have t0 : (pe != 0) = true := by simpa using hpe
              clear HEE cv1 cv2
              go_wp2
              ((try simp only [Exit.inBlock, Exit.then]); refine bodyPost_ret (results_tmp4 rfl _ _ _) rfl ?_)
              exact ⟨.slice none 0 0, by rw [HRE.out]; rfl, by rw [HRE.out]; exact RI.nil _ _, B7.out⟩
          · have HRE : Hid (R0 = (0, 0, [], 4)) := by unfold Hid; have := HEE.out; rwa [if_neg (fun h => hdd h.1)] at this
            have t0 : (dd != 0) = true := by simpa using hdd
            clear HEE cv1 cv2
            go_wp2
            ((try simp only [Exit.inBlock, Exit.then]); refine bodyPost_ret (results_tmp4 rfl _ _ _) rfl ?_)
            exact ⟨.slice none 0 0, by rw [HRE.out]; rfl, by rw [HRE.out]; exact RI.nil _ _, B7.out⟩
      · have tne : (ne == 0) = false := by simpa using hne
        clear hgo
        go_wp2_with fail
        refine CP.mono ?_
        rintro e w6 ⟨v6, rfl, o6, b6⟩
        clear CP k0 k1
        have B6 : Hid (Below w.heap.size w w6) := HBW.out.trans (b6.mono HBW.out.size)
        have R6 : Hid (RI w6 w.heap.size (.slice ia j ic) LL) := HOW.out.below b6
        have G6 := (b6.block _ hRl).trans HG.out
        have k0 : w6.cell? ⟨R, 0, none⟩ = some (.slice sa nd sc) := by rw [cell_of_row _ _ _ _ _ _ G6]; rfl
        have k1 : w6.cell? ⟨R, 1, none⟩ = some (.int .i64 ne) := by rw [cell_of_row _ _ _ _ _ _ G6]; rfl
        have SP : Hid (Sl w6 v6 pb) := o6.sl
        have OB6 : Hid (∀ k, 0 ≤ pb.getD k 0 ∧ pb.getD k 0 < 256) := o6.2
        obtain ⟨pa, pc, rfl⟩ := o6.shape
        have cd := CD.out w6
        generalize pb.length = np at *
        clear o6 b6 HOW HBW G6 hRl HG CD
        go_wp2_with fail
        refine cd.mono ?_
        rintro e w7 ⟨rfl, b7⟩
        clear cd k0 k1
        have B7 : Hid (Below w.heap.size w w7) := B6.out.trans (b7.mono B6.out.size)
        have R7 : Hid (RI w7 w.heap.size (.slice ia j ic) LL) := R6.out.below b7
        have cv1 := (SP.out.kept b7).conv
        have cv2 := (HS.out.kept B7.out).conv
        clear b7 B6 R6 SP
        by_cases hdd : dd = 0
        · subst hdd
          have hd0 : ((0 : Int) != 0) = false := by simp
          by_cases hpe : pe = 0
          · subst hpe
            by_cases hq : pb = b
            · have HRE : Hid (R0 = (zz, nn, LL, 0)) := by unfold Hid; have := HEE.out; rwa [if_pos ⟨rfl, rfl, hq⟩] at this
              subst hq
              have t3 : ((strB pb).toList == (strB pb).toList) = true := by simp
              have t3b : ((strB pb).toList != (strB pb).toList) = false := by simp
              generalize strB pb = SR at *
              clear HEE
              go_wp2
              ((try simp only [Exit.inBlock, Exit.then]); refine bodyPost_ret (results_tmp4 rfl _ _ _) rfl ?_)
              exact ⟨.slice ia j ic, by rw [HRE.out]; rfl, by rw [HRE.out]; exact R7.out, B7.out⟩
            · have HRE : Hid (R0 = (0, 0, [], 4)) := by unfold Hid; have := HEE.out; rwa [if_neg (fun h => hq h.2.2)] at this
              have t3 : ((strB pb).toList == (strB b).toList) = false := by rw [strB_beq OB6.out HS.out.bytes]; simpa using hq
              have t3b : ((strB pb).toList != (strB b).toList) = true := by rw [bne, t3]; rfl
              generalize strB pb = SR at *
              generalize strB b = SB at *
              clear HEE hq
              go_wp2
              ((try simp only [Exit.inBlock, Exit.then]); refine bodyPost_ret (results_tmp4 rfl _ _ _) rfl ?_)
              exact ⟨.slice none 0 0, by rw [HRE.out]; rfl, by rw [HRE.out]; exact RI.nil _ _, B7.out⟩
          · have HRE : Hid (R0 = (0, 0, [], 4)) := by unfold Hid; have := HEE.out; rwa [if_neg (fun h => hpe h.2.1)] at this
            have t0 : (pe != 0) = true := by simpa using hpe
            clear HEE cv1 cv2
            go_wp2
            ((try simp only [Exit.inBlock, Exit.then]); refine bodyPost_ret (results_tmp4 rfl _ _ _) rfl ?_)
            exact ⟨.slice none 0 0, by rw [HRE.out]; rfl, by rw [HRE.out]; exact RI.nil _ _, B7.out⟩
        · have HRE : Hid (R0 = (0, 0, [], 4)) := by unfold Hid; have := HEE.out; rwa [if_neg (fun h => hdd h.1)] at this
          have t0 : (dd != 0) = true := by simpa using hdd
          clear HEE cv1 cv2
          go_wp2
          ((try simp only [Exit.inBlock, Exit.then]); refine bodyPost_ret (results_tmp4 rfl _ _ _) rfl ?_)
          exact ⟨.slice none 0 0, by rw [HRE.out]; rfl, by rw [HRE.out]; exact RI.nil _ _, B7.out⟩
end Go.Proofs.YtjiefndjgkhcjaaDoor
