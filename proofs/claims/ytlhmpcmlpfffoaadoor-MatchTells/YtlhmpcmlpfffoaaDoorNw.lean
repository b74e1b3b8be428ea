/-
  What New answers.
-/
import Derived.Test.YtlhmpcmlpfffoaaDoorAd
import Derived.Test.YtlhmpcmlpfffoaaDoorBz
namespace Go.Proofs.YtlhmpcmlpfffoaaDoor
open Go.RowKit Go.Maps
set_option maxRecDepth 100000

/-- The empty index. -/
theorem IX.new (w : World) (z N : Int) : IX ((w.alloc (.map #[] 0)).alloc (.cells #[.int .i64 z, .int .i64 N, .map (some w.heap.size)] 70)) w.heap.size (w.heap.size + 1) w.heap.size z N [] := by
  refine ⟨0, ?_, by omega, Nat.le_refl _, fun _ => none, fun _ => 0, (MP.made _ _ _).kept (al_below _ _), fun k => rfl, fun k hk => by simp [wk] at hk⟩
  have := heap_alloc_new (w.alloc (.map #[] 0)) (.cells #[.int .i64 z, .int .i64 N, .map (some w.heap.size)] 70)
  rwa [show (w.alloc (.map #[] 0)).heap.size = w.heap.size + 1 by simp] at this
/-- What New hands back. -/
def NX (w w' : World) (v : Value) (z n : Int) (l : List Sg) : Prop := if chk z n l.length = 0 then ∃ g m, v = .pointer (some ⟨g, 0, none⟩) ∧ IX w' w.heap.size g m z l.length l else v = .pointer none
set_option maxHeartbeats 4000000 in
theorem new_any (z n : Int) (v : Value) (l : List Sg) (w : World) (h : GS w v l) (hl : l.length ≤ 100000) :
    Calls Tryd.prog 15 #[.int .i64 z, .int .i64 n, v] w fun e w' => ∃ v', e = .returned (.tuple #[v', .int .i64 (chk z n l.length)]) ∧ NX w w' v' z n l ∧ Below w.heap.size w w' := by
  obtain ⟨a, c, rfl, h2, h3, h4⟩ := h.shape
  have CK := check_any z n a l.length c w (by omega)
  have HS : Hid (GS w (.slice a l.length c) l) := h
  have HOK : Hid (∀ x ∈ l, x.ok) := h.ok
  have HX : Hid (∀ w' v', NX w w' v' z n l = if chk z n l.length = 0 then ∃ g m, v' = .pointer (some ⟨g, 0, none⟩) ∧ IX w' w.heap.size g m z l.length l else v' = .pointer none) := fun _ _ => rfl
  have HZ : Hid (chk z n l.length = 0 → 1 ≤ z ∧ z ≤ 4096 ∧ l.length ≤ 4096) := fun hc => by
    unfold chk at hc
    split at hc
    · cases hc
    · split at hc
      · cases hc
      · split at hc
        · cases hc
        · omega
  obtain ⟨L, hL⟩ : ∃ L, L = l.length := ⟨_, rfl⟩
  have HL : Hid (L = l.length) := hL
  rw [← hL] at CK HS HX HZ hl h2 ⊢
  clear h hL h3 h4
  generalize NX w = Nx at *
  generalize chk z n L = k at *
  by_cases hk : k = 0
  · subst hk
    obtain ⟨z1, z2, l1⟩ := HZ.out rfl
    obtain ⟨zn, rfl⟩ : ∃ zn : Nat, z = zn := ⟨z.toNat, by omega⟩
    have HXX : Hid (∀ w' g m, IX w' w.heap.size g m zn L l → Nx w' (.pointer (some ⟨g, 0, none⟩)) zn n l) := fun w' g m hi => by
      rw [HX.out, if_pos rfl]
      exact ⟨g, m, rfl, hi⟩
    have hmm := @run_makeMap Tryd.prog
    obtain ⟨W2, hW2⟩ : ∃ W2, W2 = (w.alloc (.map #[] 0)).alloc (.cells #[.int .i64 (zn : Int), .int .i64 (L : Int), .map (some w.heap.size)] 70) := ⟨_, rfl⟩
    have I2 : Hid (IX W2 w.heap.size (w.heap.size + 1) w.heap.size zn L (l.take 0)) := by unfold Hid; rw [hW2]; exact IX.new w zn L
    have B2 : Hid (Below w.heap.size w W2) := by unfold Hid; rw [hW2]; exact (al_below _ _).trans ((al_below _ _).mono (al_below _ _).size)
    clear HX HZ
    go_enter Tryd.func15, Tryd.ntmps15
    go_wp2_with fail
    refine CK.mono ?_
    rintro e w1 ⟨rfl, hq⟩
    replace hq := hq.symm
    subst hq
    clear CK
    go_wp2_with fail
    try rw [← hW2]
    clear hW2 hmm
    go_loopw [27] (fun q wr => ∃ j : Nat, j ≤ L ∧ q = .int .i64 j ∧ IX wr w.heap.size (w.heap.size + 1) w.heap.size zn L (l.take j) ∧ Below w.heap.size w wr) (fun q _ => L - (intOf q).toNat)
    case atStart => exact ⟨0, by omega, rfl, I2.out, B2.out⟩
    case round =>
      clear I2 B2
      obtain ⟨j, hj, rfl, ix, bel⟩ := hrel
      have HB : Hid (Below w.heap.size w wr) := bel
      have HI : Hid (IX wr w.heap.size (w.heap.size + 1) w.heap.size zn L (l.take j)) := ix
      clear bel ix
      by_cases hlt : j < L
      · have lt2 : (j : Int) < (L : Int) := by omega
        obtain ⟨b, off, rfl, hr⟩ := (HS.out.kept HB.out).at j (by rw [← HL.out]; exact hlt)
        have hx : (atI l j).ok := Sg.at l HOK.out j
        have HT : Hid (l.take (j + 1) = l.take j ++ [atI l j]) := takeI_at l j (by rw [← HL.out]; exact hlt)
        have HTL : Hid (((l.take j).length : Int) = (j : Int)) := by unfold Hid; rw [List.length_take, ← HL.out]; omega
        generalize atI l j = x at *
        have RN : Hid (wr.rangeAt b (off + j * 33) x.cells) := hr
        have HZ : Hid ((Tryd.prog.info? 57).map (·.size) = some x.cells.length) := sizeI.trans (by rw [Sg.len hx])
        have HI2 : Hid ((Tryd.prog.info? 57).map (·.size) = some x.cells.toArray.size) := Sg.info x hx
        have HE : Hid (izc.size = x.cells.toArray.size) := izc_size.trans (Sg.size x hx).symm
        obtain ⟨W1, hW1⟩ : ∃ W1, W1 = wr.alloc (.cells x.cells.toArray 57) := ⟨_, rfl⟩
        have b1 : Below wr.heap.size wr W1 := by rw [hW1]; exact al_below _ _
        have R1 : Hid (W1.rangeAt wr.heap.size 0 x.cells) := by unfold Hid; rw [hW1]; exact (IB.new wr x).range
        have B1 : Hid (Below w.heap.size w W1) := HB.out.trans (b1.mono HB.out.size)
        have CO := add_any W1 w.heap.size (w.heap.size + 1) w.heap.size zn L (l.take j) (IX.kept HI.out b1) x hx B1.out.size
        rw [HTL.out, ← HT.out] at CO
        have e1 := alloc_it wr x
        rw [← hW1] at e1
        have HE1 : Hid ((wr.alloc (.cells #[.int .u32 0, .int .u8 0, .int .u8 0, .int .u8 0, .int .u8 0, .int .u8 0, .int .u8 0, .int .u8 0, .int .u8 0, .int .u8 0, .int .u8 0, .int .u8 0, .int .u8 0, .int .u8 0, .int .u8 0, .int .u8 0, .int .u8 0, .int .u8 0, .int .u8 0, .int .u8 0, .int .u8 0, .int .u8 0, .int .u8 0, .int .u8 0, .int .u8 0, .int .u8 0, .int .u8 0, .int .u8 0, .int .u8 0, .int .u8 0, .int .u8 0, .int .u8 0, .int .u8 0] 57)).setRow wr.heap.size x.cells.toArray = W1) := e1
        have H1 : Hid (∀ v ∈ x.cells, v.oneCell' = true) := Sg.one x
        clear b1 hr hx e1 hW1 HI
        have m0 : (j : Int) * (zn : Int) ≤ 100000 * 4096 := Int.mul_le_mul (by omega) z2 (by omega) (by omega)
        have m1 : 0 ≤ (j : Int) * (zn : Int) := Int.mul_nonneg (by omega) (by omega)
        unfold Sg.val at CO
        generalize hat : (j : Int) * (zn : Int) = at' at *
        generalize x.cells = cs at *
        go_wp2_with (refine wpList_load_mid rfl 57 _ rfl b (off + j * 33) rfl cs _ RN.out Tryd.underlying57 rfl HZ.out (Hid.out ?_))
        unfold Hid
        go_wp2_with (refine wpList_store_row rfl 57 _ _ rfl wr.heap.size cs.toArray rfl rfl 57 izc (new_it wr) HI2.out HE.out (all_oneCell_toArray H1.out) (Hid.out ?_))
        unfold Hid
        rw [HE1.out]
        go_wp2_with (refine wpList_load_mid rfl 57 _ rfl wr.heap.size 0 rfl cs _ R1.out Tryd.underlying57 rfl HZ.out (Hid.out ?_))
        unfold Hid
        go_wp2_with fail
        refine CO.mono ?_
        rintro e w3 ⟨rfl, ix3, b3⟩
        clear CO
        have I3 : Hid (IX w3 w.heap.size (w.heap.size + 1) w.heap.size zn L (l.take (j + 1))) := ix3
        have B3 : Hid (Below w.heap.size w w3) := B1.out.trans b3
        clear ix3 b3 B1 R1 RN HE1
        go_wp2
        go_roundw
        case rel => exact ⟨j + 1, by omega, by go_num, I3.out, B3.out⟩
        case measure => simp [intOf]; omega
      · obtain rfl : j = L := by omega
        have HZ : Hid (Nx wr (.pointer (some ⟨w.heap.size + 1, 0, none⟩)) zn n l) := HXX.out _ _ _ (by have := HI.out; rwa [HL.out, List.take_length, ← HL.out] at this)
        clear HI
        go_wp2
        go_ret2
        exact ⟨_, rfl, HZ.out, HB.out⟩
  · have hk2 : (k != 0) = true := by simpa using hk
    have HZZ : Hid (Nx w (.pointer none) z n l) := by unfold Hid; rw [HX.out, if_neg hk]
    clear HX HZ hk
    go_enter Tryd.func15, Tryd.ntmps15
    go_wp2_with fail
    refine CK.mono ?_
    rintro e w1 ⟨rfl, hq⟩
    replace hq := hq.symm
    subst hq
    clear CK
    go_wp2
    go_ret2
    exact ⟨_, rfl, HZZ.out, Below.refl _ _⟩
end Go.Proofs.YtlhmpcmlpfffoaaDoor
