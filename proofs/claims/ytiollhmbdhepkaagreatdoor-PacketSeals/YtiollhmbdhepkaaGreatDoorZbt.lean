/-
  Stage 19's own small play.
  What the statements of layer 18 share: the listed tables give the walks what they read; what came in.
  What the statements of layer 19 share: a packet of the document's in a block, rows of noughts, sums by value.
-/
import Derived.Test.YtiollhmbdhepkaaGreatDoorZbs
import Derived.Deep.Matrix
import Derived.Test.YtiollhmbdhepkaaGreatDoorTie
import Derived.Test.YtiollhmbdhepkaaGreatDoorCards
import Derived.Carry
import Derived.ChangeMaps5
import Derived.ChangeOld
import Derived.ChangeSame
import Derived.Deep.DeepHandedRow
import Derived.Deep.SlicePairs
import Derived.Deep.Slices
import Derived.Deep.Strs
import Derived.LaidLaws
import Derived.Lib.LaidTab
import Derived.Lib.SmallJoins
import Derived.OpenShut
import Derived.ProofKit
import Derived.Shelf.Vars
import Derived.SizedLaws
import Derived.Stop.LaidErr
import Derived.Test.YtiollhmbdhepkaaGreatDoorZbo
import Derived.Test.YtiollhmbdhepkaaGreatDoorZar
import Derived.Laws.OwnMore
namespace Go.Proofs.YtiollhmbdhepkaaGreatDoor
open Go.RowKit Go.Proofs.YtiollhmbdhepkaaGreatDoor.Sh
set_option maxRecDepth 100000

def oneK : List Int := 1 :: List.replicate 31 0
theorem str_153 : strB [1, 5, 3, 1] = ⟨#[1, 5, 3, 1]⟩ := by decide
set_option maxHeartbeats 16000000 in
theorem pawake_any (w : World) (ht : Tb w) (hm : Mc.Tabs w) : Calls Tryz.prog 18 #[] w fun e w' => e = .returned (.bool true) ∧ Below w.heap.size w w' := by
  obtain ⟨W1, hW1⟩ : ∃ W1, W1 = w.alloc (.cells #[.iface 93 (.agg #[])] 29) := ⟨_, rfl⟩
  have b1 : Below w.heap.size w W1 := by rw [hW1]; exact al_below _ _
  have HB1 : Hid (Below w.heap.size w W1) := b1
  have HT : Hid (Tb w) := ht
  have HM : Hid (Mc.Tabs w) := hm
  have HKL : Hid (oneK.length = 32) := rfl
  have HKB : Hid (Pl.Byt oneK) := byteList _ (by decide)
  have cp := ppack_any 1 5 3 _ [pingF] W1 w.heap.size (ht.next b1) (by decide) (by rw [hW1]; exact RF.ping w _ (Nat.le_refl _)) (fun p hp => by rw [List.mem_singleton.1 hp]; exact ping_fg) (by decide) (fun p hp sv w h1 h2 h3 => by obtain rfl := List.mem_singleton.1 hp; exact putP_any sv w h1 h2 h3)
  rw [pk_153.1, pk_153.2] at cp
  simp only at cp
  have hku : u8s oneK = #[Value.int IntKind.u8 1, Value.int IntKind.u8 0, Value.int IntKind.u8 0, Value.int IntKind.u8 0, Value.int IntKind.u8 0, Value.int IntKind.u8 0, Value.int IntKind.u8 0, Value.int IntKind.u8 0, Value.int IntKind.u8 0, Value.int IntKind.u8 0, Value.int IntKind.u8 0, Value.int IntKind.u8 0, Value.int IntKind.u8 0, Value.int IntKind.u8 0, Value.int IntKind.u8 0, Value.int IntKind.u8 0, Value.int IntKind.u8 0, Value.int IntKind.u8 0, Value.int IntKind.u8 0, Value.int IntKind.u8 0, Value.int IntKind.u8 0, Value.int IntKind.u8 0, Value.int IntKind.u8 0, Value.int IntKind.u8 0, Value.int IntKind.u8 0, Value.int IntKind.u8 0, Value.int IntKind.u8 0, Value.int IntKind.u8 0, Value.int IntKind.u8 0, Value.int IntKind.u8 0, Value.int IntKind.u8 0, Value.int IntKind.u8 0] := by rfl
  clear ht hm b1
  have HKU : Hid (u8s oneK = #[Value.int IntKind.u8 1, Value.int IntKind.u8 0, Value.int IntKind.u8 0, Value.int IntKind.u8 0, Value.int IntKind.u8 0, Value.int IntKind.u8 0, Value.int IntKind.u8 0, Value.int IntKind.u8 0, Value.int IntKind.u8 0, Value.int IntKind.u8 0, Value.int IntKind.u8 0, Value.int IntKind.u8 0, Value.int IntKind.u8 0, Value.int IntKind.u8 0, Value.int IntKind.u8 0, Value.int IntKind.u8 0, Value.int IntKind.u8 0, Value.int IntKind.u8 0, Value.int IntKind.u8 0, Value.int IntKind.u8 0, Value.int IntKind.u8 0, Value.int IntKind.u8 0, Value.int IntKind.u8 0, Value.int IntKind.u8 0, Value.int IntKind.u8 0, Value.int IntKind.u8 0, Value.int IntKind.u8 0, Value.int IntKind.u8 0, Value.int IntKind.u8 0, Value.int IntKind.u8 0, Value.int IntKind.u8 0, Value.int IntKind.u8 0]) := hku
  clear hku
  go_enter Tryz.func18, Tryz.ntmps18
  go_wp2_with fail
  try rw [← hW1]
  clear hW1
  refine cp.mono ?_
  rintro e w2 ⟨bv, rfl, o2, b2⟩
  obtain ⟨ba, bc, rfl, -⟩ := id o2.sl
  rw [show ([1] : List Int).length = 1 from rfl] at o2 ⊢
  have HB2 : Hid (Below w.heap.size w w2) := HB1.out.trans (b2.mono HB1.out.size)
  obtain ⟨w3, hw3⟩ : ∃ w3, w3 = w2.alloc (.cells #[.int .u8 1, .int .i64 5, .int .i64 3, .slice ba 1 bc] 51) := ⟨_, rfl⟩
  have b3 : Below w2.heap.size w2 w3 := by rw [hw3]; exact al_below _ _
  have HD3 : Hid (KB w3 w2.heap.size 1 5 3 (.slice ba 1 bc)) := by unfold Hid; rw [hw3]; exact KB.new _ _ _ _ _
  have HB3 : Hid (Below w.heap.size w w3) := HB2.out.trans (b3.mono HB2.out.size)
  have HX3 : Hid (Sl w3 (.slice ba 1 bc) [1]) := o2.sl.kept b3
  have hst : (w2.alloc (.cells #[.int .u8 0, .int .i64 0, .int .i64 0, .slice none 0 0] 51)).setRow w2.heap.size #[.int .u8 1, .int .i64 5, .int .i64 3, .slice ba 1 bc] = w3 := by rw [hw3]; exact World.setRow_alloc_new _ _ _ _
  have HG0 : Hid (KB (w2.alloc (.cells #[.int .u8 0, .int .i64 0, .int .i64 0, .slice none 0 0] 51)) w2.heap.size 0 0 0 (.slice none 0 0)) := KB.new _ _ _ _ _
  have cs := pseal_any oneK 1 5 3 ba 1 bc [1] w3 (HM.out.kept HB3.out) HKL.out HKB.out (by decide) HX3.out rfl
  have hse : selE 1 5 3 ([1] : List Int).length = 0 := sel_153
  rw [hse] at cs
  have HSB : Hid (selL oneK 1 5 3 [1] = [1, 5, 3] ++ ([1] ++ Mc.btag oneK [1, 5, 3] [1])) := by unfold Hid; rw [selL_yes hse, hd_153]
  have HRD : Hid ((rdM (selL oneK 1 5 3 [1])).body = [1]) := rdM_seal (by decide) hse
  have HOP : Hid (opM oneK (selL oneK 1 5 3 [1]) = ⟨1, 5, 3, [1], [pingF], 0⟩) := opM_seal (by decide) hse all_1
  have hbl : (Mc.btag oneK [1, 5, 3] [1]).length = 16 := Mc.tagB_len _ _
  have hbb : Pl.Byt (Mc.btag oneK [1, 5, 3] [1]) := Mc.tagB_byt _ _
  obtain ⟨BT, hBT⟩ : ∃ BT, BT = Mc.btag oneK [1, 5, 3] [1] := ⟨_, rfl⟩
  rw [← hBT] at HSB hbl hbb
  have HSL : Hid ((selL oneK 1 5 3 [1]).length = 20) := by unfold Hid; rw [HSB.out]; simp [hbl]
  have HST : Hid ((selL oneK 1 5 3 [1]).take 4 = [1, 5, 3, 1]) := by unfold Hid; rw [HSB.out]; rfl
  have HSY : Hid (Pl.Byt (selL oneK 1 5 3 [1])) := by unfold Hid; rw [HSB.out]; exact byt_cat (byteList _ (by decide)) (byt_cat (byteList _ (by decide)) hbb)
  obtain ⟨S, hS⟩ : ∃ S, S = selL oneK 1 5 3 [1] := ⟨_, rfl⟩
  rw [← hS] at HOP HSL HST HSY HRD cs
  rw [HSL.out] at cs
  rw [HKU.out] at cs
  clear cp o2 b2 b3 HSB hbl hbb hBT hS hse HB1 hw3
  go_upto_region 2 with (refine wpList_store_row rfl 51 _ _ rfl w2.heap.size #[.int .u8 1, .int .i64 5, .int .i64 3, .slice ba 1 bc] rfl rfl 51 _ HG0.out infoK rfl (k4_one _ _ _ _ _ _) ?_)
  try rw [hst]
  clear hst HG0
  go_wp2_with (refine wpList_load_row rfl 51 _ rfl w2.heap.size rfl 51 #[.int .u8 1, .int .i64 5, .int .i64 3, .slice ba 1 bc] (0, 0) _ HD3.out Tryz.underlying51 rfl infoK ?_)
  refine cs.mono ?_
  rintro e w4 ⟨v4, rfl, o4, b4⟩
  have s4 : Sl w4 v4 S := sl_owned (n := 20) o4 HSY.out
  obtain ⟨sa, sc, rfl, hsc, -⟩ := id s4
  rw [HSL.out] at s4 hsc ⊢
  have HB4 : Hid (Below w.heap.size w w4) := HB3.out.trans (b4.mono HB3.out.size)
  have HD4 : Hid (KB w4 w2.heap.size 1 5 3 (.slice ba 1 bc)) := HD3.out.kept b4
  have HX4 : Hid (Sl w4 (.slice ba 1 bc) [1]) := HX3.out.kept b4
  have HS4 : Hid (Sl w4 (.slice sa 20 sc) S) := s4
  have co := popen_any oneK _ S w4 (HT.out.next HB4.out) (HM.out.kept HB4.out) HKL.out HKB.out s4 (by rw [HSL.out]; decide) (by rw [HRD.out]; exact fun v w h1 h2 => allP_any v w h1 h2)
  rw [HOP.out] at co
  simp only at co
  rw [HKU.out] at co
  clear cs s4 o4 b4 HB3 HD3 HX3
  go_wp2_with fail
  refine co.mono ?_
  rintro e w5 ⟨dv, fv, rfl, s5, rf5, fr5, b5⟩
  obtain ⟨da, dc, rfl, -⟩ := id s5
  rw [show ([1] : List Int).length = 1 from rfl] at s5 fr5 ⊢
  obtain ⟨fa, fc, rfl⟩ := rf5.shape
  rw [show [pingF].length = 1 from rfl]
  have HB5 : Hid (Below w.heap.size w w5) := HB4.out.trans (b5.mono HB4.out.size)
  obtain ⟨w6, hw6⟩ : ∃ w6, w6 = w5.alloc (.cells #[.int .u8 1, .int .i64 5, .int .i64 3, .slice da 1 dc] 51) := ⟨_, rfl⟩
  have b6 : Below w5.heap.size w5 w6 := by rw [hw6]; exact al_below _ _
  have HE6 : Hid (KB w6 w5.heap.size 1 5 3 (.slice da 1 dc)) := by unfold Hid; rw [hw6]; exact KB.new _ _ _ _ _
  have HD6 : Hid (KB w6 w2.heap.size 1 5 3 (.slice ba 1 bc)) := (HD4.out.kept b5).kept b6
  have HB6 : Hid (Below w.heap.size w w6) := HB5.out.trans (b6.mono HB5.out.size)
  have HX6 : Hid (Sl w6 (.slice ba 1 bc) [1]) := (HX4.out.kept b5).kept b6
  have HY6 : Hid (Sl w6 (.slice da 1 dc) [1]) := s5.kept b6
  have HS6 : Hid (Sl w6 (.slice sa 20 sc) S) := (HS4.out.kept b5).kept b6
  have hst : (w5.alloc (.cells #[.int .u8 0, .int .i64 0, .int .i64 0, .slice none 0 0] 51)).setRow w5.heap.size #[.int .u8 1, .int .i64 5, .int .i64 3, .slice da 1 dc] = w6 := by rw [hw6]; exact World.setRow_alloc_new _ _ _ _
  have HG0 : Hid (KB (w5.alloc (.cells #[.int .u8 0, .int .i64 0, .int .i64 0, .slice none 0 0] 51)) w5.heap.size 0 0 0 (.slice none 0 0)) := KB.new _ _ _ _ _
  have csm := psame_any 1 5 3 da 1 dc [1] 1 5 3 ba 1 bc [1] w6 HY6.out HX6.out
  rw [smP_refl] at csm
  have cv := (HS6.out.take 4 (by decide)).conv
  rw [HST.out, str_153] at cv
  have sx1 : (4 : Int) ≤ (sc : Int) := by omega
  clear co s5 rf5 fr5 b5 b6 HB4 HD4 HX4 HS4 HB5 hw6
  go_upto_region 4 with (refine wpList_store_row rfl 51 _ _ rfl w5.heap.size #[.int .u8 1, .int .i64 5, .int .i64 3, .slice da 1 dc] rfl rfl 51 _ HG0.out infoK rfl (k4_one _ _ _ _ _ _) ?_)
  try rw [hst]
  clear hst HG0
  obtain ⟨c0, c1, c2, c3⟩ := HE6.out.kc
  obtain ⟨d0, d1, d2, d3⟩ := HD6.out.kc
  go_wp2_with fail
  refine csm.mono ?_
  rintro e w7 ⟨rfl, b7⟩
  have HD7 : Hid (KB w7 w2.heap.size 1 5 3 (.slice ba 1 bc)) := HD6.out.kept b7
  have HB7 : Hid (Below w.heap.size w w7) := HB6.out.trans (b7.mono HB6.out.size)
  have cr := room_any 1 5 3 ba 1 bc w7 (HT.out.next HB7.out).v (by decide)
  rw [rm_153] at cr
  clear csm cv b7 HE6 HD6 HB6 HX6 HY6 HS6 sx1 c0 c1 c2 c3 d0 d1 d2 d3
  obtain ⟨d0, d1, d2, d3⟩ := HD7.out.kc
  go_wp2_with fail
  refine cr.mono ?_
  rintro e w8 ⟨rfl, b8⟩
  have HB8 : Hid (Below w.heap.size w w8) := HB7.out.trans (b8.mono HB7.out.size)
  clear cr b8 HD7 HB7 d0 d1 d2 d3
  go_wp2
  go_ret
  exact ⟨rfl, HB8.out⟩

end Go.Proofs.YtiollhmbdhepkaaGreatDoor
namespace Go.Proofs.YtiollhmbdhepkaaGreatDoor
open Go.ChangeShapes Go.WideShapes Go.ChangeAt Go.RowKit Go.Deep
set_option maxRecDepth 100000

theorem own : ownKnob Tryz.prog.godebug = none := by kernel_rfl
theorem laidOut : laidOutB Tryz.prog = true := by kernel_rfl
theorem cells3 : Tryz.prog.cellsOf 3 = 1 := by kernel_rfl
theorem cells5 : Tryz.prog.cellsOf 5 = 1 := by kernel_rfl
theorem gT2 : Tryz.prog.globalNamed "sumpter/varint.widths" = some 1 := by kernel_rfl
theorem tT2 : (Tryz.prog.globals[1]?).map (·.type) = some 203 := by kernel_rfl
theorem cellsT2 : Tryz.prog.cellsOf 203 = 4 := by kernel_rfl
theorem gS : Tryz.prog.globalNamed "sumpter/frame.shapes" = some 0 := by kernel_rfl
theorem tS : (Tryz.prog.globals[0]?).map (·.type) = some 84 := by kernel_rfl
theorem cellsS : Tryz.prog.cellsOf 84 = 22 := by kernel_rfl
theorem cellsH : Tryz.prog.cellsOf 83 = 2 := by kernel_rfl
def widT : Array Value := #[.int .i64 1, .int .i64 2, .int .i64 4, .int .i64 8]
def shpT : Array Value := #[.int .i64 0, .int .i64 0, .int .i64 0, .int .i64 0, .int .i64 66, .int .i64 0, .int .i64 39, .int .i64 1100, .int .i64 11, .int .i64 0, .int .i64 9, .int .i64 0, .int .i64 2, .int .i64 0, .int .i64 3, .int .i64 0, .int .i64 2, .int .i64 0, .int .i64 48, .int .i64 256, .int .i64 40, .int .i64 64]
/-- Both tables out of what is laid. -/
theorem mapM_each {α β : Type} {f : α → Option β} : ∀ (L : List α) (ys : List β), L.mapM f = some ys → ∀ i ∈ L, ∃ y, f i = some y
  | [], _, _, i, hi => by simp at hi
  | x :: l, r, h, i, hi => by
    simp only [List.mapM_cons, Option.bind_eq_bind, Option.bind_eq_some_iff, Option.pure_def, Option.some.injEq] at h
    obtain ⟨b, hb, r', hr', rfl⟩ := h
    rcases List.mem_cons.1 hi with rfl | hi
    · exact ⟨b, hb⟩
    · exact mapM_each l r' hr' i hi
/-- An array of pairs that reads as such a table. -/
theorem cells_of_pairs {H : Type} {enc : TypeId × Value → H} {w : World} {base : Nat} {sp : Nat → Bool} {held : Bool} {fuel : Nat} {cs : List Value} {zs : List (Int × Int)} {p : List MemPlace}
    (h : DataW.trod enc Tryz.prog w base sp held fuel 84 cs = some (.agg (zs.map fun z => .agg [.lit (.int .i64 z.1), .lit (.int .i64 z.2)]), p)) : ∀ i, i < 11 → ∃ z, zs[i]? = some z ∧ cs[i * 2]? = some (.int .i64 z.1) ∧ cs[i * 2 + 1]? = some (.int .i64 z.2) := by
  cases fuel with
  | zero => simp [DataW.trod] at h
  | succ fuel =>
    simp only [DataW.trod, Tryz.underlying84, cellsH, cellsS] at h
    split at h
    · rename_i hl
      obtain ⟨xs, hm, hx⟩ := Option.map_eq_some_iff.1 h
      have hxs : xs.map (·.1) = zs.map fun z => (DataW.agg [.lit (.int .i64 z.1), .lit (.int .i64 z.2)] : DataW H) := by
        have := congrArg Prod.fst hx
        simpa using this
      intro i hi
      obtain ⟨b, hb, hf⟩ := Lib.mapM_at hm i i (by simp [hi])
      obtain ⟨y0, y1, n, rfl, hl2, h0, h1⟩ := trod_struct2 Tryz.underlying83 hf
      obtain ⟨a0, e0, rfl, _⟩ := DataW.trod_int Tryz.underlying3 h0
      obtain ⟨a1, e1, rfl, _⟩ := DataW.trod_int Tryz.underlying3 h1
      have h2 : (xs.map (·.1))[i]? = some (DataW.agg [.lit (.int .i64 a0), .lit (.int .i64 a1)] : DataW H) := by simp [hb]
      rw [hxs] at h2
      simp only [List.getElem?_map, Option.map_eq_some_iff] at h2
      obtain ⟨z, hz, hzz⟩ := h2
      simp only [DataW.agg.injEq, List.cons.injEq, DataW.lit.injEq, Lit.int.injEq, true_and, and_true] at hzz
      refine ⟨z, hz, ?_, ?_⟩
      · have := congrArg (·[0]?) e0
        simp only [List.getElem?_take, List.getElem?_drop, cells3] at this
        rw [hzz.1]
        simpa using this
      · have := congrArg (·[0]?) e1
        simp only [List.getElem?_take, List.getElem?_drop, cells3] at this
        rw [hzz.2]
        simpa using this
    · cases h
theorem shp_of {W : World} {rest : List (String × DataW Unit)} (h : laidMet Tryz.prog (("sumpter/frame.shapes", Rows.laid_sumpter_frame_shapes) :: rest) W) : Shp W := by
  obtain ⟨ps, ⟨g', t', cs, fuel, p, q, hg', ht', hvar, hd, _, _⟩, _⟩ := h
  obtain rfl := Option.some.inj (gS.symm.trans hg')
  obtain rfl := Option.some.inj (tS.symm.trans ht')
  have key := cells_of_pairs (zs := [(0, 0), (0, 0), (66, 0), (39, 1100), (11, 0), (9, 0), (2, 0), (3, 0), (2, 0), (48, 256), (40, 64)]) hd
  have cell := World.var?_cell gS hvar
  intro k hk
  obtain ⟨z, hz, z0, z1⟩ := key k (by omega)
  rw [cell (k * 2), cell (k * 2 + 1), List.getElem?_toArray, List.getElem?_toArray, z0, z1]
  have e : z = (pkN k, mT k) := by
    rcases (by omega : k = 0 ∨ k = 1 ∨ k = 2 ∨ k = 3 ∨ k = 4 ∨ k = 5 ∨ k = 6 ∨ k = 7 ∨ k = 8 ∨ k = 9 ∨ k = 10) with rfl | rfl | rfl | rfl | rfl | rfl | rfl | rfl | rfl | rfl | rfl <;> (cases hz; rfl)
  rw [e]
  exact ⟨rfl, rfl⟩
theorem gT0 : Tryz.prog.globalNamed "sumpter/sha.first" = some 2 := by kernel_rfl
theorem tT0 : (Tryz.prog.globals[2]?).map (·.type) = some 192 := by kernel_rfl
theorem gT1 : Tryz.prog.globalNamed "sumpter/sha.rounds" = some 3 := by kernel_rfl
theorem tT1 : (Tryz.prog.globals[3]?).map (·.type) = some 195 := by kernel_rfl
theorem cellsT0 : Tryz.prog.cellsOf 192 = 8 := by kernel_rfl
theorem cellsT1 : Tryz.prog.cellsOf 195 = 64 := by kernel_rfl
theorem cellsTE : Tryz.prog.cellsOf 191 = 1 := by kernel_rfl
def firstZ : List Int := (Sh.Pl.words Sh.Pl.init).map (fun n : Nat => (n : Int))
def roundZ : List Int := Sh.Pl.K.map (fun n : Nat => (n : Int))
def firT : Array Value := (firstZ.map (Value.int .u32)).toArray
def rndT : Array Value := (roundZ.map (Value.int .u32)).toArray
/-- All four tables out of what is laid. -/
theorem tbs_of {W : World} (h : laidMetH Tryz.prog Rows.packetRoomRow.laid W) : Tb W ∧ Mc.Tabs W := by
  have h' : laidMet Tryz.prog Rows.packetRoomRow.laid W := h
  have t2 : Lib.TabIs Tryz.prog W "sumpter/varint.widths" .i64 [1, 2, 4, 8] := Lib.tabIs_of_head gT2 tT2 Tryz.underlying203 Tryz.underlying3 cells3 cellsT2 h'
  have t0 : Lib.TabIs Tryz.prog W "sumpter/sha.first" .u32 firstZ := Lib.tabIs_of_head gT0 tT0 Tryz.underlying192 Tryz.underlying191 cellsTE cellsT0 (laidMet.tail (laidMet.tail h'))
  have t1 : Lib.TabIs Tryz.prog W "sumpter/sha.rounds" .u32 roundZ := Lib.tabIs_of_head (rest := []) gT1 tT1 Tryz.underlying195 Tryz.underlying191 cellsTE cellsT1 (laidMet.tail (laidMet.tail (laidMet.tail h')))
  have hw : Fi.Wid W := ⟨t2.cell gT2 0 (by decide), t2.cell gT2 1 (by decide), t2.cell gT2 2 (by decide), t2.cell gT2 3 (by decide)⟩
  refine ⟨⟨shp_of (laidMet.tail h'), hw⟩, ⟨fun i hi => ?_, fun i hi => ?_⟩, hw⟩
  · rw [t0.cell gT0 i (show i < firstZ.length from hi)]
    have hi2 : i < (Sh.Pl.words Sh.Pl.init).length := hi
    simp [firstZ, List.getD, List.getElem?_eq_getElem hi2]
  · rw [t1.cell gT1 i (show i < roundZ.length from hi)]
    have hi2 : i < Sh.Pl.K.length := hi
    simp [roundZ, List.getD, List.getElem?_eq_getElem hi2]
theorem cellsB : Tryz.prog.cellsOf 34 = 1 := by kernel_rfl
theorem cellsP : Tryz.prog.cellsOf 49 = 4 := by kernel_rfl
/-- A sum that came in by value. -/
theorem hash_open {H : Type} {enc : TypeId × Value → H} {W : World} {base : Nat} {v : Value} {d : DataW H} {p : List MemPlace}
    (hval : Value.okWide Tryz.prog W .any base 47 v) (h : DataW.Trod enc Tryz.prog W 0 (fun _ => true) true 47 v d p) :
    ∃ A : List Int, v = .agg (Sh.u8s A) ∧ A.length = 32 ∧ Sh.Pl.Byt A := by
  simp only [Value.okWide, Tryz.underlying47] at hval
  obtain ⟨cs, rfl, hsz, _⟩ := hval
  have hc : Tryz.prog.cellsOf 47 = 32 := by kernel_rfl
  rw [hc] at hsz
  obtain ⟨fuel, hf⟩ := h
  cases fuel with
  | zero => simp [DataW.trod] at hf
  | succ m =>
    rw [DataW.trod_step] at hf
    unfold DataW.trodStep at hf
    simp only [Tryz.underlying47, Value.cells] at hf
    rw [if_pos (by rw [hc]; simpa using hsz)] at hf
    simp only [Option.map_eq_some_iff] at hf
    obtain ⟨ys, hy, _⟩ := hf
    have cell : ∀ i, i < 32 → ∃ a : Int, cs[i]? = some (.int .u8 a) ∧ (Lit.int .u8 a).wf = true := fun i hi => by
      obtain ⟨y, hyi⟩ := mapM_each _ _ hy i (by simpa using hi)
      obtain ⟨a, ea, _, wa⟩ := DataW.trod_int Tryz.underlying5 hyi
      refine ⟨a, ?_, wa⟩
      rw [cells5, Nat.mul_one] at ea
      have h0 := congrArg (·[0]?) ea
      simpa [List.getElem?_take, List.getElem?_drop] using h0
    refine ⟨cs.toList.map intOf, ?_, by simp [hsz], fun i => ?_⟩
    · congr 1
      apply Array.ext'
      unfold Sh.u8s
      rw [List.toList_toArray, List.map_map]
      apply List.ext_getElem?
      intro i
      rcases Nat.lt_or_ge i 32 with hi | hi
      · obtain ⟨a, ha, _⟩ := cell i hi
        rw [List.getElem?_map, Array.getElem?_toList, ha]
        simp [intOf]
      · rw [List.getElem?_eq_none (by simpa [hsz] using hi), List.getElem?_eq_none (by simpa [hsz] using hi)]
    · rcases Nat.lt_or_ge i 32 with hi | hi
      · obtain ⟨a, ha, wa⟩ := cell i hi
        have e : (cs.toList.map intOf).getD i 0 = a := by simp [List.getD, ha, intOf]
        rw [e]
        have := bounds_u8 wa
        omega
      · rw [List.getD, List.getElem?_eq_none (by simpa [hsz] using hi)]; simp
/-- Bytes that came in. -/
theorem sl_trod {H : Type} {enc : TypeId × Value → H} {W : World} {fuel : Nat} {cs : List Value} {x : DataW H × List MemPlace}
    (h : DataW.trod enc Tryz.prog W 0 (fun _ => true) true fuel 34 cs = some x) : ∃ a n c Z, cs = [.slice a n c] ∧ Sl W (.slice a n c) Z := by
  rcases open_ints Tryz.underlying34 Tryz.underlying5 cells5 h with ⟨hcs, _⟩ | ⟨y, l, c, zs, hcs, _, hl, hm, hz, _, hcell, hwz⟩
  · exact ⟨none, 0, 0, [], hcs, Sl.none _⟩
  · simp only [if_true] at hz
    have hlen : (zs.take l).length = l := by rw [List.length_take]; omega
    refine ⟨some y, l, c, zs.take l, hcs, some y, c, by rw [hlen], by rw [hlen]; exact hl, hm, (fun e => by cases e), ?_⟩
    rw [hlen]
    rcases Nat.eq_zero_or_pos l with h0 | h0
    · exact .inl h0
    · obtain ⟨yb, yo, ys⟩ := y
      have hys : ys = none := by simpa [Addr.add] using World.cell?_spot (hcell 0 (by omega))
      subst hys
      have hby : ∀ q, 0 ≤ zs.getD q 0 ∧ zs.getD q 0 < 256 := fun q => by
        have := range_u8 hwz q
        rw [List.getD_eq_getElem?_getD]
        omega
      refine .inr ⟨h0, yb, yo, rfl, hl, hm, fun q hq => ?_, fun q => ?_⟩
      · have := hcell q (by omega)
        rw [Addr.add_lit] at this
        rw [this]
        simp [List.getD, hq]
      · by_cases hq : q < l
        · have := hby q
          simpa [List.getD, List.getElem?_take, hq] using this
        · simp [List.getD, List.getElem?_take, hq]
/-- A packet that came in, by value. -/
structure PkI where
  k : Int
  c : Int
  n : Int
  a : Option Addr
  m : Nat
  cp : Nat
  X : List Int
structure PktI (W : World) (v : Value) (L : PkI) : Prop where
  v : v = .agg #[.int .u8 L.k, .int .i64 L.c, .int .i64 L.n, .slice L.a L.m L.cp]
  s : Sl W (.slice L.a L.m L.cp) L.X
  k : 0 ≤ L.k ∧ L.k < 256
  c : -9223372036854775808 ≤ L.c ∧ L.c ≤ 9223372036854775807
  n : -9223372036854775808 ≤ L.n ∧ L.n ≤ 9223372036854775807
theorem pkt_in {H : Type} {enc : TypeId × Value → H} {W : World} {base : Nat} {v : Value} {d : DataW H} {p : List MemPlace}
    (hval : Value.okWide Tryz.prog W .any base 49 v) (h : DataW.Trod enc Tryz.prog W 0 (fun _ => true) true 49 v d p) : ∃ L, PktI W v L := by
  obtain ⟨cs, rfl, hsz⟩ := okWide_struct Tryz.underlying49 hval
  obtain ⟨fuel, hf⟩ := h
  obtain ⟨y0, y1, y2, y3, n, _, hl, h0, h1, h2, h3⟩ := Go.Joins.trod_struct4 Tryz.underlying49 hf
  rw [cellsP] at hl
  obtain ⟨v0, v1, v2, v3, hc⟩ : ∃ v0 v1 v2 v3, cs.toList = [v0, v1, v2, v3] := by
    match hh : cs.toList, hl with
    | [v0, v1, v2, v3], _ => exact ⟨v0, v1, v2, v3, rfl⟩
  have hc' : (Value.agg cs).cells.toList = [v0, v1, v2, v3] := hc
  rw [hc'] at h0 h1 h2 h3
  simp only [cells5, cells3, cellsB] at h0 h1 h2 h3
  obtain ⟨b, e0, _, w0⟩ := DataW.trod_int Tryz.underlying5 h0
  obtain ⟨l, e1, _, w1⟩ := DataW.trod_int Tryz.underlying3 h1
  obtain ⟨m, e2, _, w2⟩ := DataW.trod_int Tryz.underlying3 h2
  obtain ⟨sa, sn, sc, Z, e3, hs⟩ := sl_trod h3
  simp at e0 e1 e2 e3
  subst e0 e1 e2 e3
  have hb := bounds_u8 w0
  refine ⟨⟨b, l, m, sa, sn, sc, Z⟩, ?_, hs, by simp only; omega, bounds_i64 w1, bounds_i64 w2⟩
  congr 1
  apply Array.ext'
  exact hc
end Go.Proofs.YtiollhmbdhepkaaGreatDoor
namespace Go.Proofs.YtiollhmbdhepkaaGreatDoor
open Go.RowKit Go.Proofs.YtiollhmbdhepkaaGreatDoor.Sh
set_option maxRecDepth 100000

def QB (w : World) (g : Nat) (k c n : Int) (v : Value) : Prop := w.heap[g]? = some (.cells #[.int .u8 k, .int .i64 c, .int .i64 n, v] 49 (0, 0))
theorem QB.new (w : World) (k c n : Int) (v : Value) : QB (w.alloc (.cells #[.int .u8 k, .int .i64 c, .int .i64 n, v] 49)) w.heap.size k c n v := heap_alloc_new _ _
theorem QB.kept {w w' : World} {g : Nat} {k c n : Int} {v : Value} (h : QB w g k c n v) (hb : Below w.heap.size w w') : QB w' g k c n v := blk_kept h hb (blk_lt h)
theorem QB.kc {w : World} {g : Nat} {k c n : Int} {v : Value} (h : QB w g k c n v) : KC w g k c n v := by
  unfold QB at h
  refine ⟨?_, ?_, ?_, ?_⟩ <;> simp [World.cell?, h]
theorem QB.frz {w : World} {g : Nat} {k c n : Int} {v : Value} (h : QB w g k c n v) (j : Nat) : w.frozen? ⟨g, j, none⟩ = false := by
  unfold QB at h
  simp [World.frozen?, h]
theorem QB.set3 {w : World} {g : Nat} {k c n : Int} {v v' : Value} (h : QB w g k c n v) : QB (w.setCell ⟨g, 3, none⟩ v') g k c n v' := by
  unfold QB at *
  simp [World.setCell, Array.getElem?_modify, h]
theorem infoQ : (Tryz.prog.info? 49).map (·.size) = some 4 := by kernel_rfl
theorem zer_byt (n : Nat) : Pl.Byt (List.replicate n 0) := fun i => by
  rcases Nat.lt_or_ge i n with h | h
  · simp [List.getD, h]
  · simp [List.getD, h]
theorem mkN (n : Nat) (hn : n ≤ 2000) (w : World) : (Instr.makeSlice 34 (.int .i64 (n : Int)) (.int .i64 (n : Int))).run Tryz.prog w = .ok (.slice (some ⟨w.heap.size, 0, none⟩) n n) (w.alloc (.cells (u8s (List.replicate n 0)) 5)) := by
  obtain ⟨i0, hi, hz0, hz1, hz2⟩ := info_parts info5'
  have h := run_makeSlice w 34 5 i0 (.int .u8 0) Tryz.underlying34 hi hz0 .i64 .i64 n n (by omega) (Int.le_refl _) (by rw [hz1]; omega) (by rw [hz2]; omega) (by omega)
  rw [Int.toNat_natCast, hz1, Nat.mul_one] at h
  rw [h]
  congr 3
  unfold madeCells u8s
  apply Array.ext'
  simp only [Array.toList_map, Array.toList_range, Value.cells, List.map_replicate]
  refine List.eq_replicate_iff.2 ⟨by simp, fun b hb => ?_⟩
  obtain ⟨x, _, rfl⟩ := List.mem_map.1 hb
  simp [Nat.mod_one]
theorem sl_zero (w : World) (n : Nat) (hn : n ≤ 2000) : Sl (w.alloc (.cells (u8s (List.replicate n 0)) 5)) (.slice (some ⟨w.heap.size, 0, none⟩) n n) (List.replicate n 0) := by
  have := Mc.sl_row (w := w.alloc (.cells (u8s (List.replicate n 0)) 5)) (g := w.heap.size) (xs := List.replicate n 0) (heap_alloc_new _ _) (zer_byt n) (by rw [List.length_replicate]; unfold maxLen; omega)
  rwa [List.length_replicate] at this
end Go.Proofs.YtiollhmbdhepkaaGreatDoor
