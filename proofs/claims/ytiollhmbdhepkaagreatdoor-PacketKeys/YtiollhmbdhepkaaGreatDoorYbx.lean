/-
  Stage 19's own small play.
  What the statements of layer 19 share: a packet of the document's in a block, rows of noughts, sums by value.
  What the document's Label answers.
  What First and Keys answer, and the document's.
-/
import Derived.Test.YtiollhmbdhepkaaGreatDoorYbr
import Derived.Laws.OwnMore
import Derived.Test.YtiollhmbdhepkaaGreatDoorYbn
import Derived.Test.YtiollhmbdhepkaaGreatDoorYbw
import Derived.Test.YtiollhmbdhepkaaGreatDoorYbs
namespace Go.Proofs.YtiollhmbdhepkaaGreatDoor
open Go.RowKit Go.Proofs.YtiollhmbdhepkaaGreatDoor.Sh
set_option maxRecDepth 100000

def oneK : List Int := 1 :: List.replicate 31 0
theorem str_153 : strB [1, 5, 3, 1] = ⟨#[1, 5, 3, 1]⟩ := by decide
set_option maxHeartbeats 16000000 in
theorem pawake_any (w : World) (ht : Tb w) (hm : Mc.Tabs w) : Calls Tryz.prog 18 #[] w fun e w' => e = .returned (.bool true) ∧ Below w.heap.size w w' := by
  obtain ⟨W1, hW1⟩ : ∃ W1, W1 = w.alloc (.cells #[.iface 93 (.agg #[])] 29) := ⟨_, rfl⟩
  have b1 : Below w.heap.size w W1 := by rw [hW1]; exact al_below _ _
  have HB1 : Hid (Below w.heap.size w W1) := b1
  have HT : Hid (Tb w) := ht
  have HM : Hid (Mc.Tabs w) := hm
  have HKL : Hid (oneK.length = 32) := rfl
  have HKB : Hid (Pl.Byt oneK) := byteList _ (by decide)
  have cp := ppack_any 1 5 3 _ [pingF] W1 w.heap.size (ht.next b1) (by decide) (by rw [hW1]; exact RF.ping w _ (Nat.le_refl _)) (fun p hp => by rw [List.mem_singleton.1 hp]; exact ping_fg) (by decide) (fun p hp sv w h1 h2 h3 => by obtain rfl := List.mem_singleton.1 hp; exact putP_any sv w h1 h2 h3)
  rw [pk_153.1, pk_153.2] at cp
  simp only at cp
  have hku : u8s oneK = #[Value.int IntKind.u8 1, Value.int IntKind.u8 0, Value.int IntKind.u8 0, Value.int IntKind.u8 0, Value.int IntKind.u8 0, Value.int IntKind.u8 0, Value.int IntKind.u8 0, Value.int IntKind.u8 0, Value.int IntKind.u8 0, Value.int IntKind.u8 0, Value.int IntKind.u8 0, Value.int IntKind.u8 0, Value.int IntKind.u8 0, Value.int IntKind.u8 0, Value.int IntKind.u8 0, Value.int IntKind.u8 0, Value.int IntKind.u8 0, Value.int IntKind.u8 0, Value.int IntKind.u8 0, Value.int IntKind.u8 0, Value.int IntKind.u8 0, Value.int IntKind.u8 0, Value.int IntKind.u8 0, Value.int IntKind.u8 0, Value.int IntKind.u8 0, Value.int IntKind.u8 0, Value.int IntKind.u8 0, Value.int IntKind.u8 0, Value.int IntKind.u8 0, Value.int IntKind.u8 0, Value.int IntKind.u8 0, Value.int IntKind.u8 0] := by rfl
  clear ht hm b1
  have HKU : Hid (u8s oneK = #[Value.int IntKind.u8 1, Value.int IntKind.u8 0, Value.int IntKind.u8 0, Value.int IntKind.u8 0, Value.int IntKind.u8 0, Value.int IntKind.u8 0, Value.int IntKind.u8 0, Value.int IntKind.u8 0, Value.int IntKind.u8 0, Value.int IntKind.u8 0, Value.int IntKind.u8 0, Value.int IntKind.u8 0, Value.int IntKind.u8 0, Value.int IntKind.u8 0, Value.int IntKind.u8 0, Value.int IntKind.u8 0, Value.int IntKind.u8 0, Value.int IntKind.u8 0, Value.int IntKind.u8 0, Value.int IntKind.u8 0, Value.int IntKind.u8 0, Value.int IntKind.u8 0, Value.int IntKind.u8 0, Value.int IntKind.u8 0, Value.int IntKind.u8 0, Value.int IntKind.u8 0, Value.int IntKind.u8 0, Value.int IntKind.u8 0, Value.int IntKind.u8 0, Value.int IntKind.u8 0, Value.int IntKind.u8 0, Value.int IntKind.u8 0]) := hku
  clear hku
  go_enter Tryz.func18, Tryz.ntmps18
  go_wp2_with fail
  try rw [← hW1]
  clear hW1
  refine cp.mono ?_
  rintro e w2 ⟨bv, rfl, o2, b2⟩
  obtain ⟨ba, bc, rfl, -⟩ := id o2.sl
  rw [show ([1] : List Int).length = 1 from rfl] at o2 ⊢
  have HB2 : Hid (Below w.heap.size w w2) := HB1.out.trans (b2.mono HB1.out.size)
  obtain ⟨w3, hw3⟩ : ∃ w3, w3 = w2.alloc (.cells #[.int .u8 1, .int .i64 5, .int .i64 3, .slice ba 1 bc] 51) := ⟨_, rfl⟩
  have b3 : Below w2.heap.size w2 w3 := by rw [hw3]; exact al_below _ _
  have HD3 : Hid (KB w3 w2.heap.size 1 5 3 (.slice ba 1 bc)) := by unfold Hid; rw [hw3]; exact KB.new _ _ _ _ _
  have HB3 : Hid (Below w.heap.size w w3) := HB2.out.trans (b3.mono HB2.out.size)
  have HX3 : Hid (Sl w3 (.slice ba 1 bc) [1]) := o2.sl.kept b3
  have hst : (w2.alloc (.cells #[.int .u8 0, .int .i64 0, .int .i64 0, .slice none 0 0] 51)).setRow w2.heap.size #[.int .u8 1, .int .i64 5, .int .i64 3, .slice ba 1 bc] = w3 := by rw [hw3]; exact World.setRow_alloc_new _ _ _ _
  have HG0 : Hid (KB (w2.alloc (.cells #[.int .u8 0, .int .i64 0, .int .i64 0, .slice none 0 0] 51)) w2.heap.size 0 0 0 (.slice none 0 0)) := KB.new _ _ _ _ _
  have cs := pseal_any oneK 1 5 3 ba 1 bc [1] w3 (HM.out.kept HB3.out) HKL.out HKB.out (by decide) HX3.out rfl
  have hse : selE 1 5 3 ([1] : List Int).length = 0 := sel_153
  rw [hse] at cs
  have HSB : Hid (selL oneK 1 5 3 [1] = [1, 5, 3] ++ ([1] ++ Mc.btag oneK [1, 5, 3] [1])) := by unfold Hid; rw [selL_yes hse, hd_153]
  have HRD : Hid ((rdM (selL oneK 1 5 3 [1])).body = [1]) := rdM_seal (by decide) hse
  have HOP : Hid (opM oneK (selL oneK 1 5 3 [1]) = ⟨1, 5, 3, [1], [pingF], 0⟩) := opM_seal (by decide) hse all_1
  have hbl : (Mc.btag oneK [1, 5, 3] [1]).length = 16 := Mc.tagB_len _ _
  have hbb : Pl.Byt (Mc.btag oneK [1, 5, 3] [1]) := Mc.tagB_byt _ _
  obtain ⟨BT, hBT⟩ : ∃ BT, BT = Mc.btag oneK [1, 5, 3] [1] := ⟨_, rfl⟩
  rw [← hBT] at HSB hbl hbb
  have HSL : Hid ((selL oneK 1 5 3 [1]).length = 20) := by unfold Hid; rw [HSB.out]; simp [hbl]
  have HST : Hid ((selL oneK 1 5 3 [1]).take 4 = [1, 5, 3, 1]) := by unfold Hid; rw [HSB.out]; rfl
  have HSY : Hid (Pl.Byt (selL oneK 1 5 3 [1])) := by unfold Hid; rw [HSB.out]; exact byt_cat (byteList _ (by decide)) (byt_cat (byteList _ (by decide)) hbb)
  obtain ⟨S, hS⟩ : ∃ S, S = selL oneK 1 5 3 [1] := ⟨_, rfl⟩
  rw [← hS] at HOP HSL HST HSY HRD cs
  rw [HSL.out] at cs
  rw [HKU.out] at cs
  clear cp o2 b2 b3 HSB hbl hbb hBT hS hse HB1 hw3
  go_upto_region 2 with (refine wpList_store_row rfl 51 _ _ rfl w2.heap.size #[.int .u8 1, .int .i64 5, .int .i64 3, .slice ba 1 bc] rfl rfl 51 _ HG0.out infoK rfl (k4_one _ _ _ _ _ _) ?_)
  try rw [hst]
  clear hst HG0
  go_wp2_with (refine wpList_load_row rfl 51 _ rfl w2.heap.size rfl 51 #[.int .u8 1, .int .i64 5, .int .i64 3, .slice ba 1 bc] (0, 0) _ HD3.out Tryz.underlying51 rfl infoK ?_)
  refine cs.mono ?_
  rintro e w4 ⟨v4, rfl, o4, b4⟩
  have s4 : Sl w4 v4 S := sl_owned (n := 20) o4 HSY.out
  obtain ⟨sa, sc, rfl, hsc, -⟩ := id s4
  rw [HSL.out] at s4 hsc ⊢
  have HB4 : Hid (Below w.heap.size w w4) := HB3.out.trans (b4.mono HB3.out.size)
  have HD4 : Hid (KB w4 w2.heap.size 1 5 3 (.slice ba 1 bc)) := HD3.out.kept b4
  have HX4 : Hid (Sl w4 (.slice ba 1 bc) [1]) := HX3.out.kept b4
  have HS4 : Hid (Sl w4 (.slice sa 20 sc) S) := s4
  have co := popen_any oneK _ S w4 (HT.out.next HB4.out) (HM.out.kept HB4.out) HKL.out HKB.out s4 (by rw [HSL.out]; decide) (by rw [HRD.out]; exact fun v w h1 h2 => allP_any v w h1 h2)
  rw [HOP.out] at co
  simp only at co
  rw [HKU.out] at co
  clear cs s4 o4 b4 HB3 HD3 HX3
  go_wp2_with fail
  refine co.mono ?_
  rintro e w5 ⟨dv, fv, rfl, s5, rf5, fr5, b5⟩
  obtain ⟨da, dc, rfl, -⟩ := id s5
  rw [show ([1] : List Int).length = 1 from rfl] at s5 fr5 ⊢
  obtain ⟨fa, fc, rfl⟩ := rf5.shape
  rw [show [pingF].length = 1 from rfl]
  have HB5 : Hid (Below w.heap.size w w5) := HB4.out.trans (b5.mono HB4.out.size)
  obtain ⟨w6, hw6⟩ : ∃ w6, w6 = w5.alloc (.cells #[.int .u8 1, .int .i64 5, .int .i64 3, .slice da 1 dc] 51) := ⟨_, rfl⟩
  have b6 : Below w5.heap.size w5 w6 := by rw [hw6]; exact al_below _ _
  have HE6 : Hid (KB w6 w5.heap.size 1 5 3 (.slice da 1 dc)) := by unfold Hid; rw [hw6]; exact KB.new _ _ _ _ _
  have HD6 : Hid (KB w6 w2.heap.size 1 5 3 (.slice ba 1 bc)) := (HD4.out.kept b5).kept b6
  have HB6 : Hid (Below w.heap.size w w6) := HB5.out.trans (b6.mono HB5.out.size)
  have HX6 : Hid (Sl w6 (.slice ba 1 bc) [1]) := (HX4.out.kept b5).kept b6
  have HY6 : Hid (Sl w6 (.slice da 1 dc) [1]) := s5.kept b6
  have HS6 : Hid (Sl w6 (.slice sa 20 sc) S) := (HS4.out.kept b5).kept b6
  have hst : (w5.alloc (.cells #[.int .u8 0, .int .i64 0, .int .i64 0, .slice none 0 0] 51)).setRow w5.heap.size #[.int .u8 1, .int .i64 5, .int .i64 3, .slice da 1 dc] = w6 := by rw [hw6]; exact World.setRow_alloc_new _ _ _ _
  have HG0 : Hid (KB (w5.alloc (.cells #[.int .u8 0, .int .i64 0, .int .i64 0, .slice none 0 0] 51)) w5.heap.size 0 0 0 (.slice none 0 0)) := KB.new _ _ _ _ _
  have csm := psame_any 1 5 3 da 1 dc [1] 1 5 3 ba 1 bc [1] w6 HY6.out HX6.out
  rw [smP_refl] at csm
  have cv := (HS6.out.take 4 (by decide)).conv
  rw [HST.out, str_153] at cv
  have sx1 : (4 : Int) ≤ (sc : Int) := by omega
  clear co s5 rf5 fr5 b5 b6 HB4 HD4 HX4 HS4 HB5 hw6
  go_upto_region 4 with (refine wpList_store_row rfl 51 _ _ rfl w5.heap.size #[.int .u8 1, .int .i64 5, .int .i64 3, .slice da 1 dc] rfl rfl 51 _ HG0.out infoK rfl (k4_one _ _ _ _ _ _) ?_)
  try rw [hst]
  clear hst HG0
  obtain ⟨c0, c1, c2, c3⟩ := HE6.out.kc
  obtain ⟨d0, d1, d2, d3⟩ := HD6.out.kc
  go_wp2_with fail
  refine csm.mono ?_
  rintro e w7 ⟨rfl, b7⟩
  have HD7 : Hid (KB w7 w2.heap.size 1 5 3 (.slice ba 1 bc)) := HD6.out.kept b7
  have HB7 : Hid (Below w.heap.size w w7) := HB6.out.trans (b7.mono HB6.out.size)
  have cr := room_any 1 5 3 ba 1 bc w7 (HT.out.next HB7.out).v (by decide)
  rw [rm_153] at cr
  clear csm cv b7 HE6 HD6 HB6 HX6 HY6 HS6 sx1 c0 c1 c2 c3 d0 d1 d2 d3
  obtain ⟨d0, d1, d2, d3⟩ := HD7.out.kc
  go_wp2_with fail
  refine cr.mono ?_
  rintro e w8 ⟨rfl, b8⟩
  have HB8 : Hid (Below w.heap.size w w8) := HB7.out.trans (b8.mono HB7.out.size)
  clear cr b8 HD7 HB7 d0 d1 d2 d3
  go_wp2
  go_ret
  exact ⟨rfl, HB8.out⟩

end Go.Proofs.YtiollhmbdhepkaaGreatDoor
namespace Go.Proofs.YtiollhmbdhepkaaGreatDoor
open Go.RowKit Go.Proofs.YtiollhmbdhepkaaGreatDoor.Sh
set_option maxRecDepth 100000

def QB (w : World) (g : Nat) (k c n : Int) (v : Value) : Prop := w.heap[g]? = some (.cells #[.int .u8 k, .int .i64 c, .int .i64 n, v] 49 (0, 0))
theorem QB.kept {w w' : World} {g : Nat} {k c n : Int} {v : Value} (h : QB w g k c n v) (hb : Below w.heap.size w w') : QB w' g k c n v := blk_kept h hb (blk_lt h)
theorem QB.kc {w : World} {g : Nat} {k c n : Int} {v : Value} (h : QB w g k c n v) : KC w g k c n v := by
  unfold QB at h
  refine ⟨?_, ?_, ?_, ?_⟩ <;> simp [World.cell?, h]
end Go.Proofs.YtiollhmbdhepkaaGreatDoor
namespace Go.Proofs.YtiollhmbdhepkaaGreatDoor.Mc
open Go.Proofs.YtiollhmbdhepkaaGreatDoor.Sh Go.Proofs.YtiollhmbdhepkaaGreatDoor.Fi
set_option maxRecDepth 100000
open Go.RowKit

set_option maxHeartbeats 4000000 in
set_option maxRecDepth 100000 in
theorem rlabel_any (v : Value) (K : List Int) (s : ByteArray) (p : Option Addr) (kc : Nat) (PP : List (List Int)) (w : World) (sl : Sl w v K) (hP : Parts w p PP) (hk : K.length ≤ 99000) (hs : s.size ≤ 10000) (hPl : PP.length ≤ 100) (hPs : ∀ i, (PP.getD i []).length ≤ 500) :
    Calls Tryz.prog 64 #[v, .string s, .slice p PP.length kc] w fun e w' => e = .returned (.agg (u8s (hmac K (labL s PP)))) ∧ Below w.heap.size w w' := by
  obtain ⟨wa, hwa⟩ : ∃ wa, wa = w.alloc (.cells (u8s (List.replicate 32 0)) 47) := ⟨_, rfl⟩
  have ba : Below w.heap.size w wa := by rw [hwa]; exact al_below _ _
  have g0 : wa.heap[w.heap.size]? = some (.cells (u8s (List.replicate 32 0)) 47 (0, 0)) := by rw [hwa]; exact heap_alloc_new _ _
  have hlt : w.heap.size < wa.heap.size := by rw [hwa]; simp
  have hwz : w.alloc (.cells #[.int .u8 0, .int .u8 0, .int .u8 0, .int .u8 0, .int .u8 0, .int .u8 0, .int .u8 0, .int .u8 0, .int .u8 0, .int .u8 0, .int .u8 0, .int .u8 0, .int .u8 0, .int .u8 0, .int .u8 0, .int .u8 0, .int .u8 0, .int .u8 0, .int .u8 0, .int .u8 0, .int .u8 0, .int .u8 0, .int .u8 0, .int .u8 0, .int .u8 0, .int .u8 0, .int .u8 0, .int .u8 0, .int .u8 0, .int .u8 0, .int .u8 0, .int .u8 0] 47) = wa := hwa.symm
  have HSA : Hid (∀ W, Below wa.heap.size wa W → Sl W v K) := fun W h => (sl.kept ba).kept h
  have HGA : Hid (∀ W, Below wa.heap.size wa W → W.heap[w.heap.size]? = some (.cells (u8s (List.replicate 32 0)) 47 (0, 0))) := fun W h => (h.block _ hlt).trans g0
  have HBA : Hid (∀ W, Below wa.heap.size wa W → Below w.heap.size w W) := fun W h => ba.trans (h.mono ba.size)
  have HPP : Hid (∀ j, j < PP.length → ∃ b off u, p = some ⟨b, off, none⟩ ∧ ∀ W, Below wa.heap.size wa W → W.cell? ⟨b, off + j, none⟩ = some u ∧ Sl W u (PP.getD j [])) := fun j hj => by
    rcases (hP.kept ba).2 with h | ⟨b, off, rfl, hall⟩
    · rw [h] at hj; simp at hj
    · obtain ⟨u, h1, h2⟩ := hall j hj
      exact ⟨b, off, u, rfl, fun W hW => ⟨(hW.cell (World.block_lt_of_cell? _ _ h1)).trans h1, h2.kept hW⟩⟩
  have HI2 : Hid ((Tryz.prog.info? 47).map (·.size) = some (u8s (hmac K (labL s PP))).size) := by unfold Hid; rw [u8s_size, hmac_len]; exact size26
  have HO2 : Hid ((u8s (List.replicate 32 0)).size = (u8s (hmac K (labL s PP))).size) := by unfold Hid; rw [u8s_size, u8s_size, hmac_len]; simp
  have HON : Hid ((u8s (hmac K (labL s PP))).all (·.oneCell') = true) := u8s_one _
  have HPS : Hid (∀ i, (PP.getD i []).length ≤ 500) := hPs
  -- what is laid of the first j
  obtain ⟨F, hF⟩ : ∃ F : Nat → List Int, F = fun j => labL s (PP.take j) := ⟨_, rfl⟩
  have HF0 : Hid (F 0 = textB s) := by rw [hF]; simp [Hid, labL]
  have HFS : Hid (∀ j, j < PP.length → F (j + 1) = F j ++ textL (PP.getD j [])) := fun j hj => by
    have e : PP.take (j + 1) = PP.take j ++ [PP.getD j []] := by
      rw [List.take_add_one, List.getElem?_eq_getElem hj]
      simp [List.getD, List.getElem?_eq_getElem hj]
    rw [hF]
    show textB s ++ ((PP.take (j + 1)).map textL).flatten = (textB s ++ ((PP.take j).map textL).flatten) ++ textL (PP.getD j [])
    rw [e, List.map_append, List.flatten_append, List.append_assoc]
    simp only [List.map_cons, List.map_nil, List.flatten_cons, List.flatten_nil, List.append_nil]
  have HFA : Hid (F PP.length = labL s PP) := by rw [hF]; unfold Hid; simp only [List.take_length]
  have HFL : Hid (∀ j, j ≤ PP.length → (F j).length ≤ 10008 + 508 * j) := by
    intro j
    induction j with
    | zero =>
      intro _
      rw [HF0.out]
      unfold textB
      rw [List.length_append, sb_len]
      have := numB_le (s.size : Int)
      omega
    | succ j ih =>
      intro hj
      rw [HFS.out j (by omega), List.length_append]
      have h1 := ih (by omega)
      have h2 := textL_le (PP.getD j [])
      have h3 := hPs j
      omega
  have HFB : Hid (∀ j, j ≤ PP.length → Pl.Byt (F j)) := by
    intro j
    induction j with
    | zero => intro _; rw [HF0.out]; exact textB_byt s
    | succ j ih =>
      intro hj
      rw [HFS.out j (by omega)]
      obtain ⟨_, _, u, _, h2⟩ := HPP.out j (by omega)
      exact byt_app (ih (by omega)) (textL_byt (h2 wa (Below.refl _ _)).2.bytes)
  clear hF
  have HKL : Hid (K.length ≤ 99000) := hk
  have c1 := rtextB_any s wa (by omega)
  obtain ⟨av, cv, rfl, -⟩ := sl
  obtain ⟨k, hk'⟩ : ∃ k, k = PP.length := ⟨_, rfl⟩
  rw [← hk'] at HPP HFS HFA HFL HFB hPl ⊢
  generalize labL s PP = LL at *
  obtain ⟨U, hU⟩ : ∃ U, U = u8s (hmac K LL) := ⟨_, rfl⟩
  have HU : Hid (U = u8s (hmac K LL)) := hU
  rw [← hU] at HI2 HO2 HON ⊢
  clear hU
  obtain ⟨n, hn⟩ : ∃ n, n = K.length := ⟨_, rfl⟩
  rw [← hn] at HSA ⊢
  clear hwa ba g0 hP hk' hPs hk hn
  go_enter Tryz.func64, Tryz.ntmps64
  go_wp2_with fail
  refine c1.mono ?_
  rintro e w1 ⟨v1, rfl, own1, b1⟩
  rw [← HF0.out] at own1
  have O1 : Hid (w1.ownsRow wa.heap.size 5 1 v1 (F 0).length ((F 0).map (Value.int .u8))) := own1
  have B1 : Hid (Below wa.heap.size wa w1) := b1
  clear c1 own1 b1
  go_wp2_with fail
  go_loopw [7, 8] (fun va q wr => ∃ j : Nat, j ≤ k ∧ q = .int .i64 j ∧ wr.ownsRow wa.heap.size 5 1 va (F j).length ((F j).map (Value.int .u8)) ∧ Below wa.heap.size wa wr) (fun _ q _ => k - (intOf q).toNat)
  case atStart => exact ⟨0, by omega, rfl, O1.out, B1.out⟩
  case round =>
    clear O1 B1
    obtain ⟨j, hj, rfl, own, bel⟩ := hrel
    have BE : Hid (Below wa.heap.size wa wr) := bel
    have OE : Hid (wr.ownsRow wa.heap.size 5 1 u7 (F j).length ((F j).map (Value.int .u8))) := own
    by_cases hltj : j < k
    · have lt2 : (j : Int) < (k : Int) := by omega
      obtain ⟨b, off, u, rfl, hu⟩ := HPP.out j hltj
      obtain ⟨kc1, su⟩ := hu wr bel
      have cvs : (convert 34 9 u).run Tryz.prog wr = .ok (.string (strB (PP.getD j []))) wr := by
        obtain ⟨au, cu, rfl, -⟩ := id su
        exact su.conv
      have ct := rtextB_any (strB (PP.getD j [])) wr (by rw [strB_size]; have := HPS.out j; omega)
      rw [textB_strB su.bytes] at ct
      have HTY : Hid (Pl.Byt (textL (PP.getD j []))) := textL_byt su.bytes
      have HTE : Hid (F (j + 1) = F j ++ textL (PP.getD j [])) := HFS.out j hltj
      have HTL : Hid ((textL (PP.getD j [])).length ≤ 508) := by unfold Hid; have h2 := textL_le (PP.getD j []); have := HPS.out j; omega
      have HFJ := HFL.out j hj
      obtain ⟨au, cu, rfl, -⟩ := su
      generalize strB (PP.getD j []) = SS at *
      generalize textL (PP.getD j []) = TX at *
      generalize (PP.getD j []).length = ul at *
      clear bel own hu
      go_wp2_with fail
      refine ct.mono ?_
      rintro e w2 ⟨v2, rfl, own2, b2⟩
      have B2 : Hid (Below wa.heap.size wa w2) := BE.out.trans (b2.mono BE.out.size)
      have s2 := sl_owned own2 HTY.out
      have O2 : w2.ownsRow wa.heap.size 5 1 u7 (F j).length ((F j).map (Value.int .u8)) := own_lt' OE.out (fun g _ hg => b2.block g hg)
      clear ct cvs kc1 own2 b2 OE
      go_wp2_with (at_builtin; refine wpList_append_sl rfl _ _ rfl wa.heap.size _ _ _ rfl O2 _ TX rfl s2 (by have := HTL.out; omega) B2.out.size (Hid.out ?_))
      unfold Hid
      intro v4 w4 own4 hg4
      rw [← List.map_append, ← List.length_append, ← HTE.out] at own4
      have O4 : Hid (w4.ownsRow wa.heap.size 5 1 v4 (F (j + 1)).length ((F (j + 1)).map (Value.int .u8))) := own4
      have B4 : Hid (Below wa.heap.size wa w4) := B2.out.grown hg4 B2.out.size (own_base O2)
      clear own4 hg4 s2 O2 HFJ
      go_wp2
      go_roundw
      case rel => exact ⟨j + 1, by omega, by go_num, O4.out, B4.out⟩
      case measure => simp [intOf]; omega
    · obtain rfl : j = k := by omega
      rw [HFA.out] at own
      have hll : LL.length ≤ 99000 := by have := HFL.out j hj; rw [HFA.out] at this; omega
      have s4 := sl_owned own (by have := HFB.out j hj; rwa [HFA.out] at this)
      have c9 := rmof_any _ u7 K LL wr (HSA.out wr bel) s4 HKL.out hll
      rw [← HU.out] at c9
      obtain ⟨a4, q4, rfl, -⟩ := s4
      clear own bel OE
      generalize LL.length = ll at *
      go_wp2_with fail
      refine c9.mono ?_
      rintro e w4 ⟨rfl, b4⟩
      have B4 : Below wa.heap.size wa w4 := BE.out.trans (b4.mono BE.out.size)
      have G4 : Hid (w4.heap[w.heap.size]? = some (.cells (u8s (List.replicate 32 0)) 47 (0, 0))) := HGA.out w4 B4
      have E4 : Hid (Below w.heap.size w w4) := HBA.out w4 B4
      clear c9 b4 B4
      go_wp2_with (refine wpList_store_row rfl 47 _ _ rfl w.heap.size U rfl rfl 47 _ G4.out HI2.out HO2.out HON.out ?_)
      refine bodyPost_ret (v := .agg U) (results_cell_row rfl _ _ w.heap.size 47 U (0, 0) _ rfl (setRow_heap _ _ _ _ _ _ G4.out) Tryz.underlying47 rfl HI2.out) rfl ⟨rfl, below_setRow E4.out (Nat.le_refl _) _⟩
end Go.Proofs.YtiollhmbdhepkaaGreatDoor.Mc
namespace Go.Proofs.YtiollhmbdhepkaaGreatDoor
open Go.RowKit Go.Proofs.YtiollhmbdhepkaaGreatDoor.Sh
set_option maxRecDepth 100000

theorem lab2 (v : Value) (K : List Int) (s : ByteArray) (p : Option Addr) (A B : List Int) (w : World) (ht : Mc.Tabs w) (sl : Sl w v K) (hP : Parts w p [A, B]) (hk : K.length ≤ 99000) (hs : s.size ≤ 10000) (hA : A.length = 16) (hB : B.length = 16) :
    Calls Tryz.prog 63 #[v, .string s, .slice p 2 2] w fun e w' => e = .returned (.agg (u8s (Mc.hmac K (Mc.labL s [A, B])))) ∧ Below w.heap.size w w' :=
  Mc.label_any v K s p 2 [A, B] w ht sl hP (by omega) (by omega) (by simp) (fun i => by rcases i with _ | _ | i <;> simp [hA, hB])
theorem rlab2 (v : Value) (K : List Int) (s : ByteArray) (p : Option Addr) (A B : List Int) (w : World) (sl : Sl w v K) (hP : Parts w p [A, B]) (hk : K.length ≤ 99000) (hs : s.size ≤ 10000) (hA : A.length = 16) (hB : B.length = 16) :
    Calls Tryz.prog 64 #[v, .string s, .slice p 2 2] w fun e w' => e = .returned (.agg (u8s (Mc.hmac K (Mc.labL s [A, B])))) ∧ Below w.heap.size w w' :=
  Mc.rlabel_any v K s p 2 [A, B] w sl hP (by omega) (by omega) (by simp) (fun i => by rcases i with _ | _ | i <;> simp [hA, hB])
theorem lab0 (v : Value) (K : List Int) (s : ByteArray) (w : World) (ht : Mc.Tabs w) (sl : Sl w v K) (hk : K.length ≤ 99000) (hs : s.size ≤ 10000) :
    Calls Tryz.prog 63 #[v, .string s, .slice none 0 0] w fun e w' => e = .returned (.agg (u8s (Mc.hmac K (Mc.labL s [])))) ∧ Below w.heap.size w w' :=
  Mc.label_any v K s none 0 [] w ht sl ⟨by simp, .inl rfl⟩ (by omega) (by omega) (by simp) (fun i => by simp)
theorem rlab0 (v : Value) (K : List Int) (s : ByteArray) (w : World) (sl : Sl w v K) (hk : K.length ≤ 99000) (hs : s.size ≤ 10000) :
    Calls Tryz.prog 64 #[v, .string s, .slice none 0 0] w fun e w' => e = .returned (.agg (u8s (Mc.hmac K (Mc.labL s [])))) ∧ Below w.heap.size w w' :=
  Mc.rlabel_any v K s none 0 [] w sl ⟨by simp, .inl rfl⟩ (by omega) (by omega) (by simp) (fun i => by simp)
theorem emp_from {u n : World} (h : n = u.alloc (.cells #[] 5)) : ∀ x, From n x → x.heap[u.heap.size]? = some (.cells #[] 5 (0, 0)) := fun x hx => by
  have h0 : n.heap[u.heap.size]? = some (.cells #[] 5 (0, 0)) := by rw [h]; exact heap_alloc_new _ _
  exact blk_kept h0 hx (blk_lt h0)
theorem key_len (K X : List Int) : (u8s (Mc.hmac K X)).size = 32 := by rw [u8s_size, Mc.hmac_len]
set_option maxHeartbeats 4000000 in
theorem pfirst_any (v : Value) (K : List Int) (w : World) (ht : Mc.Tabs w) (sl : Sl w v K) (hk : K.length ≤ 99000) :
    Calls Tryz.prog 25 #[v] w fun e w' => e = .returned (.agg (u8s (Mc.hmac K (Mc.labL ⟨#[102, 105, 114, 115, 116]⟩ [])))) ∧ Below w.heap.size w w' := by
  obtain ⟨W1, hW1⟩ : ∃ W1, W1 = w.alloc (.cells #[.int .u8 0, .int .u8 0, .int .u8 0, .int .u8 0, .int .u8 0, .int .u8 0, .int .u8 0, .int .u8 0, .int .u8 0, .int .u8 0, .int .u8 0, .int .u8 0, .int .u8 0, .int .u8 0, .int .u8 0, .int .u8 0, .int .u8 0, .int .u8 0, .int .u8 0, .int .u8 0, .int .u8 0, .int .u8 0, .int .u8 0, .int .u8 0, .int .u8 0, .int .u8 0, .int .u8 0, .int .u8 0, .int .u8 0, .int .u8 0, .int .u8 0, .int .u8 0] 47) := ⟨_, rfl⟩
  have b1 : Below w.heap.size w W1 := by rw [hW1]; exact al_below _ _
  have HB : Hid (Below w.heap.size w W1) := b1
  have HG : Hid (W1.heap[w.heap.size]? = some (.cells #[.int .u8 0, .int .u8 0, .int .u8 0, .int .u8 0, .int .u8 0, .int .u8 0, .int .u8 0, .int .u8 0, .int .u8 0, .int .u8 0, .int .u8 0, .int .u8 0, .int .u8 0, .int .u8 0, .int .u8 0, .int .u8 0, .int .u8 0, .int .u8 0, .int .u8 0, .int .u8 0, .int .u8 0, .int .u8 0, .int .u8 0, .int .u8 0, .int .u8 0, .int .u8 0, .int .u8 0, .int .u8 0, .int .u8 0, .int .u8 0, .int .u8 0, .int .u8 0] 47 (0, 0))) := by unfold Hid; rw [hW1]; exact heap_alloc_new _ _
  have cl := lab0 v K ⟨#[102, 105, 114, 115, 116]⟩ W1 (ht.kept b1) (sl.kept b1) hk (by decide)
  have HZ : Hid ((Tryz.prog.info? 47).map (·.size) = some (u8s (Mc.hmac K (Mc.labL ⟨#[102, 105, 114, 115, 116]⟩ []))).size) := by unfold Hid; rw [key_len]; exact size26
  have HO : Hid ((#[.int .u8 0, .int .u8 0, .int .u8 0, .int .u8 0, .int .u8 0, .int .u8 0, .int .u8 0, .int .u8 0, .int .u8 0, .int .u8 0, .int .u8 0, .int .u8 0, .int .u8 0, .int .u8 0, .int .u8 0, .int .u8 0, .int .u8 0, .int .u8 0, .int .u8 0, .int .u8 0, .int .u8 0, .int .u8 0, .int .u8 0, .int .u8 0, .int .u8 0, .int .u8 0, .int .u8 0, .int .u8 0, .int .u8 0, .int .u8 0, .int .u8 0, .int .u8 0] : Array Value).size = (u8s (Mc.hmac K (Mc.labL ⟨#[102, 105, 114, 115, 116]⟩ []))).size) := by unfold Hid; rw [key_len]; rfl
  obtain ⟨a, c, rfl, -⟩ := id sl
  clear b1 ht sl hk
  generalize K.length = kl at *
  generalize Mc.hmac K (Mc.labL ⟨#[102, 105, 114, 115, 116]⟩ []) = M at *
  go_enter Tryz.func25, Tryz.ntmps25
  go_upto_region 1 with fail
  rw [← hW1]
  clear hW1
  go_wp2_with fail
  refine cl.mono ?_
  rintro e w2 ⟨rfl, b2⟩
  have HB2 : Hid (Below w.heap.size w w2) := HB.out.trans (b2.mono HB.out.size)
  have HG2 : Hid (w2.heap[w.heap.size]? = some (.cells #[.int .u8 0, .int .u8 0, .int .u8 0, .int .u8 0, .int .u8 0, .int .u8 0, .int .u8 0, .int .u8 0, .int .u8 0, .int .u8 0, .int .u8 0, .int .u8 0, .int .u8 0, .int .u8 0, .int .u8 0, .int .u8 0, .int .u8 0, .int .u8 0, .int .u8 0, .int .u8 0, .int .u8 0, .int .u8 0, .int .u8 0, .int .u8 0, .int .u8 0, .int .u8 0, .int .u8 0, .int .u8 0, .int .u8 0, .int .u8 0, .int .u8 0, .int .u8 0] 47 (0, 0))) := blk_kept HG.out b2 (blk_lt HG.out)
  clear cl b2 HB HG
  go_wp2_with (refine wpList_store_row rfl 47 _ _ rfl w.heap.size (u8s M) rfl rfl 47 _ HG2.out HZ.out HO.out (u8s_one _) (Hid.out ?_))
  unfold Hid
  go_wp2
  refine bodyPost_ret (v := .agg (u8s M)) (results_cell_row rfl _ _ w.heap.size 47 (u8s M) (0, 0) _ rfl (setRow_heap _ _ _ _ _ _ HG2.out) Tryz.underlying47 rfl HZ.out) rfl ?_
  exact ⟨rfl, below_setRow HB2.out (Nat.le_refl _) _⟩
set_option maxHeartbeats 4000000 in
theorem rfirst_any (v : Value) (K : List Int) (w : World) (sl : Sl w v K) (hk : K.length ≤ 99000) :
    Calls Tryz.prog 26 #[v] w fun e w' => e = .returned (.agg (u8s (Mc.hmac K (Mc.labL ⟨#[102, 105, 114, 115, 116]⟩ [])))) ∧ Below w.heap.size w w' := by
  obtain ⟨W1, hW1⟩ : ∃ W1, W1 = w.alloc (.cells #[.int .u8 0, .int .u8 0, .int .u8 0, .int .u8 0, .int .u8 0, .int .u8 0, .int .u8 0, .int .u8 0, .int .u8 0, .int .u8 0, .int .u8 0, .int .u8 0, .int .u8 0, .int .u8 0, .int .u8 0, .int .u8 0, .int .u8 0, .int .u8 0, .int .u8 0, .int .u8 0, .int .u8 0, .int .u8 0, .int .u8 0, .int .u8 0, .int .u8 0, .int .u8 0, .int .u8 0, .int .u8 0, .int .u8 0, .int .u8 0, .int .u8 0, .int .u8 0] 47) := ⟨_, rfl⟩
  have b1 : Below w.heap.size w W1 := by rw [hW1]; exact al_below _ _
  have HB : Hid (Below w.heap.size w W1) := b1
  have HG : Hid (W1.heap[w.heap.size]? = some (.cells #[.int .u8 0, .int .u8 0, .int .u8 0, .int .u8 0, .int .u8 0, .int .u8 0, .int .u8 0, .int .u8 0, .int .u8 0, .int .u8 0, .int .u8 0, .int .u8 0, .int .u8 0, .int .u8 0, .int .u8 0, .int .u8 0, .int .u8 0, .int .u8 0, .int .u8 0, .int .u8 0, .int .u8 0, .int .u8 0, .int .u8 0, .int .u8 0, .int .u8 0, .int .u8 0, .int .u8 0, .int .u8 0, .int .u8 0, .int .u8 0, .int .u8 0, .int .u8 0] 47 (0, 0))) := by unfold Hid; rw [hW1]; exact heap_alloc_new _ _
  have cl := rlab0 v K ⟨#[102, 105, 114, 115, 116]⟩ W1 (sl.kept b1) hk (by decide)
  have HZ : Hid ((Tryz.prog.info? 47).map (·.size) = some (u8s (Mc.hmac K (Mc.labL ⟨#[102, 105, 114, 115, 116]⟩ []))).size) := by unfold Hid; rw [key_len]; exact size26
  have HO : Hid ((#[.int .u8 0, .int .u8 0, .int .u8 0, .int .u8 0, .int .u8 0, .int .u8 0, .int .u8 0, .int .u8 0, .int .u8 0, .int .u8 0, .int .u8 0, .int .u8 0, .int .u8 0, .int .u8 0, .int .u8 0, .int .u8 0, .int .u8 0, .int .u8 0, .int .u8 0, .int .u8 0, .int .u8 0, .int .u8 0, .int .u8 0, .int .u8 0, .int .u8 0, .int .u8 0, .int .u8 0, .int .u8 0, .int .u8 0, .int .u8 0, .int .u8 0, .int .u8 0] : Array Value).size = (u8s (Mc.hmac K (Mc.labL ⟨#[102, 105, 114, 115, 116]⟩ []))).size) := by unfold Hid; rw [key_len]; rfl
  obtain ⟨a, c, rfl, -⟩ := id sl
  clear b1 sl hk
  generalize K.length = kl at *
  generalize Mc.hmac K (Mc.labL ⟨#[102, 105, 114, 115, 116]⟩ []) = M at *
  go_enter Tryz.func26, Tryz.ntmps26
  go_upto_region 1 with fail
  rw [← hW1]
  clear hW1
  go_wp2_with fail
  refine cl.mono ?_
  rintro e w2 ⟨rfl, b2⟩
  have HB2 : Hid (Below w.heap.size w w2) := HB.out.trans (b2.mono HB.out.size)
  have HG2 : Hid (w2.heap[w.heap.size]? = some (.cells #[.int .u8 0, .int .u8 0, .int .u8 0, .int .u8 0, .int .u8 0, .int .u8 0, .int .u8 0, .int .u8 0, .int .u8 0, .int .u8 0, .int .u8 0, .int .u8 0, .int .u8 0, .int .u8 0, .int .u8 0, .int .u8 0, .int .u8 0, .int .u8 0, .int .u8 0, .int .u8 0, .int .u8 0, .int .u8 0, .int .u8 0, .int .u8 0, .int .u8 0, .int .u8 0, .int .u8 0, .int .u8 0, .int .u8 0, .int .u8 0, .int .u8 0, .int .u8 0] 47 (0, 0))) := blk_kept HG.out b2 (blk_lt HG.out)
  clear cl b2 HB HG
  go_wp2_with (refine wpList_store_row rfl 47 _ _ rfl w.heap.size (u8s M) rfl rfl 47 _ HG2.out HZ.out HO.out (u8s_one _) (Hid.out ?_))
  unfold Hid
  go_wp2
  refine bodyPost_ret (v := .agg (u8s M)) (results_cell_row rfl _ _ w.heap.size 47 (u8s M) (0, 0) _ rfl (setRow_heap _ _ _ _ _ _ HG2.out) Tryz.underlying47 rfl HZ.out) rfl ?_
  exact ⟨rfl, below_setRow HB2.out (Nat.le_refl _) _⟩
theorem retKp {tmps : Array Value} {w : World} {g h : Nat} {C S : Array Value} (hp : tmps.getD 6 undef = .pointer (some ⟨g, 0, none⟩)) (hq : tmps.getD 7 undef = .pointer (some ⟨h, 0, none⟩))
    (hg : w.heap[g]? = some (.cells C 47 (0, 0))) (hh : w.heap[h]? = some (.cells S 47 (0, 0))) (hC : C.size = 32) (hS : S.size = 32) : (results Tryz.f23 tmps).run Tryz.prog w = .ok (.tuple #[.agg C, .agg S]) w := by
  have l1 : (loadVar 47 ⟨g, 0, none⟩).run Tryz.prog w = .ok (.agg C) w := run_loadVar_row w g 47 47 C (0, 0) _ hg Tryz.underlying47 rfl (by rw [hC]; exact size26)
  have l2 : (loadVar 47 ⟨h, 0, none⟩).run Tryz.prog w = .ok (.agg S) w := run_loadVar_row w h 47 47 S (0, 0) _ hh Tryz.underlying47 rfl (by rw [hS]; exact size26)
  have hr : Tryz.f23.results = #[.cell 6 47, .cell 7 47] := rfl
  have hp' : tmps[6]?.getD undef = .pointer (some ⟨g, 0, none⟩) := by simpa using hp
  have hq' : tmps[7]?.getD undef = .pointer (some ⟨h, 0, none⟩) := by simpa using hq
  simp [results, hp', hq', asAddr, l1, l2]
theorem retKr {tmps : Array Value} {w : World} {g h : Nat} {C S : Array Value} (hp : tmps.getD 6 undef = .pointer (some ⟨g, 0, none⟩)) (hq : tmps.getD 7 undef = .pointer (some ⟨h, 0, none⟩))
    (hg : w.heap[g]? = some (.cells C 47 (0, 0))) (hh : w.heap[h]? = some (.cells S 47 (0, 0))) (hC : C.size = 32) (hS : S.size = 32) : (results Tryz.f24 tmps).run Tryz.prog w = .ok (.tuple #[.agg C, .agg S]) w := by
  have l1 : (loadVar 47 ⟨g, 0, none⟩).run Tryz.prog w = .ok (.agg C) w := run_loadVar_row w g 47 47 C (0, 0) _ hg Tryz.underlying47 rfl (by rw [hC]; exact size26)
  have l2 : (loadVar 47 ⟨h, 0, none⟩).run Tryz.prog w = .ok (.agg S) w := run_loadVar_row w h 47 47 S (0, 0) _ hh Tryz.underlying47 rfl (by rw [hS]; exact size26)
  have hr : Tryz.f24.results = #[.cell 6 47, .cell 7 47] := rfl
  have hp' : tmps[6]?.getD undef = .pointer (some ⟨g, 0, none⟩) := by simpa using hp
  have hq' : tmps[7]?.getD undef = .pointer (some ⟨h, 0, none⟩) := by simpa using hq
  simp [results, hp', hq', asAddr, l1, l2]
set_option maxHeartbeats 8000000 in
theorem pkeys_any (v : Value) (K A B : List Int) (w : World) (ht : Mc.Tabs w) (sl : Sl w v K) (hk : K.length ≤ 99000) (hA : A.length = 16) (hB : B.length = 16) (hAb : Pl.Byt A) (hBb : Pl.Byt B) :
    Calls Tryz.prog 23 #[v, .agg (u8s A), .agg (u8s B)] w fun e w' => e = .returned (.tuple #[.agg (u8s (Mc.hmac K (Mc.labL ⟨#[99, 108, 105, 101, 110, 116]⟩ [A, B]))), .agg (u8s (Mc.hmac K (Mc.labL ⟨#[115, 101, 114, 118, 101, 114]⟩ [A, B])))]) ∧ Below w.heap.size w w' := by
  obtain ⟨W1, hW1⟩ : ∃ W1, W1 = w.alloc (.cells (u8s A) 22) := ⟨_, rfl⟩
  obtain ⟨W2, hW2⟩ : ∃ W2, W2 = W1.alloc (.cells (u8s B) 22) := ⟨_, rfl⟩
  obtain ⟨W3, hW3⟩ : ∃ W3, W3 = W2.alloc (.cells #[.int .u8 0, .int .u8 0, .int .u8 0, .int .u8 0, .int .u8 0, .int .u8 0, .int .u8 0, .int .u8 0, .int .u8 0, .int .u8 0, .int .u8 0, .int .u8 0, .int .u8 0, .int .u8 0, .int .u8 0, .int .u8 0, .int .u8 0, .int .u8 0, .int .u8 0, .int .u8 0, .int .u8 0, .int .u8 0, .int .u8 0, .int .u8 0, .int .u8 0, .int .u8 0, .int .u8 0, .int .u8 0, .int .u8 0, .int .u8 0, .int .u8 0, .int .u8 0] 47) := ⟨_, rfl⟩
  obtain ⟨W4, hW4⟩ : ∃ W4, W4 = W3.alloc (.cells #[.int .u8 0, .int .u8 0, .int .u8 0, .int .u8 0, .int .u8 0, .int .u8 0, .int .u8 0, .int .u8 0, .int .u8 0, .int .u8 0, .int .u8 0, .int .u8 0, .int .u8 0, .int .u8 0, .int .u8 0, .int .u8 0, .int .u8 0, .int .u8 0, .int .u8 0, .int .u8 0, .int .u8 0, .int .u8 0, .int .u8 0, .int .u8 0, .int .u8 0, .int .u8 0, .int .u8 0, .int .u8 0, .int .u8 0, .int .u8 0, .int .u8 0, .int .u8 0] 47) := ⟨_, rfl⟩
  have z1 : W1.heap.size = w.heap.size + 1 := by rw [hW1]; simp
  have z2 : W2.heap.size = w.heap.size + 2 := by rw [hW2]; simp; omega
  have z3 : W3.heap.size = w.heap.size + 3 := by rw [hW3]; simp; omega
  have b1 : Below w.heap.size w W1 := by rw [hW1]; exact al_below _ _
  have b12 : Below W1.heap.size W1 W2 := by rw [hW2]; exact al_below _ _
  have b23 : Below W2.heap.size W2 W3 := by rw [hW3]; exact al_below _ _
  have b34 : Below W3.heap.size W3 W4 := by rw [hW4]; exact al_below _ _
  have b2 : Below w.heap.size w W2 := b1.trans (b12.mono b1.size)
  have b3 : Below w.heap.size w W3 := b2.trans (b23.mono b2.size)
  have b4 : Below w.heap.size w W4 := b3.trans (b34.mono b3.size)
  have b24 : Below W2.heap.size W2 W4 := b23.trans (b34.mono b23.size)
  have b14 : Below W1.heap.size W1 W4 := b12.trans (b24.mono b12.size)
  have g0 : W4.heap[w.heap.size]? = some (.cells (u8s A) 22 (0, 0)) := by
    have h : W1.heap[w.heap.size]? = some (.cells (u8s A) 22 (0, 0)) := by rw [hW1]; exact heap_alloc_new _ _
    exact blk_kept h b14 (blk_lt h)
  have g1 : W4.heap[w.heap.size + 1]? = some (.cells (u8s B) 22 (0, 0)) := by
    have h : W2.heap[w.heap.size + 1]? = some (.cells (u8s B) 22 (0, 0)) := by rw [hW2, ← z1]; exact heap_alloc_new _ _
    exact blk_kept h b24 (blk_lt h)
  have g2 : W4.heap[w.heap.size + 2]? = some (.cells #[.int .u8 0, .int .u8 0, .int .u8 0, .int .u8 0, .int .u8 0, .int .u8 0, .int .u8 0, .int .u8 0, .int .u8 0, .int .u8 0, .int .u8 0, .int .u8 0, .int .u8 0, .int .u8 0, .int .u8 0, .int .u8 0, .int .u8 0, .int .u8 0, .int .u8 0, .int .u8 0, .int .u8 0, .int .u8 0, .int .u8 0, .int .u8 0, .int .u8 0, .int .u8 0, .int .u8 0, .int .u8 0, .int .u8 0, .int .u8 0, .int .u8 0, .int .u8 0] 47 (0, 0)) := by
    have h : W3.heap[w.heap.size + 2]? = some (.cells #[.int .u8 0, .int .u8 0, .int .u8 0, .int .u8 0, .int .u8 0, .int .u8 0, .int .u8 0, .int .u8 0, .int .u8 0, .int .u8 0, .int .u8 0, .int .u8 0, .int .u8 0, .int .u8 0, .int .u8 0, .int .u8 0, .int .u8 0, .int .u8 0, .int .u8 0, .int .u8 0, .int .u8 0, .int .u8 0, .int .u8 0, .int .u8 0, .int .u8 0, .int .u8 0, .int .u8 0, .int .u8 0, .int .u8 0, .int .u8 0, .int .u8 0, .int .u8 0] 47 (0, 0)) := by rw [hW3, ← z2]; exact heap_alloc_new _ _
    exact blk_kept h b34 (blk_lt h)
  have g3 : W4.heap[w.heap.size + 3]? = some (.cells #[.int .u8 0, .int .u8 0, .int .u8 0, .int .u8 0, .int .u8 0, .int .u8 0, .int .u8 0, .int .u8 0, .int .u8 0, .int .u8 0, .int .u8 0, .int .u8 0, .int .u8 0, .int .u8 0, .int .u8 0, .int .u8 0, .int .u8 0, .int .u8 0, .int .u8 0, .int .u8 0, .int .u8 0, .int .u8 0, .int .u8 0, .int .u8 0, .int .u8 0, .int .u8 0, .int .u8 0, .int .u8 0, .int .u8 0, .int .u8 0, .int .u8 0, .int .u8 0] 47 (0, 0)) := by rw [hW4, ← z3]; exact heap_alloc_new _ _
  have FA : Hid (∀ x, From W4 x → Sl x (.slice (some ⟨w.heap.size, 0, none⟩) 16 16) A) := fun x hx => by
    have := Mc.sl_row (blk_kept g0 hx (blk_lt g0)) hAb (by rw [hA]; decide)
    rwa [hA] at this
  have FBB : Hid (∀ x, From W4 x → Sl x (.slice (some ⟨w.heap.size + 1, 0, none⟩) 16 16) B) := fun x hx => by
    have := Mc.sl_row (blk_kept g1 hx (blk_lt g1)) hBb (by rw [hB]; decide)
    rwa [hB] at this
  have FK : Hid (∀ x, From W4 x → Sl x v K) := fun x hx => (sl.kept b4).kept hx
  have FG2 : Hid (∀ x, From W4 x → x.heap[w.heap.size + 2]? = some (.cells #[.int .u8 0, .int .u8 0, .int .u8 0, .int .u8 0, .int .u8 0, .int .u8 0, .int .u8 0, .int .u8 0, .int .u8 0, .int .u8 0, .int .u8 0, .int .u8 0, .int .u8 0, .int .u8 0, .int .u8 0, .int .u8 0, .int .u8 0, .int .u8 0, .int .u8 0, .int .u8 0, .int .u8 0, .int .u8 0, .int .u8 0, .int .u8 0, .int .u8 0, .int .u8 0, .int .u8 0, .int .u8 0, .int .u8 0, .int .u8 0, .int .u8 0, .int .u8 0] 47 (0, 0))) := fun x hx => blk_kept g2 hx (blk_lt g2)
  have FG3 : Hid (∀ x, From W4 x → x.heap[w.heap.size + 3]? = some (.cells #[.int .u8 0, .int .u8 0, .int .u8 0, .int .u8 0, .int .u8 0, .int .u8 0, .int .u8 0, .int .u8 0, .int .u8 0, .int .u8 0, .int .u8 0, .int .u8 0, .int .u8 0, .int .u8 0, .int .u8 0, .int .u8 0, .int .u8 0, .int .u8 0, .int .u8 0, .int .u8 0, .int .u8 0, .int .u8 0, .int .u8 0, .int .u8 0, .int .u8 0, .int .u8 0, .int .u8 0, .int .u8 0, .int .u8 0, .int .u8 0, .int .u8 0, .int .u8 0] 47 (0, 0))) := fun x hx => blk_kept g3 hx (blk_lt g3)
  have FB : Hid (∀ x, From W4 x → Below w.heap.size w x) := fun x hx => b4.trans (Below.mono hx b4.size)
  have HAL : Hid (A.length = 16 ∧ B.length = 16 ∧ K.length ≤ 99000) := ⟨hA, hB, hk⟩
  have hWW : W4 = (((w.alloc (.cells (u8s A) 22)).alloc (.cells (u8s B) 22)).alloc (.cells #[.int .u8 0, .int .u8 0, .int .u8 0, .int .u8 0, .int .u8 0, .int .u8 0, .int .u8 0, .int .u8 0, .int .u8 0, .int .u8 0, .int .u8 0, .int .u8 0, .int .u8 0, .int .u8 0, .int .u8 0, .int .u8 0, .int .u8 0, .int .u8 0, .int .u8 0, .int .u8 0, .int .u8 0, .int .u8 0, .int .u8 0, .int .u8 0, .int .u8 0, .int .u8 0, .int .u8 0, .int .u8 0, .int .u8 0, .int .u8 0, .int .u8 0, .int .u8 0] 47)).alloc (.cells #[.int .u8 0, .int .u8 0, .int .u8 0, .int .u8 0, .int .u8 0, .int .u8 0, .int .u8 0, .int .u8 0, .int .u8 0, .int .u8 0, .int .u8 0, .int .u8 0, .int .u8 0, .int .u8 0, .int .u8 0, .int .u8 0, .int .u8 0, .int .u8 0, .int .u8 0, .int .u8 0, .int .u8 0, .int .u8 0, .int .u8 0, .int .u8 0, .int .u8 0, .int .u8 0, .int .u8 0, .int .u8 0, .int .u8 0, .int .u8 0, .int .u8 0, .int .u8 0] 47) := by rw [hW4, hW3, hW2, hW1]
  have FT : Hid (∀ x, From W4 x → Mc.Tabs x) := fun x hx => (ht.kept b4).kept hx
  have CC : Hid (∀ (x : World) (p : Option Addr), Mc.Tabs x → Sl x v K → Parts x p [A, B] → Calls Tryz.prog 63 #[v, .string ⟨#[99, 108, 105, 101, 110, 116]⟩, .slice p 2 2] x fun e w' => e = .returned (.agg (u8s (Mc.hmac K (Mc.labL ⟨#[99, 108, 105, 101, 110, 116]⟩ [A, B])))) ∧ Below x.heap.size x w') := fun x p h1 h2 h3 => lab2 v K ⟨#[99, 108, 105, 101, 110, 116]⟩ p A B x h1 h2 h3 hk (by decide) hA hB
  have CS : Hid (∀ (x : World) (p : Option Addr), Mc.Tabs x → Sl x v K → Parts x p [A, B] → Calls Tryz.prog 63 #[v, .string ⟨#[115, 101, 114, 118, 101, 114]⟩, .slice p 2 2] x fun e w' => e = .returned (.agg (u8s (Mc.hmac K (Mc.labL ⟨#[115, 101, 114, 118, 101, 114]⟩ [A, B])))) ∧ Below x.heap.size x w') := fun x p h1 h2 h3 => lab2 v K ⟨#[115, 101, 114, 118, 101, 114]⟩ p A B x h1 h2 h3 hk (by decide) hA hB
  clear ht
  obtain ⟨a, c, rfl, -⟩ := id sl
  have CO : Hid ((u8s (Mc.hmac K (Mc.labL ⟨#[99, 108, 105, 101, 110, 116]⟩ [A, B]))).size = 32) := key_len _ _
  have SO : Hid ((u8s (Mc.hmac K (Mc.labL ⟨#[115, 101, 114, 118, 101, 114]⟩ [A, B]))).size = 32) := key_len _ _
  clear hW1 hW2 hW3 hW4 z1 z2 z3 b1 b12 b23 b34 b2 b3 b4 b24 b14 g0 g1 g2 g3 sl hA hB hAb hBb hk
  generalize K.length = kl at *
  obtain ⟨CK, hCK⟩ : ∃ M, M = Mc.hmac K (Mc.labL ⟨#[99, 108, 105, 101, 110, 116]⟩ [A, B]) := ⟨_, rfl⟩
  obtain ⟨SK, hSK⟩ : ∃ M, M = Mc.hmac K (Mc.labL ⟨#[115, 101, 114, 118, 101, 114]⟩ [A, B]) := ⟨_, rfl⟩
  rw [← hCK] at CC CO ⊢
  rw [← hSK] at CS SO ⊢
  clear hCK hSK
  generalize u8s A = UA at *
  generalize u8s B = UB at *
  go_enter Tryz.func23, Tryz.ntmps23
  go_upto_region 1 with fail
  rw [← hWW]
  clear hWW
  refine wp_region_held_drew (S := fun _ => True) (by kernel_rfl) trivial (fun _ => ?_)
  refine wpAnyH_name (fun u0 hu0 => ?_)
  have bu0 : Below W4.heap.size W4 u0 := by rw [hu0.out]; exact (Below.refl _ _).drew
  replace FA := on FA bu0
  replace FBB := on FBB bu0
  replace FK := on FK bu0
  replace FT := on FT bu0
  replace FG2 := on FG2 bu0
  replace FG3 := on FG3 bu0
  replace FB := on FB bu0
  refine wpAnyH_take (i := 0) (oi := { dst := some 8, op := Op.move (Operand.tmp 0), type := 34, pos := "packet.go:89", after := #[], guard := none }) (v := ?vk1) rfl (by kernel_rfl) (by kernel_rfl) (by kernel_rfl) (fun _ _ _ h => h) (Or.inl ⟨by rfl, ?yk1⟩) trivial ?rk1
  case yk1 => (intro w hSw; go_simp; try with_reducible rfl)
  try simp only [Act.put, List.setIfInBounds_toArray, List.set_cons_zero, List.set_cons_succ]
  refine wpAnyH_take (i := 1) (oi := { dst := some 9, op := Op.slice 22 (Operand.tmp 4) none none none, type := 34, pos := "packet.go:89", after := #[], guard := none }) (v := ?vk2) rfl (by kernel_rfl) (by kernel_rfl) (by kernel_rfl) (fun _ _ _ h => h) (Or.inl ⟨by rfl, ?yk2⟩) trivial ?rk2
  case yk2 => (intro w hSw; go_simp; try with_reducible rfl)
  try simp only [Act.put, List.setIfInBounds_toArray, List.set_cons_zero, List.set_cons_succ]
  refine wpAnyH_take (i := 2) (oi := { dst := some 10, op := Op.slice 22 (Operand.tmp 5) none none none, type := 34, pos := "packet.go:89", after := #[], guard := none }) (v := ?vk3) rfl (by kernel_rfl) (by kernel_rfl) (by kernel_rfl) (fun _ _ _ h => h) (Or.inl ⟨by rfl, ?yk3⟩) trivial ?rk3
  case yk3 => (intro w hSw; go_simp; try with_reducible rfl)
  try simp only [Act.put, List.setIfInBounds_toArray, List.set_cons_zero, List.set_cons_succ]
  refine wpAnyH_take (i := 5) (oi := { dst := some 13, op := Op.move (Operand.tmp 0), type := 34, pos := "packet.go:89", after := #[], guard := none }) (v := ?vk4) rfl (by kernel_rfl) (by kernel_rfl) (by kernel_rfl) (fun _ _ _ h => h) (Or.inl ⟨by rfl, ?yk4⟩) trivial ?rk4
  case yk4 => (intro w hSw; go_simp; try with_reducible rfl)
  try simp only [Act.put, List.setIfInBounds_toArray, List.set_cons_zero, List.set_cons_succ]
  refine wpAnyH_take (i := 6) (oi := { dst := some 14, op := Op.slice 22 (Operand.tmp 4) none none none, type := 34, pos := "packet.go:89", after := #[], guard := none }) (v := ?vk5) rfl (by kernel_rfl) (by kernel_rfl) (by kernel_rfl) (fun _ _ _ h => h) (Or.inl ⟨by rfl, ?yk5⟩) trivial ?rk5
  case yk5 => (intro w hSw; go_simp; try with_reducible rfl)
  try simp only [Act.put, List.setIfInBounds_toArray, List.set_cons_zero, List.set_cons_succ]
  refine wpAnyH_take (i := 7) (oi := { dst := some 15, op := Op.slice 22 (Operand.tmp 5) none none none, type := 34, pos := "packet.go:89", after := #[], guard := none }) (v := ?vk6) rfl (by kernel_rfl) (by kernel_rfl) (by kernel_rfl) (fun _ _ _ h => h) (Or.inl ⟨by rfl, ?yk6⟩) trivial ?rk6
  case yk6 => (intro w hSw; go_simp; try with_reducible rfl)
  try simp only [Act.put, List.setIfInBounds_toArray, List.set_cons_zero, List.set_cons_succ]
  refine wpAnyH_ready (rs := [3, 8]) (by kernel_rfl) (by simp) ?_
  refine AllReadyH.cons (o := { dst := some 11, op := Op.buildSlice 100 2 #[(0, Operand.tmp 9), (1, Operand.tmp 10)], type := 100, pos := "packet.go:89", after := #[{ on := 1, ground := Ground.data }, { on := 2, ground := Ground.data }], guard := none }) rfl (fun KK hKK => ?_) ?_
  · have pu7 := parts2 u0 _ _ A B (FA.out _ (Below.refl _ _)) (FBB.out _ (Below.refl _ _))
    go_simp
    refine hKK.out _ _ trivial (fun _ => ?_)
    clear hKK KK
    try simp only [Act.put, List.setIfInBounds_toArray, List.set_cons_zero, List.set_cons_succ]
    refine wpAnyH_name (fun u7 hu7 => ?_)
    have bu7 : Below u0.heap.size u0 u7 := by rw [hu7.out]; exact (al_below _ _)
    replace FA := on FA bu7
    replace FBB := on FBB bu7
    replace FK := on FK bu7
    replace FT := on FT bu7
    replace FG2 := on FG2 bu7
    replace FG3 := on FG3 bu7
    replace FB := on FB bu7
    have FP3 : Hid (∀ x, From u7 x → Parts x (some ⟨u0.heap.size, 0, none⟩) [A, B]) := fun x hx => parts_kept (by rw [hu7.out]; exact pu7) hx
    clear pu7
    refine wpAnyH_ready (rs := [4, 8]) (by kernel_rfl) (by simp) ?_
    refine AllReadyH.cons (o := { dst := some 12, op := Op.call { callee := Callee.value (Operand.func 63), args := #[Operand.tmp 8, Operand.const (Value.string { data := #[99, 108, 105, 101, 110, 116] }), Operand.tmp 11], argTypes := #[34, 9, 100] }, type := 47, pos := "packet.go:89", after := #[{ on := 0, ground := Ground.data }, { on := 3, ground := Ground.data }], guard := none }) rfl (fun KK hKK => ?_) ?_
    · go_simp
      refine (CC.out _ _ (FT.out _ (Below.refl _ _)) (FK.out _ (Below.refl _ _)) (FP3.out _ (Below.refl _ _))).mono ?_
      rintro e u8' ⟨rfl, bu8'⟩
      (try go_wp2_with fail)
      refine hKK.out _ _ trivial (fun _ => ?_)
      clear hKK KK
      try simp only [Act.put, List.setIfInBounds_toArray, List.set_cons_zero, List.set_cons_succ]
      refine wpAnyH_name (fun u8 hu8 => ?_)
      have bu8 : Below u7.heap.size u7 u8 := by rw [hu8.out]; exact (bu8')
      replace FA := on FA bu8
      replace FBB := on FBB bu8
      replace FK := on FK bu8
      replace FT := on FT bu8
      replace FG2 := on FG2 bu8
      replace FG3 := on FG3 bu8
      replace FB := on FB bu8
      replace FP3 := on FP3 bu8
      refine wpAnyH_ready (rs := [8]) (by kernel_rfl) (by simp) ?_
      refine AllReadyH.cons (o := { dst := some 16, op := Op.buildSlice 100 2 #[(0, Operand.tmp 14), (1, Operand.tmp 15)], type := 100, pos := "packet.go:89", after := #[{ on := 6, ground := Ground.data }, { on := 7, ground := Ground.data }], guard := none }) rfl (fun KK hKK => ?_) ?_
      · have pu9 := parts2 u8 _ _ A B (FA.out _ (Below.refl _ _)) (FBB.out _ (Below.refl _ _))
        go_simp
        refine hKK.out _ _ trivial (fun _ => ?_)
        clear hKK KK
        try simp only [Act.put, List.setIfInBounds_toArray, List.set_cons_zero, List.set_cons_succ]
        refine wpAnyH_name (fun u9 hu9 => ?_)
        have bu9 : Below u8.heap.size u8 u9 := by rw [hu9.out]; exact (al_below _ _)
        replace FA := on FA bu9
        replace FBB := on FBB bu9
        replace FK := on FK bu9
        replace FT := on FT bu9
        replace FG2 := on FG2 bu9
        replace FG3 := on FG3 bu9
        replace FB := on FB bu9
        replace FP3 := on FP3 bu9
        have FP8 : Hid (∀ x, From u9 x → Parts x (some ⟨u8.heap.size, 0, none⟩) [A, B]) := fun x hx => parts_kept (by rw [hu9.out]; exact pu9) hx
        clear pu9
        refine wpAnyH_ready (rs := [9]) (by kernel_rfl) (by simp) ?_
        refine AllReadyH.cons (o := { dst := some 17, op := Op.call { callee := Callee.value (Operand.func 63), args := #[Operand.tmp 13, Operand.const (Value.string { data := #[115, 101, 114, 118, 101, 114] }), Operand.tmp 16], argTypes := #[34, 9, 100] }, type := 47, pos := "packet.go:89", after := #[{ on := 5, ground := Ground.data }, { on := 8, ground := Ground.data }, { on := 4, ground := Ground.chain }], guard := none }) rfl (fun KK hKK => ?_) ?_
        · go_simp
          refine (CS.out _ _ (FT.out _ (Below.refl _ _)) (FK.out _ (Below.refl _ _)) (FP8.out _ (Below.refl _ _))).mono ?_
          rintro e u10' ⟨rfl, bu10'⟩
          (try go_wp2_with fail)
          refine hKK.out _ _ trivial (fun _ => ?_)
          clear hKK KK
          try simp only [Act.put, List.setIfInBounds_toArray, List.set_cons_zero, List.set_cons_succ]
          refine wpAnyH_name (fun u10 hu10 => ?_)
          have bu10 : Below u9.heap.size u9 u10 := by rw [hu10.out]; exact (bu10')
          replace FA := on FA bu10
          replace FBB := on FBB bu10
          replace FK := on FK bu10
          replace FT := on FT bu10
          replace FG2 := on FG2 bu10
          replace FG3 := on FG3 bu10
          replace FB := on FB bu10
          replace FP3 := on FP3 bu10
          replace FP8 := on FP8 bu10
          refine wpAnyH_ready (rs := [10]) (by kernel_rfl) (by simp) ?_
          refine AllReadyH.cons (o := { dst := none, op := Op.store 47 (Operand.tmp 6) (Operand.tmp 12), type := 0, pos := "packet.go:89", after := #[{ on := 4, ground := Ground.data }, { on := 9, ground := Ground.chain }, { on := 0, ground := Ground.phase }, { on := 1, ground := Ground.phase }, { on := 2, ground := Ground.phase }, { on := 3, ground := Ground.phase }, { on := 4, ground := Ground.phase }, { on := 5, ground := Ground.textOnly Departure.lateStores }, { on := 6, ground := Ground.textOnly Departure.lateStoresUnsure }, { on := 7, ground := Ground.textOnly Departure.lateStoresUnsure }, { on := 8, ground := Ground.textOnly Departure.lateStores }, { on := 9, ground := Ground.textOnly Departure.lateStoresUnsure }], guard := none }) rfl (fun KK hKK => ?_) ?_
          · rw [if_pos (by rfl)]
            refine wp_store_row 47 _ _ rfl (w.heap.size + 2) (u8s CK) rfl rfl 47 _ (FG2.out _ (Below.refl _ _)) (by rw [CO.out]; exact size26) (by rw [CO.out]; rfl) (u8s_one _) ?_
            refine hKK.out _ _ trivial (fun _ => ?_)
            clear hKK KK
            try simp only [Act.put]
            refine wpAnyH_name (fun u11 hu11 => ?_)
            have g2u11 : u11.heap[w.heap.size + 2]? = some (.cells (u8s CK) 47 (0, 0)) := by rw [hu11.out]; exact setRow_heap _ _ _ _ _ _ (FG2.out _ (Below.refl _ _))
            have g3u11 : u11.heap[w.heap.size + 3]? = some (.cells #[.int .u8 0, .int .u8 0, .int .u8 0, .int .u8 0, .int .u8 0, .int .u8 0, .int .u8 0, .int .u8 0, .int .u8 0, .int .u8 0, .int .u8 0, .int .u8 0, .int .u8 0, .int .u8 0, .int .u8 0, .int .u8 0, .int .u8 0, .int .u8 0, .int .u8 0, .int .u8 0, .int .u8 0, .int .u8 0, .int .u8 0, .int .u8 0, .int .u8 0, .int .u8 0, .int .u8 0, .int .u8 0, .int .u8 0, .int .u8 0, .int .u8 0, .int .u8 0] 47 (0, 0)) := by rw [hu11.out]; exact (setRow_other _ _ _ _ (by omega)).trans (FG3.out _ (Below.refl _ _))
            have blu11 : Below w.heap.size w u11 := by rw [hu11.out]; exact below_setRow (FB.out _ (Below.refl _ _)) (by omega) _
            refine wpAnyH_ready (rs := [11]) (by kernel_rfl) (by simp) ?_
            refine AllReadyH.cons (o := { dst := none, op := Op.store 47 (Operand.tmp 7) (Operand.tmp 17), type := 0, pos := "packet.go:89", after := #[{ on := 9, ground := Ground.data }, { on := 10, ground := Ground.chain }, { on := 0, ground := Ground.phase }, { on := 1, ground := Ground.phase }, { on := 2, ground := Ground.phase }, { on := 3, ground := Ground.phase }, { on := 4, ground := Ground.phase }, { on := 5, ground := Ground.phase }, { on := 6, ground := Ground.phase }, { on := 7, ground := Ground.phase }, { on := 8, ground := Ground.phase }, { on := 9, ground := Ground.phase }, { on := 10, ground := Ground.phase }], guard := none }) rfl (fun KK hKK => ?_) ?_
            · rw [if_pos (by rfl)]
              refine wp_store_row 47 _ _ rfl (w.heap.size + 3) (u8s SK) rfl rfl 47 _ g3u11 (by rw [SO.out]; exact size26) (by rw [SO.out]; rfl) (u8s_one _) ?_
              refine hKK.out _ _ trivial (fun _ => ?_)
              clear hKK KK
              try simp only [Act.put]
              refine wpAnyH_name (fun u12 hu12 => ?_)
              have g2u12 : u12.heap[w.heap.size + 2]? = some (.cells (u8s CK) 47 (0, 0)) := by rw [hu12.out]; exact (setRow_other _ _ _ _ (by omega)).trans g2u11
              have g3u12 : u12.heap[w.heap.size + 3]? = some (.cells (u8s SK) 47 (0, 0)) := by rw [hu12.out]; exact setRow_heap _ _ _ _ _ _ g3u11
              have blu12 : Below w.heap.size w u12 := by rw [hu12.out]; exact below_setRow blu11 (by omega) _
              refine wpAnyH_done (by kernel_rfl) ?_ _
              try go_wp2
              refine bodyPost_ret (retKp rfl rfl g2u12 g3u12 CO.out SO.out) rfl ?_
              exact ⟨rfl, blu12⟩
            exact AllReadyH.nil
          exact AllReadyH.nil
        exact AllReadyH.nil
      exact AllReadyH.nil
    refine AllReadyH.cons (o := { dst := some 16, op := Op.buildSlice 100 2 #[(0, Operand.tmp 14), (1, Operand.tmp 15)], type := 100, pos := "packet.go:89", after := #[{ on := 6, ground := Ground.data }, { on := 7, ground := Ground.data }], guard := none }) rfl (fun KK hKK => ?_) ?_
    · have pu13 := parts2 u7 _ _ A B (FA.out _ (Below.refl _ _)) (FBB.out _ (Below.refl _ _))
      go_simp
      refine hKK.out _ _ trivial (fun _ => ?_)
      clear hKK KK
      try simp only [Act.put, List.setIfInBounds_toArray, List.set_cons_zero, List.set_cons_succ]
      refine wpAnyH_name (fun u13 hu13 => ?_)
      have bu13 : Below u7.heap.size u7 u13 := by rw [hu13.out]; exact (al_below _ _)
      replace FA := on FA bu13
      replace FBB := on FBB bu13
      replace FK := on FK bu13
      replace FT := on FT bu13
      replace FG2 := on FG2 bu13
      replace FG3 := on FG3 bu13
      replace FB := on FB bu13
      replace FP3 := on FP3 bu13
      have FP8 : Hid (∀ x, From u13 x → Parts x (some ⟨u7.heap.size, 0, none⟩) [A, B]) := fun x hx => parts_kept (by rw [hu13.out]; exact pu13) hx
      clear pu13
      refine wpAnyH_ready (rs := [4]) (by kernel_rfl) (by simp) ?_
      refine AllReadyH.cons (o := { dst := some 12, op := Op.call { callee := Callee.value (Operand.func 63), args := #[Operand.tmp 8, Operand.const (Value.string { data := #[99, 108, 105, 101, 110, 116] }), Operand.tmp 11], argTypes := #[34, 9, 100] }, type := 47, pos := "packet.go:89", after := #[{ on := 0, ground := Ground.data }, { on := 3, ground := Ground.data }], guard := none }) rfl (fun KK hKK => ?_) ?_
      · go_simp
        refine (CC.out _ _ (FT.out _ (Below.refl _ _)) (FK.out _ (Below.refl _ _)) (FP3.out _ (Below.refl _ _))).mono ?_
        rintro e u14' ⟨rfl, bu14'⟩
        (try go_wp2_with fail)
        refine hKK.out _ _ trivial (fun _ => ?_)
        clear hKK KK
        try simp only [Act.put, List.setIfInBounds_toArray, List.set_cons_zero, List.set_cons_succ]
        refine wpAnyH_name (fun u14 hu14 => ?_)
        have bu14 : Below u13.heap.size u13 u14 := by rw [hu14.out]; exact (bu14')
        replace FA := on FA bu14
        replace FBB := on FBB bu14
        replace FK := on FK bu14
        replace FT := on FT bu14
        replace FG2 := on FG2 bu14
        replace FG3 := on FG3 bu14
        replace FB := on FB bu14
        replace FP3 := on FP3 bu14
        replace FP8 := on FP8 bu14
        refine wpAnyH_ready (rs := [9]) (by kernel_rfl) (by simp) ?_
        refine AllReadyH.cons (o := { dst := some 17, op := Op.call { callee := Callee.value (Operand.func 63), args := #[Operand.tmp 13, Operand.const (Value.string { data := #[115, 101, 114, 118, 101, 114] }), Operand.tmp 16], argTypes := #[34, 9, 100] }, type := 47, pos := "packet.go:89", after := #[{ on := 5, ground := Ground.data }, { on := 8, ground := Ground.data }, { on := 4, ground := Ground.chain }], guard := none }) rfl (fun KK hKK => ?_) ?_
        · go_simp
          refine (CS.out _ _ (FT.out _ (Below.refl _ _)) (FK.out _ (Below.refl _ _)) (FP8.out _ (Below.refl _ _))).mono ?_
          rintro e u15' ⟨rfl, bu15'⟩
          (try go_wp2_with fail)
          refine hKK.out _ _ trivial (fun _ => ?_)
          clear hKK KK
          try simp only [Act.put, List.setIfInBounds_toArray, List.set_cons_zero, List.set_cons_succ]
          refine wpAnyH_name (fun u15 hu15 => ?_)
          have bu15 : Below u14.heap.size u14 u15 := by rw [hu15.out]; exact (bu15')
          replace FA := on FA bu15
          replace FBB := on FBB bu15
          replace FK := on FK bu15
          replace FT := on FT bu15
          replace FG2 := on FG2 bu15
          replace FG3 := on FG3 bu15
          replace FB := on FB bu15
          replace FP3 := on FP3 bu15
          replace FP8 := on FP8 bu15
          refine wpAnyH_ready (rs := [10]) (by kernel_rfl) (by simp) ?_
          refine AllReadyH.cons (o := { dst := none, op := Op.store 47 (Operand.tmp 6) (Operand.tmp 12), type := 0, pos := "packet.go:89", after := #[{ on := 4, ground := Ground.data }, { on := 9, ground := Ground.chain }, { on := 0, ground := Ground.phase }, { on := 1, ground := Ground.phase }, { on := 2, ground := Ground.phase }, { on := 3, ground := Ground.phase }, { on := 4, ground := Ground.phase }, { on := 5, ground := Ground.textOnly Departure.lateStores }, { on := 6, ground := Ground.textOnly Departure.lateStoresUnsure }, { on := 7, ground := Ground.textOnly Departure.lateStoresUnsure }, { on := 8, ground := Ground.textOnly Departure.lateStores }, { on := 9, ground := Ground.textOnly Departure.lateStoresUnsure }], guard := none }) rfl (fun KK hKK => ?_) ?_
          · rw [if_pos (by rfl)]
            refine wp_store_row 47 _ _ rfl (w.heap.size + 2) (u8s CK) rfl rfl 47 _ (FG2.out _ (Below.refl _ _)) (by rw [CO.out]; exact size26) (by rw [CO.out]; rfl) (u8s_one _) ?_
            refine hKK.out _ _ trivial (fun _ => ?_)
            clear hKK KK
            try simp only [Act.put]
            refine wpAnyH_name (fun u16 hu16 => ?_)
            have g2u16 : u16.heap[w.heap.size + 2]? = some (.cells (u8s CK) 47 (0, 0)) := by rw [hu16.out]; exact setRow_heap _ _ _ _ _ _ (FG2.out _ (Below.refl _ _))
            have g3u16 : u16.heap[w.heap.size + 3]? = some (.cells #[.int .u8 0, .int .u8 0, .int .u8 0, .int .u8 0, .int .u8 0, .int .u8 0, .int .u8 0, .int .u8 0, .int .u8 0, .int .u8 0, .int .u8 0, .int .u8 0, .int .u8 0, .int .u8 0, .int .u8 0, .int .u8 0, .int .u8 0, .int .u8 0, .int .u8 0, .int .u8 0, .int .u8 0, .int .u8 0, .int .u8 0, .int .u8 0, .int .u8 0, .int .u8 0, .int .u8 0, .int .u8 0, .int .u8 0, .int .u8 0, .int .u8 0, .int .u8 0] 47 (0, 0)) := by rw [hu16.out]; exact (setRow_other _ _ _ _ (by omega)).trans (FG3.out _ (Below.refl _ _))
            have blu16 : Below w.heap.size w u16 := by rw [hu16.out]; exact below_setRow (FB.out _ (Below.refl _ _)) (by omega) _
            refine wpAnyH_ready (rs := [11]) (by kernel_rfl) (by simp) ?_
            refine AllReadyH.cons (o := { dst := none, op := Op.store 47 (Operand.tmp 7) (Operand.tmp 17), type := 0, pos := "packet.go:89", after := #[{ on := 9, ground := Ground.data }, { on := 10, ground := Ground.chain }, { on := 0, ground := Ground.phase }, { on := 1, ground := Ground.phase }, { on := 2, ground := Ground.phase }, { on := 3, ground := Ground.phase }, { on := 4, ground := Ground.phase }, { on := 5, ground := Ground.phase }, { on := 6, ground := Ground.phase }, { on := 7, ground := Ground.phase }, { on := 8, ground := Ground.phase }, { on := 9, ground := Ground.phase }, { on := 10, ground := Ground.phase }], guard := none }) rfl (fun KK hKK => ?_) ?_
            · rw [if_pos (by rfl)]
              refine wp_store_row 47 _ _ rfl (w.heap.size + 3) (u8s SK) rfl rfl 47 _ g3u16 (by rw [SO.out]; exact size26) (by rw [SO.out]; rfl) (u8s_one _) ?_
              refine hKK.out _ _ trivial (fun _ => ?_)
              clear hKK KK
              try simp only [Act.put]
              refine wpAnyH_name (fun u17 hu17 => ?_)
              have g2u17 : u17.heap[w.heap.size + 2]? = some (.cells (u8s CK) 47 (0, 0)) := by rw [hu17.out]; exact (setRow_other _ _ _ _ (by omega)).trans g2u16
              have g3u17 : u17.heap[w.heap.size + 3]? = some (.cells (u8s SK) 47 (0, 0)) := by rw [hu17.out]; exact setRow_heap _ _ _ _ _ _ g3u16
              have blu17 : Below w.heap.size w u17 := by rw [hu17.out]; exact below_setRow blu16 (by omega) _
              refine wpAnyH_done (by kernel_rfl) ?_ _
              try go_wp2
              refine bodyPost_ret (retKp rfl rfl g2u17 g3u17 CO.out SO.out) rfl ?_
              exact ⟨rfl, blu17⟩
            exact AllReadyH.nil
          exact AllReadyH.nil
        exact AllReadyH.nil
      exact AllReadyH.nil
    exact AllReadyH.nil
  refine AllReadyH.cons (o := { dst := some 16, op := Op.buildSlice 100 2 #[(0, Operand.tmp 14), (1, Operand.tmp 15)], type := 100, pos := "packet.go:89", after := #[{ on := 6, ground := Ground.data }, { on := 7, ground := Ground.data }], guard := none }) rfl (fun KK hKK => ?_) ?_
  · have pu18 := parts2 u0 _ _ A B (FA.out _ (Below.refl _ _)) (FBB.out _ (Below.refl _ _))
    go_simp
    refine hKK.out _ _ trivial (fun _ => ?_)
    clear hKK KK
    try simp only [Act.put, List.setIfInBounds_toArray, List.set_cons_zero, List.set_cons_succ]
    refine wpAnyH_name (fun u18 hu18 => ?_)
    have bu18 : Below u0.heap.size u0 u18 := by rw [hu18.out]; exact (al_below _ _)
    replace FA := on FA bu18
    replace FBB := on FBB bu18
    replace FK := on FK bu18
    replace FT := on FT bu18
    replace FG2 := on FG2 bu18
    replace FG3 := on FG3 bu18
    replace FB := on FB bu18
    have FP8 : Hid (∀ x, From u18 x → Parts x (some ⟨u0.heap.size, 0, none⟩) [A, B]) := fun x hx => parts_kept (by rw [hu18.out]; exact pu18) hx
    clear pu18
    refine wpAnyH_ready (rs := [3]) (by kernel_rfl) (by simp) ?_
    refine AllReadyH.cons (o := { dst := some 11, op := Op.buildSlice 100 2 #[(0, Operand.tmp 9), (1, Operand.tmp 10)], type := 100, pos := "packet.go:89", after := #[{ on := 1, ground := Ground.data }, { on := 2, ground := Ground.data }], guard := none }) rfl (fun KK hKK => ?_) ?_
    · have pu19 := parts2 u18 _ _ A B (FA.out _ (Below.refl _ _)) (FBB.out _ (Below.refl _ _))
      go_simp
      refine hKK.out _ _ trivial (fun _ => ?_)
      clear hKK KK
      try simp only [Act.put, List.setIfInBounds_toArray, List.set_cons_zero, List.set_cons_succ]
      refine wpAnyH_name (fun u19 hu19 => ?_)
      have bu19 : Below u18.heap.size u18 u19 := by rw [hu19.out]; exact (al_below _ _)
      replace FA := on FA bu19
      replace FBB := on FBB bu19
      replace FK := on FK bu19
      replace FT := on FT bu19
      replace FG2 := on FG2 bu19
      replace FG3 := on FG3 bu19
      replace FB := on FB bu19
      replace FP8 := on FP8 bu19
      have FP3 : Hid (∀ x, From u19 x → Parts x (some ⟨u18.heap.size, 0, none⟩) [A, B]) := fun x hx => parts_kept (by rw [hu19.out]; exact pu19) hx
      clear pu19
      refine wpAnyH_ready (rs := [4]) (by kernel_rfl) (by simp) ?_
      refine AllReadyH.cons (o := { dst := some 12, op := Op.call { callee := Callee.value (Operand.func 63), args := #[Operand.tmp 8, Operand.const (Value.string { data := #[99, 108, 105, 101, 110, 116] }), Operand.tmp 11], argTypes := #[34, 9, 100] }, type := 47, pos := "packet.go:89", after := #[{ on := 0, ground := Ground.data }, { on := 3, ground := Ground.data }], guard := none }) rfl (fun KK hKK => ?_) ?_
      · go_simp
        refine (CC.out _ _ (FT.out _ (Below.refl _ _)) (FK.out _ (Below.refl _ _)) (FP3.out _ (Below.refl _ _))).mono ?_
        rintro e u20' ⟨rfl, bu20'⟩
        (try go_wp2_with fail)
        refine hKK.out _ _ trivial (fun _ => ?_)
        clear hKK KK
        try simp only [Act.put, List.setIfInBounds_toArray, List.set_cons_zero, List.set_cons_succ]
        refine wpAnyH_name (fun u20 hu20 => ?_)
        have bu20 : Below u19.heap.size u19 u20 := by rw [hu20.out]; exact (bu20')
        replace FA := on FA bu20
        replace FBB := on FBB bu20
        replace FK := on FK bu20
        replace FT := on FT bu20
        replace FG2 := on FG2 bu20
        replace FG3 := on FG3 bu20
        replace FB := on FB bu20
        replace FP8 := on FP8 bu20
        replace FP3 := on FP3 bu20
        refine wpAnyH_ready (rs := [9]) (by kernel_rfl) (by simp) ?_
        refine AllReadyH.cons (o := { dst := some 17, op := Op.call { callee := Callee.value (Operand.func 63), args := #[Operand.tmp 13, Operand.const (Value.string { data := #[115, 101, 114, 118, 101, 114] }), Operand.tmp 16], argTypes := #[34, 9, 100] }, type := 47, pos := "packet.go:89", after := #[{ on := 5, ground := Ground.data }, { on := 8, ground := Ground.data }, { on := 4, ground := Ground.chain }], guard := none }) rfl (fun KK hKK => ?_) ?_
        · go_simp
          refine (CS.out _ _ (FT.out _ (Below.refl _ _)) (FK.out _ (Below.refl _ _)) (FP8.out _ (Below.refl _ _))).mono ?_
          rintro e u21' ⟨rfl, bu21'⟩
          (try go_wp2_with fail)
          refine hKK.out _ _ trivial (fun _ => ?_)
          clear hKK KK
          try simp only [Act.put, List.setIfInBounds_toArray, List.set_cons_zero, List.set_cons_succ]
          refine wpAnyH_name (fun u21 hu21 => ?_)
          have bu21 : Below u20.heap.size u20 u21 := by rw [hu21.out]; exact (bu21')
          replace FA := on FA bu21
          replace FBB := on FBB bu21
          replace FK := on FK bu21
          replace FT := on FT bu21
          replace FG2 := on FG2 bu21
          replace FG3 := on FG3 bu21
          replace FB := on FB bu21
          replace FP8 := on FP8 bu21
          replace FP3 := on FP3 bu21
          refine wpAnyH_ready (rs := [10]) (by kernel_rfl) (by simp) ?_
          refine AllReadyH.cons (o := { dst := none, op := Op.store 47 (Operand.tmp 6) (Operand.tmp 12), type := 0, pos := "packet.go:89", after := #[{ on := 4, ground := Ground.data }, { on := 9, ground := Ground.chain }, { on := 0, ground := Ground.phase }, { on := 1, ground := Ground.phase }, { on := 2, ground := Ground.phase }, { on := 3, ground := Ground.phase }, { on := 4, ground := Ground.phase }, { on := 5, ground := Ground.textOnly Departure.lateStores }, { on := 6, ground := Ground.textOnly Departure.lateStoresUnsure }, { on := 7, ground := Ground.textOnly Departure.lateStoresUnsure }, { on := 8, ground := Ground.textOnly Departure.lateStores }, { on := 9, ground := Ground.textOnly Departure.lateStoresUnsure }], guard := none }) rfl (fun KK hKK => ?_) ?_
          · rw [if_pos (by rfl)]
            refine wp_store_row 47 _ _ rfl (w.heap.size + 2) (u8s CK) rfl rfl 47 _ (FG2.out _ (Below.refl _ _)) (by rw [CO.out]; exact size26) (by rw [CO.out]; rfl) (u8s_one _) ?_
            refine hKK.out _ _ trivial (fun _ => ?_)
            clear hKK KK
            try simp only [Act.put]
            refine wpAnyH_name (fun u22 hu22 => ?_)
            have g2u22 : u22.heap[w.heap.size + 2]? = some (.cells (u8s CK) 47 (0, 0)) := by rw [hu22.out]; exact setRow_heap _ _ _ _ _ _ (FG2.out _ (Below.refl _ _))
            have g3u22 : u22.heap[w.heap.size + 3]? = some (.cells #[.int .u8 0, .int .u8 0, .int .u8 0, .int .u8 0, .int .u8 0, .int .u8 0, .int .u8 0, .int .u8 0, .int .u8 0, .int .u8 0, .int .u8 0, .int .u8 0, .int .u8 0, .int .u8 0, .int .u8 0, .int .u8 0, .int .u8 0, .int .u8 0, .int .u8 0, .int .u8 0, .int .u8 0, .int .u8 0, .int .u8 0, .int .u8 0, .int .u8 0, .int .u8 0, .int .u8 0, .int .u8 0, .int .u8 0, .int .u8 0, .int .u8 0, .int .u8 0] 47 (0, 0)) := by rw [hu22.out]; exact (setRow_other _ _ _ _ (by omega)).trans (FG3.out _ (Below.refl _ _))
            have blu22 : Below w.heap.size w u22 := by rw [hu22.out]; exact below_setRow (FB.out _ (Below.refl _ _)) (by omega) _
            refine wpAnyH_ready (rs := [11]) (by kernel_rfl) (by simp) ?_
            refine AllReadyH.cons (o := { dst := none, op := Op.store 47 (Operand.tmp 7) (Operand.tmp 17), type := 0, pos := "packet.go:89", after := #[{ on := 9, ground := Ground.data }, { on := 10, ground := Ground.chain }, { on := 0, ground := Ground.phase }, { on := 1, ground := Ground.phase }, { on := 2, ground := Ground.phase }, { on := 3, ground := Ground.phase }, { on := 4, ground := Ground.phase }, { on := 5, ground := Ground.phase }, { on := 6, ground := Ground.phase }, { on := 7, ground := Ground.phase }, { on := 8, ground := Ground.phase }, { on := 9, ground := Ground.phase }, { on := 10, ground := Ground.phase }], guard := none }) rfl (fun KK hKK => ?_) ?_
            · rw [if_pos (by rfl)]
              refine wp_store_row 47 _ _ rfl (w.heap.size + 3) (u8s SK) rfl rfl 47 _ g3u22 (by rw [SO.out]; exact size26) (by rw [SO.out]; rfl) (u8s_one _) ?_
              refine hKK.out _ _ trivial (fun _ => ?_)
              clear hKK KK
              try simp only [Act.put]
              refine wpAnyH_name (fun u23 hu23 => ?_)
              have g2u23 : u23.heap[w.heap.size + 2]? = some (.cells (u8s CK) 47 (0, 0)) := by rw [hu23.out]; exact (setRow_other _ _ _ _ (by omega)).trans g2u22
              have g3u23 : u23.heap[w.heap.size + 3]? = some (.cells (u8s SK) 47 (0, 0)) := by rw [hu23.out]; exact setRow_heap _ _ _ _ _ _ g3u22
              have blu23 : Below w.heap.size w u23 := by rw [hu23.out]; exact below_setRow blu22 (by omega) _
              refine wpAnyH_done (by kernel_rfl) ?_ _
              try go_wp2
              refine bodyPost_ret (retKp rfl rfl g2u23 g3u23 CO.out SO.out) rfl ?_
              exact ⟨rfl, blu23⟩
            exact AllReadyH.nil
          exact AllReadyH.nil
        exact AllReadyH.nil
      exact AllReadyH.nil
    exact AllReadyH.nil
  exact AllReadyH.nil
set_option maxHeartbeats 8000000 in
theorem rkeys_any (v : Value) (K A B : List Int) (w : World) (sl : Sl w v K) (hk : K.length ≤ 99000) (hA : A.length = 16) (hB : B.length = 16) (hAb : Pl.Byt A) (hBb : Pl.Byt B) :
    Calls Tryz.prog 24 #[v, .agg (u8s A), .agg (u8s B)] w fun e w' => e = .returned (.tuple #[.agg (u8s (Mc.hmac K (Mc.labL ⟨#[99, 108, 105, 101, 110, 116]⟩ [A, B]))), .agg (u8s (Mc.hmac K (Mc.labL ⟨#[115, 101, 114, 118, 101, 114]⟩ [A, B])))]) ∧ Below w.heap.size w w' := by
  obtain ⟨W1, hW1⟩ : ∃ W1, W1 = w.alloc (.cells (u8s A) 22) := ⟨_, rfl⟩
  obtain ⟨W2, hW2⟩ : ∃ W2, W2 = W1.alloc (.cells (u8s B) 22) := ⟨_, rfl⟩
  obtain ⟨W3, hW3⟩ : ∃ W3, W3 = W2.alloc (.cells #[.int .u8 0, .int .u8 0, .int .u8 0, .int .u8 0, .int .u8 0, .int .u8 0, .int .u8 0, .int .u8 0, .int .u8 0, .int .u8 0, .int .u8 0, .int .u8 0, .int .u8 0, .int .u8 0, .int .u8 0, .int .u8 0, .int .u8 0, .int .u8 0, .int .u8 0, .int .u8 0, .int .u8 0, .int .u8 0, .int .u8 0, .int .u8 0, .int .u8 0, .int .u8 0, .int .u8 0, .int .u8 0, .int .u8 0, .int .u8 0, .int .u8 0, .int .u8 0] 47) := ⟨_, rfl⟩
  obtain ⟨W4, hW4⟩ : ∃ W4, W4 = W3.alloc (.cells #[.int .u8 0, .int .u8 0, .int .u8 0, .int .u8 0, .int .u8 0, .int .u8 0, .int .u8 0, .int .u8 0, .int .u8 0, .int .u8 0, .int .u8 0, .int .u8 0, .int .u8 0, .int .u8 0, .int .u8 0, .int .u8 0, .int .u8 0, .int .u8 0, .int .u8 0, .int .u8 0, .int .u8 0, .int .u8 0, .int .u8 0, .int .u8 0, .int .u8 0, .int .u8 0, .int .u8 0, .int .u8 0, .int .u8 0, .int .u8 0, .int .u8 0, .int .u8 0] 47) := ⟨_, rfl⟩
  have z1 : W1.heap.size = w.heap.size + 1 := by rw [hW1]; simp
  have z2 : W2.heap.size = w.heap.size + 2 := by rw [hW2]; simp; omega
  have z3 : W3.heap.size = w.heap.size + 3 := by rw [hW3]; simp; omega
  have b1 : Below w.heap.size w W1 := by rw [hW1]; exact al_below _ _
  have b12 : Below W1.heap.size W1 W2 := by rw [hW2]; exact al_below _ _
  have b23 : Below W2.heap.size W2 W3 := by rw [hW3]; exact al_below _ _
  have b34 : Below W3.heap.size W3 W4 := by rw [hW4]; exact al_below _ _
  have b2 : Below w.heap.size w W2 := b1.trans (b12.mono b1.size)
  have b3 : Below w.heap.size w W3 := b2.trans (b23.mono b2.size)
  have b4 : Below w.heap.size w W4 := b3.trans (b34.mono b3.size)
  have b24 : Below W2.heap.size W2 W4 := b23.trans (b34.mono b23.size)
  have b14 : Below W1.heap.size W1 W4 := b12.trans (b24.mono b12.size)
  have g0 : W4.heap[w.heap.size]? = some (.cells (u8s A) 22 (0, 0)) := by
    have h : W1.heap[w.heap.size]? = some (.cells (u8s A) 22 (0, 0)) := by rw [hW1]; exact heap_alloc_new _ _
    exact blk_kept h b14 (blk_lt h)
  have g1 : W4.heap[w.heap.size + 1]? = some (.cells (u8s B) 22 (0, 0)) := by
    have h : W2.heap[w.heap.size + 1]? = some (.cells (u8s B) 22 (0, 0)) := by rw [hW2, ← z1]; exact heap_alloc_new _ _
    exact blk_kept h b24 (blk_lt h)
  have g2 : W4.heap[w.heap.size + 2]? = some (.cells #[.int .u8 0, .int .u8 0, .int .u8 0, .int .u8 0, .int .u8 0, .int .u8 0, .int .u8 0, .int .u8 0, .int .u8 0, .int .u8 0, .int .u8 0, .int .u8 0, .int .u8 0, .int .u8 0, .int .u8 0, .int .u8 0, .int .u8 0, .int .u8 0, .int .u8 0, .int .u8 0, .int .u8 0, .int .u8 0, .int .u8 0, .int .u8 0, .int .u8 0, .int .u8 0, .int .u8 0, .int .u8 0, .int .u8 0, .int .u8 0, .int .u8 0, .int .u8 0] 47 (0, 0)) := by
    have h : W3.heap[w.heap.size + 2]? = some (.cells #[.int .u8 0, .int .u8 0, .int .u8 0, .int .u8 0, .int .u8 0, .int .u8 0, .int .u8 0, .int .u8 0, .int .u8 0, .int .u8 0, .int .u8 0, .int .u8 0, .int .u8 0, .int .u8 0, .int .u8 0, .int .u8 0, .int .u8 0, .int .u8 0, .int .u8 0, .int .u8 0, .int .u8 0, .int .u8 0, .int .u8 0, .int .u8 0, .int .u8 0, .int .u8 0, .int .u8 0, .int .u8 0, .int .u8 0, .int .u8 0, .int .u8 0, .int .u8 0] 47 (0, 0)) := by rw [hW3, ← z2]; exact heap_alloc_new _ _
    exact blk_kept h b34 (blk_lt h)
  have g3 : W4.heap[w.heap.size + 3]? = some (.cells #[.int .u8 0, .int .u8 0, .int .u8 0, .int .u8 0, .int .u8 0, .int .u8 0, .int .u8 0, .int .u8 0, .int .u8 0, .int .u8 0, .int .u8 0, .int .u8 0, .int .u8 0, .int .u8 0, .int .u8 0, .int .u8 0, .int .u8 0, .int .u8 0, .int .u8 0, .int .u8 0, .int .u8 0, .int .u8 0, .int .u8 0, .int .u8 0, .int .u8 0, .int .u8 0, .int .u8 0, .int .u8 0, .int .u8 0, .int .u8 0, .int .u8 0, .int .u8 0] 47 (0, 0)) := by rw [hW4, ← z3]; exact heap_alloc_new _ _
  have FA : Hid (∀ x, From W4 x → Sl x (.slice (some ⟨w.heap.size, 0, none⟩) 16 16) A) := fun x hx => by
    have := Mc.sl_row (blk_kept g0 hx (blk_lt g0)) hAb (by rw [hA]; decide)
    rwa [hA] at this
  have FBB : Hid (∀ x, From W4 x → Sl x (.slice (some ⟨w.heap.size + 1, 0, none⟩) 16 16) B) := fun x hx => by
    have := Mc.sl_row (blk_kept g1 hx (blk_lt g1)) hBb (by rw [hB]; decide)
    rwa [hB] at this
  have FK : Hid (∀ x, From W4 x → Sl x v K) := fun x hx => (sl.kept b4).kept hx
  have FG2 : Hid (∀ x, From W4 x → x.heap[w.heap.size + 2]? = some (.cells #[.int .u8 0, .int .u8 0, .int .u8 0, .int .u8 0, .int .u8 0, .int .u8 0, .int .u8 0, .int .u8 0, .int .u8 0, .int .u8 0, .int .u8 0, .int .u8 0, .int .u8 0, .int .u8 0, .int .u8 0, .int .u8 0, .int .u8 0, .int .u8 0, .int .u8 0, .int .u8 0, .int .u8 0, .int .u8 0, .int .u8 0, .int .u8 0, .int .u8 0, .int .u8 0, .int .u8 0, .int .u8 0, .int .u8 0, .int .u8 0, .int .u8 0, .int .u8 0] 47 (0, 0))) := fun x hx => blk_kept g2 hx (blk_lt g2)
  have FG3 : Hid (∀ x, From W4 x → x.heap[w.heap.size + 3]? = some (.cells #[.int .u8 0, .int .u8 0, .int .u8 0, .int .u8 0, .int .u8 0, .int .u8 0, .int .u8 0, .int .u8 0, .int .u8 0, .int .u8 0, .int .u8 0, .int .u8 0, .int .u8 0, .int .u8 0, .int .u8 0, .int .u8 0, .int .u8 0, .int .u8 0, .int .u8 0, .int .u8 0, .int .u8 0, .int .u8 0, .int .u8 0, .int .u8 0, .int .u8 0, .int .u8 0, .int .u8 0, .int .u8 0, .int .u8 0, .int .u8 0, .int .u8 0, .int .u8 0] 47 (0, 0))) := fun x hx => blk_kept g3 hx (blk_lt g3)
  have FB : Hid (∀ x, From W4 x → Below w.heap.size w x) := fun x hx => b4.trans (Below.mono hx b4.size)
  have HAL : Hid (A.length = 16 ∧ B.length = 16 ∧ K.length ≤ 99000) := ⟨hA, hB, hk⟩
  have hWW : W4 = (((w.alloc (.cells (u8s A) 22)).alloc (.cells (u8s B) 22)).alloc (.cells #[.int .u8 0, .int .u8 0, .int .u8 0, .int .u8 0, .int .u8 0, .int .u8 0, .int .u8 0, .int .u8 0, .int .u8 0, .int .u8 0, .int .u8 0, .int .u8 0, .int .u8 0, .int .u8 0, .int .u8 0, .int .u8 0, .int .u8 0, .int .u8 0, .int .u8 0, .int .u8 0, .int .u8 0, .int .u8 0, .int .u8 0, .int .u8 0, .int .u8 0, .int .u8 0, .int .u8 0, .int .u8 0, .int .u8 0, .int .u8 0, .int .u8 0, .int .u8 0] 47)).alloc (.cells #[.int .u8 0, .int .u8 0, .int .u8 0, .int .u8 0, .int .u8 0, .int .u8 0, .int .u8 0, .int .u8 0, .int .u8 0, .int .u8 0, .int .u8 0, .int .u8 0, .int .u8 0, .int .u8 0, .int .u8 0, .int .u8 0, .int .u8 0, .int .u8 0, .int .u8 0, .int .u8 0, .int .u8 0, .int .u8 0, .int .u8 0, .int .u8 0, .int .u8 0, .int .u8 0, .int .u8 0, .int .u8 0, .int .u8 0, .int .u8 0, .int .u8 0, .int .u8 0] 47) := by rw [hW4, hW3, hW2, hW1]
  have CC : Hid (∀ (x : World) (p : Option Addr), Sl x v K → Parts x p [A, B] → Calls Tryz.prog 64 #[v, .string ⟨#[99, 108, 105, 101, 110, 116]⟩, .slice p 2 2] x fun e w' => e = .returned (.agg (u8s (Mc.hmac K (Mc.labL ⟨#[99, 108, 105, 101, 110, 116]⟩ [A, B])))) ∧ Below x.heap.size x w') := fun x p h2 h3 => rlab2 v K ⟨#[99, 108, 105, 101, 110, 116]⟩ p A B x h2 h3 hk (by decide) hA hB
  have CS : Hid (∀ (x : World) (p : Option Addr), Sl x v K → Parts x p [A, B] → Calls Tryz.prog 64 #[v, .string ⟨#[115, 101, 114, 118, 101, 114]⟩, .slice p 2 2] x fun e w' => e = .returned (.agg (u8s (Mc.hmac K (Mc.labL ⟨#[115, 101, 114, 118, 101, 114]⟩ [A, B])))) ∧ Below x.heap.size x w') := fun x p h2 h3 => rlab2 v K ⟨#[115, 101, 114, 118, 101, 114]⟩ p A B x h2 h3 hk (by decide) hA hB
  obtain ⟨a, c, rfl, -⟩ := id sl
  have CO : Hid ((u8s (Mc.hmac K (Mc.labL ⟨#[99, 108, 105, 101, 110, 116]⟩ [A, B]))).size = 32) := key_len _ _
  have SO : Hid ((u8s (Mc.hmac K (Mc.labL ⟨#[115, 101, 114, 118, 101, 114]⟩ [A, B]))).size = 32) := key_len _ _
  clear hW1 hW2 hW3 hW4 z1 z2 z3 b1 b12 b23 b34 b2 b3 b4 b24 b14 g0 g1 g2 g3 sl hA hB hAb hBb hk
  generalize K.length = kl at *
  obtain ⟨CK, hCK⟩ : ∃ M, M = Mc.hmac K (Mc.labL ⟨#[99, 108, 105, 101, 110, 116]⟩ [A, B]) := ⟨_, rfl⟩
  obtain ⟨SK, hSK⟩ : ∃ M, M = Mc.hmac K (Mc.labL ⟨#[115, 101, 114, 118, 101, 114]⟩ [A, B]) := ⟨_, rfl⟩
  rw [← hCK] at CC CO ⊢
  rw [← hSK] at CS SO ⊢
  clear hCK hSK
  generalize u8s A = UA at *
  generalize u8s B = UB at *
  have HBA : Hid (Pl.Byt A ∧ Pl.Byt B) := ⟨(FA.out _ (Below.refl _ _)).bytes, (FBB.out _ (Below.refl _ _)).bytes⟩
  go_enter Tryz.func24, Tryz.ntmps24
  go_upto_region 1 with fail
  rw [← hWW]
  clear hWW
  refine wp_region_held_drew (S := From W4) (by kernel_rfl) ((Below.refl _ _).drew) (fun _ => ?_)
  refine wpAnyH_on ((Below.refl _ _).drew) (fun u0 hu0 bu0 => ?_)
  replace FA := on FA bu0
  replace FBB := on FBB bu0
  replace FK := on FK bu0
  replace FG2 := on FG2 bu0
  replace FG3 := on FG3 bu0
  replace FB := on FB bu0
  refine wpAnyH_take (i := 1) (oi := { dst := some 10, op := Op.slice 22 (Operand.tmp 4) none none none, type := 34, pos := "ref.go:120", after := #[], guard := none }) (v := ?vr1) rfl (by kernel_rfl) (by kernel_rfl) (by kernel_rfl) (fun _ _ _ h => h) (Or.inl ⟨by rfl, ?yr1⟩) (Below.refl _ _) ?rr1
  case yr1 => (intro w hSw; go_simp; try with_reducible rfl)
  try simp only [Act.put, List.setIfInBounds_toArray, List.set_cons_zero, List.set_cons_succ]
  refine wpAnyH_take (i := 4) (oi := { dst := some 13, op := Op.slice 22 (Operand.tmp 5) none none none, type := 34, pos := "ref.go:120", after := #[], guard := none }) (v := ?vr2) rfl (by kernel_rfl) (by kernel_rfl) (by kernel_rfl) (fun _ _ _ h => h) (Or.inl ⟨by rfl, ?yr2⟩) (Below.refl _ _) ?rr2
  case yr2 => (intro w hSw; go_simp; try with_reducible rfl)
  try simp only [Act.put, List.setIfInBounds_toArray, List.set_cons_zero, List.set_cons_succ]
  refine wpAnyH_ready (rs := [0, 3]) (by kernel_rfl) (by simp) ?_
  refine AllReadyH.cons (o := { dst := some 9, op := Op.buildSlice 34 0 #[], type := 34, pos := "ref.go:120", after := #[], guard := none }) rfl (fun KK hKK => ?_) ?_
  · go_simp
    refine hKK.out _ _ (al_below _ _) (fun _ => ?_)
    clear hKK KK
    try simp only [Act.put, List.setIfInBounds_toArray, List.set_cons_zero, List.set_cons_succ]
    refine wpAnyH_on (al_below _ _) (fun u3 hu3 bu3 => ?_)
    replace FA := on FA bu3
    replace FBB := on FBB bu3
    replace FK := on FK bu3
    replace FG2 := on FG2 bu3
    replace FG3 := on FG3 bu3
    replace FB := on FB bu3
    have F0 : Hid (∀ x, From u3 x → x.heap[u0.heap.size]? = some (.cells #[] 5 (0, 0))) := emp_from hu3.out
    refine wpAnyH_ready (rs := [2, 3]) (by kernel_rfl) (by simp) ?_
    refine AllReadyH.cons (o := { dst := some 11, op := Op.call { callee := Callee.builtin Builtin.append, args := #[Operand.tmp 9, Operand.tmp 10], argTypes := #[34, 34] }, type := 34, pos := "ref.go:120", after := #[{ on := 0, ground := Ground.data }, { on := 1, ground := Ground.data }], guard := none }) rfl (fun KK hKK => ?_) ?_
    · rw [if_pos (by rfl)]
      refine Mc.wp_append_emp _ _ rfl _ rfl (F0.out _ (Below.refl _ _)) _ A rfl (FA.out _ (Below.refl _ _)) (by have := HAL.out; omega) ?_
      intro v2 u4' e2 bu4'
      have s2 := e2.sl HBA.out.1
      clear e2
      obtain ⟨a2, q2, rfl, -⟩ := id s2
      refine hKK.out _ _ (bu4') (fun _ => ?_)
      clear hKK KK
      try simp only [Act.put, List.setIfInBounds_toArray, List.set_cons_zero, List.set_cons_succ]
      refine wpAnyH_on (bu4') (fun u4 hu4 bu4 => ?_)
      replace FA := on FA bu4
      replace FBB := on FBB bu4
      replace FK := on FK bu4
      replace FG2 := on FG2 bu4
      replace FG3 := on FG3 bu4
      replace FB := on FB bu4
      replace F0 := on F0 bu4
      have F2 : Hid (∀ x, From u4 x → Sl x (.slice a2 A.length q2) A) := fun x hx => by rw [hu4.out] at hx; exact Sl.kept s2 hx
      clear s2
      refine wpAnyH_ready (rs := [3]) (by kernel_rfl) (by simp) ?_
      refine AllReadyH.cons (o := { dst := some 12, op := Op.buildSlice 34 0 #[], type := 34, pos := "ref.go:120", after := #[], guard := none }) rfl (fun KK hKK => ?_) ?_
      · go_simp
        refine hKK.out _ _ (al_below _ _) (fun _ => ?_)
        clear hKK KK
        try simp only [Act.put, List.setIfInBounds_toArray, List.set_cons_zero, List.set_cons_succ]
        refine wpAnyH_on (al_below _ _) (fun u5 hu5 bu5 => ?_)
        replace FA := on FA bu5
        replace FBB := on FBB bu5
        replace FK := on FK bu5
        replace FG2 := on FG2 bu5
        replace FG3 := on FG3 bu5
        replace FB := on FB bu5
        replace F0 := on F0 bu5
        replace F2 := on F2 bu5
        have F3 : Hid (∀ x, From u5 x → x.heap[u4.heap.size]? = some (.cells #[] 5 (0, 0))) := emp_from hu5.out
        refine wpAnyH_ready (rs := [5]) (by kernel_rfl) (by simp) ?_
        refine AllReadyH.cons (o := { dst := some 14, op := Op.call { callee := Callee.builtin Builtin.append, args := #[Operand.tmp 12, Operand.tmp 13], argTypes := #[34, 34] }, type := 34, pos := "ref.go:120", after := #[{ on := 3, ground := Ground.data }, { on := 4, ground := Ground.data }, { on := 2, ground := Ground.chain }], guard := none }) rfl (fun KK hKK => ?_) ?_
        · rw [if_pos (by rfl)]
          refine Mc.wp_append_emp _ _ rfl _ rfl (F3.out _ (Below.refl _ _)) _ B rfl (FBB.out _ (Below.refl _ _)) (by have := HAL.out; omega) ?_
          intro v5 u6' e5 bu6'
          have s5 := e5.sl HBA.out.2
          clear e5
          obtain ⟨a5, q5, rfl, -⟩ := id s5
          refine hKK.out _ _ (bu6') (fun _ => ?_)
          clear hKK KK
          try simp only [Act.put, List.setIfInBounds_toArray, List.set_cons_zero, List.set_cons_succ]
          refine wpAnyH_on (bu6') (fun u6 hu6 bu6 => ?_)
          replace FA := on FA bu6
          replace FBB := on FBB bu6
          replace FK := on FK bu6
          replace FG2 := on FG2 bu6
          replace FG3 := on FG3 bu6
          replace FB := on FB bu6
          replace F0 := on F0 bu6
          replace F2 := on F2 bu6
          replace F3 := on F3 bu6
          have F5 : Hid (∀ x, From u6 x → Sl x (.slice a5 B.length q5) B) := fun x hx => by rw [hu6.out] at hx; exact Sl.kept s5 hx
          clear s5
          refine wpAnyH_ready (rs := [6]) (by kernel_rfl) (by simp) ?_
          refine AllReadyH.cons (o := { dst := some 15, op := Op.buildSlice 100 2 #[(0, Operand.tmp 11), (1, Operand.tmp 14)], type := 100, pos := "ref.go:120", after := #[{ on := 2, ground := Ground.data }, { on := 5, ground := Ground.data }], guard := none }) rfl (fun KK hKK => ?_) ?_
          · have pu7 := parts2 u6 _ _ A B (F2.out _ (Below.refl _ _)) (F5.out _ (Below.refl _ _))
            go_simp
            refine hKK.out _ _ (al_below _ _) (fun _ => ?_)
            clear hKK KK
            try simp only [Act.put, List.setIfInBounds_toArray, List.set_cons_zero, List.set_cons_succ]
            refine wpAnyH_on (al_below _ _) (fun u7 hu7 bu7 => ?_)
            replace FA := on FA bu7
            replace FBB := on FBB bu7
            replace FK := on FK bu7
            replace FG2 := on FG2 bu7
            replace FG3 := on FG3 bu7
            replace FB := on FB bu7
            replace F0 := on F0 bu7
            replace F2 := on F2 bu7
            replace F3 := on F3 bu7
            replace F5 := on F5 bu7
            have FP : Hid (∀ x, From u7 x → Parts x (some ⟨u6.heap.size, 0, none⟩) [A, B]) := fun x hx => parts_kept (by rw [hu7.out]; exact pu7) hx
            clear pu7
            refine wpAnyH_take (i := 7) (oi := { dst := some 8, op := Op.assign (Operand.tmp 15), type := 100, pos := "ref.go:120", after := #[{ on := 6, ground := Ground.data }, { on := 5, ground := Ground.chain }, { on := 0, ground := Ground.phase }, { on := 1, ground := Ground.phase }, { on := 2, ground := Ground.phase }, { on := 3, ground := Ground.phase }, { on := 4, ground := Ground.phase }, { on := 5, ground := Ground.phase }, { on := 6, ground := Ground.phase }], guard := none }) (v := ?vr8) rfl (by kernel_rfl) (by kernel_rfl) (by kernel_rfl) (fun _ _ _ h => h) (Or.inl ⟨by rfl, ?yr8⟩) (Below.refl _ _) ?rr8
            case yr8 => (intro w hSw; go_simp; try with_reducible rfl)
            try simp only [Act.put, List.setIfInBounds_toArray, List.set_cons_zero, List.set_cons_succ]
            refine wpAnyH_done (by kernel_rfl) ?_ _
            have P6 := FP.out _ (Below.refl _ _)
            have K6 := FK.out _ (Below.refl _ _)
            have HB6 : Hid (Below w.heap.size w u7) := FB.out _ (Below.refl _ _)
            have HG6 : Hid (u7.heap[w.heap.size + 2]? = some (.cells #[.int .u8 0, .int .u8 0, .int .u8 0, .int .u8 0, .int .u8 0, .int .u8 0, .int .u8 0, .int .u8 0, .int .u8 0, .int .u8 0, .int .u8 0, .int .u8 0, .int .u8 0, .int .u8 0, .int .u8 0, .int .u8 0, .int .u8 0, .int .u8 0, .int .u8 0, .int .u8 0, .int .u8 0, .int .u8 0, .int .u8 0, .int .u8 0, .int .u8 0, .int .u8 0, .int .u8 0, .int .u8 0, .int .u8 0, .int .u8 0, .int .u8 0, .int .u8 0] 47 (0, 0))) := FG2.out _ (Below.refl _ _)
            have HH6 : Hid (u7.heap[w.heap.size + 3]? = some (.cells #[.int .u8 0, .int .u8 0, .int .u8 0, .int .u8 0, .int .u8 0, .int .u8 0, .int .u8 0, .int .u8 0, .int .u8 0, .int .u8 0, .int .u8 0, .int .u8 0, .int .u8 0, .int .u8 0, .int .u8 0, .int .u8 0, .int .u8 0, .int .u8 0, .int .u8 0, .int .u8 0, .int .u8 0, .int .u8 0, .int .u8 0, .int .u8 0, .int .u8 0, .int .u8 0, .int .u8 0, .int .u8 0, .int .u8 0, .int .u8 0, .int .u8 0, .int .u8 0] 47 (0, 0))) := FG3.out _ (Below.refl _ _)
            have cc := CC.out _ _ K6 P6
            have HZC : Hid ((Tryz.prog.info? 47).map (·.size) = some (u8s CK).size) := by unfold Hid; rw [CO.out]; exact size26
            have HZS : Hid ((Tryz.prog.info? 47).map (·.size) = some (u8s SK).size) := by unfold Hid; rw [SO.out]; exact size26
            have HOC : Hid ((#[.int .u8 0, .int .u8 0, .int .u8 0, .int .u8 0, .int .u8 0, .int .u8 0, .int .u8 0, .int .u8 0, .int .u8 0, .int .u8 0, .int .u8 0, .int .u8 0, .int .u8 0, .int .u8 0, .int .u8 0, .int .u8 0, .int .u8 0, .int .u8 0, .int .u8 0, .int .u8 0, .int .u8 0, .int .u8 0, .int .u8 0, .int .u8 0, .int .u8 0, .int .u8 0, .int .u8 0, .int .u8 0, .int .u8 0, .int .u8 0, .int .u8 0, .int .u8 0] : Array Value).size = (u8s CK).size) := by unfold Hid; rw [CO.out]; rfl
            have HOS : Hid ((#[.int .u8 0, .int .u8 0, .int .u8 0, .int .u8 0, .int .u8 0, .int .u8 0, .int .u8 0, .int .u8 0, .int .u8 0, .int .u8 0, .int .u8 0, .int .u8 0, .int .u8 0, .int .u8 0, .int .u8 0, .int .u8 0, .int .u8 0, .int .u8 0, .int .u8 0, .int .u8 0, .int .u8 0, .int .u8 0, .int .u8 0, .int .u8 0, .int .u8 0, .int .u8 0, .int .u8 0, .int .u8 0, .int .u8 0, .int .u8 0, .int .u8 0, .int .u8 0] : Array Value).size = (u8s SK).size) := by unfold Hid; rw [SO.out]; rfl
            go_wp2_with fail
            refine cc.mono ?_
            rintro e w7 ⟨rfl, b7⟩
            have cs := CS.out _ _ (K6.kept b7) (parts_kept P6 b7)
            have HB7 : Hid (Below w.heap.size w w7) := HB6.out.trans (b7.mono HB6.out.size)
            have HG7 : Hid (w7.heap[w.heap.size + 2]? = some (.cells #[.int .u8 0, .int .u8 0, .int .u8 0, .int .u8 0, .int .u8 0, .int .u8 0, .int .u8 0, .int .u8 0, .int .u8 0, .int .u8 0, .int .u8 0, .int .u8 0, .int .u8 0, .int .u8 0, .int .u8 0, .int .u8 0, .int .u8 0, .int .u8 0, .int .u8 0, .int .u8 0, .int .u8 0, .int .u8 0, .int .u8 0, .int .u8 0, .int .u8 0, .int .u8 0, .int .u8 0, .int .u8 0, .int .u8 0, .int .u8 0, .int .u8 0, .int .u8 0] 47 (0, 0))) := blk_kept HG6.out b7 (blk_lt HG6.out)
            have HH7 : Hid (w7.heap[w.heap.size + 3]? = some (.cells #[.int .u8 0, .int .u8 0, .int .u8 0, .int .u8 0, .int .u8 0, .int .u8 0, .int .u8 0, .int .u8 0, .int .u8 0, .int .u8 0, .int .u8 0, .int .u8 0, .int .u8 0, .int .u8 0, .int .u8 0, .int .u8 0, .int .u8 0, .int .u8 0, .int .u8 0, .int .u8 0, .int .u8 0, .int .u8 0, .int .u8 0, .int .u8 0, .int .u8 0, .int .u8 0, .int .u8 0, .int .u8 0, .int .u8 0, .int .u8 0, .int .u8 0, .int .u8 0] 47 (0, 0))) := blk_kept HH6.out b7 (blk_lt HH6.out)
            clear cc b7 P6 K6 HB6 HG6 HH6
            go_wp2_with fail
            refine cs.mono ?_
            rintro e w8 ⟨rfl, b8⟩
            have HB8 : Hid (Below w.heap.size w w8) := HB7.out.trans (b8.mono HB7.out.size)
            have HG8 : Hid (w8.heap[w.heap.size + 2]? = some (.cells #[.int .u8 0, .int .u8 0, .int .u8 0, .int .u8 0, .int .u8 0, .int .u8 0, .int .u8 0, .int .u8 0, .int .u8 0, .int .u8 0, .int .u8 0, .int .u8 0, .int .u8 0, .int .u8 0, .int .u8 0, .int .u8 0, .int .u8 0, .int .u8 0, .int .u8 0, .int .u8 0, .int .u8 0, .int .u8 0, .int .u8 0, .int .u8 0, .int .u8 0, .int .u8 0, .int .u8 0, .int .u8 0, .int .u8 0, .int .u8 0, .int .u8 0, .int .u8 0] 47 (0, 0))) := blk_kept HG7.out b8 (blk_lt HG7.out)
            have HH8 : Hid (w8.heap[w.heap.size + 3]? = some (.cells #[.int .u8 0, .int .u8 0, .int .u8 0, .int .u8 0, .int .u8 0, .int .u8 0, .int .u8 0, .int .u8 0, .int .u8 0, .int .u8 0, .int .u8 0, .int .u8 0, .int .u8 0, .int .u8 0, .int .u8 0, .int .u8 0, .int .u8 0, .int .u8 0, .int .u8 0, .int .u8 0, .int .u8 0, .int .u8 0, .int .u8 0, .int .u8 0, .int .u8 0, .int .u8 0, .int .u8 0, .int .u8 0, .int .u8 0, .int .u8 0, .int .u8 0, .int .u8 0] 47 (0, 0))) := blk_kept HH7.out b8 (blk_lt HH7.out)
            have HH9 : Hid ((w8.setRow (w.heap.size + 2) (u8s CK)).heap[w.heap.size + 3]? = some (.cells #[.int .u8 0, .int .u8 0, .int .u8 0, .int .u8 0, .int .u8 0, .int .u8 0, .int .u8 0, .int .u8 0, .int .u8 0, .int .u8 0, .int .u8 0, .int .u8 0, .int .u8 0, .int .u8 0, .int .u8 0, .int .u8 0, .int .u8 0, .int .u8 0, .int .u8 0, .int .u8 0, .int .u8 0, .int .u8 0, .int .u8 0, .int .u8 0, .int .u8 0, .int .u8 0, .int .u8 0, .int .u8 0, .int .u8 0, .int .u8 0, .int .u8 0, .int .u8 0] 47 (0, 0))) := (setRow_other _ _ _ _ (by omega)).trans HH8.out
            clear cs b8 HB7 HG7 HH7
            go_wp2_with (first | refine wpList_store_row rfl 47 _ _ rfl (w.heap.size + 2) (u8s CK) rfl rfl 47 _ HG8.out HZC.out HOC.out (u8s_one _) (Hid.out ?_) | refine wpList_store_row rfl 47 _ _ rfl (w.heap.size + 3) (u8s SK) rfl rfl 47 _ HH9.out HZS.out HOS.out (u8s_one _) (Hid.out ?_))
            try unfold Hid
            go_wp2_with (first | refine wpList_store_row rfl 47 _ _ rfl (w.heap.size + 2) (u8s CK) rfl rfl 47 _ HG8.out HZC.out HOC.out (u8s_one _) (Hid.out ?_) | refine wpList_store_row rfl 47 _ _ rfl (w.heap.size + 3) (u8s SK) rfl rfl 47 _ HH9.out HZS.out HOS.out (u8s_one _) (Hid.out ?_))
            try unfold Hid
            try go_wp2
            refine bodyPost_ret (retKr rfl rfl ((setRow_other _ _ _ _ (by omega)).trans (setRow_heap _ _ _ _ _ _ HG8.out)) (setRow_heap _ _ _ _ _ _ HH9.out) CO.out SO.out) rfl ?_
            exact ⟨rfl, below_setRow (below_setRow HB8.out (by omega) _) (by omega) _⟩
          exact AllReadyH.nil
        exact AllReadyH.nil
      exact AllReadyH.nil
    refine AllReadyH.cons (o := { dst := some 12, op := Op.buildSlice 34 0 #[], type := 34, pos := "ref.go:120", after := #[], guard := none }) rfl (fun KK hKK => ?_) ?_
    · go_simp
      refine hKK.out _ _ (al_below _ _) (fun _ => ?_)
      clear hKK KK
      try simp only [Act.put, List.setIfInBounds_toArray, List.set_cons_zero, List.set_cons_succ]
      refine wpAnyH_on (al_below _ _) (fun u9 hu9 bu9 => ?_)
      replace FA := on FA bu9
      replace FBB := on FBB bu9
      replace FK := on FK bu9
      replace FG2 := on FG2 bu9
      replace FG3 := on FG3 bu9
      replace FB := on FB bu9
      replace F0 := on F0 bu9
      have F3 : Hid (∀ x, From u9 x → x.heap[u3.heap.size]? = some (.cells #[] 5 (0, 0))) := emp_from hu9.out
      refine wpAnyH_ready (rs := [2]) (by kernel_rfl) (by simp) ?_
      refine AllReadyH.cons (o := { dst := some 11, op := Op.call { callee := Callee.builtin Builtin.append, args := #[Operand.tmp 9, Operand.tmp 10], argTypes := #[34, 34] }, type := 34, pos := "ref.go:120", after := #[{ on := 0, ground := Ground.data }, { on := 1, ground := Ground.data }], guard := none }) rfl (fun KK hKK => ?_) ?_
      · rw [if_pos (by rfl)]
        refine Mc.wp_append_emp _ _ rfl _ rfl (F0.out _ (Below.refl _ _)) _ A rfl (FA.out _ (Below.refl _ _)) (by have := HAL.out; omega) ?_
        intro v2 u10' e2 bu10'
        have s2 := e2.sl HBA.out.1
        clear e2
        obtain ⟨a2, q2, rfl, -⟩ := id s2
        refine hKK.out _ _ (bu10') (fun _ => ?_)
        clear hKK KK
        try simp only [Act.put, List.setIfInBounds_toArray, List.set_cons_zero, List.set_cons_succ]
        refine wpAnyH_on (bu10') (fun u10 hu10 bu10 => ?_)
        replace FA := on FA bu10
        replace FBB := on FBB bu10
        replace FK := on FK bu10
        replace FG2 := on FG2 bu10
        replace FG3 := on FG3 bu10
        replace FB := on FB bu10
        replace F0 := on F0 bu10
        replace F3 := on F3 bu10
        have F2 : Hid (∀ x, From u10 x → Sl x (.slice a2 A.length q2) A) := fun x hx => by rw [hu10.out] at hx; exact Sl.kept s2 hx
        clear s2
        refine wpAnyH_ready (rs := [5]) (by kernel_rfl) (by simp) ?_
        refine AllReadyH.cons (o := { dst := some 14, op := Op.call { callee := Callee.builtin Builtin.append, args := #[Operand.tmp 12, Operand.tmp 13], argTypes := #[34, 34] }, type := 34, pos := "ref.go:120", after := #[{ on := 3, ground := Ground.data }, { on := 4, ground := Ground.data }, { on := 2, ground := Ground.chain }], guard := none }) rfl (fun KK hKK => ?_) ?_
        · rw [if_pos (by rfl)]
          refine Mc.wp_append_emp _ _ rfl _ rfl (F3.out _ (Below.refl _ _)) _ B rfl (FBB.out _ (Below.refl _ _)) (by have := HAL.out; omega) ?_
          intro v5 u11' e5 bu11'
          have s5 := e5.sl HBA.out.2
          clear e5
          obtain ⟨a5, q5, rfl, -⟩ := id s5
          refine hKK.out _ _ (bu11') (fun _ => ?_)
          clear hKK KK
          try simp only [Act.put, List.setIfInBounds_toArray, List.set_cons_zero, List.set_cons_succ]
          refine wpAnyH_on (bu11') (fun u11 hu11 bu11 => ?_)
          replace FA := on FA bu11
          replace FBB := on FBB bu11
          replace FK := on FK bu11
          replace FG2 := on FG2 bu11
          replace FG3 := on FG3 bu11
          replace FB := on FB bu11
          replace F0 := on F0 bu11
          replace F3 := on F3 bu11
          replace F2 := on F2 bu11
          have F5 : Hid (∀ x, From u11 x → Sl x (.slice a5 B.length q5) B) := fun x hx => by rw [hu11.out] at hx; exact Sl.kept s5 hx
          clear s5
          refine wpAnyH_ready (rs := [6]) (by kernel_rfl) (by simp) ?_
          refine AllReadyH.cons (o := { dst := some 15, op := Op.buildSlice 100 2 #[(0, Operand.tmp 11), (1, Operand.tmp 14)], type := 100, pos := "ref.go:120", after := #[{ on := 2, ground := Ground.data }, { on := 5, ground := Ground.data }], guard := none }) rfl (fun KK hKK => ?_) ?_
          · have pu12 := parts2 u11 _ _ A B (F2.out _ (Below.refl _ _)) (F5.out _ (Below.refl _ _))
            go_simp
            refine hKK.out _ _ (al_below _ _) (fun _ => ?_)
            clear hKK KK
            try simp only [Act.put, List.setIfInBounds_toArray, List.set_cons_zero, List.set_cons_succ]
            refine wpAnyH_on (al_below _ _) (fun u12 hu12 bu12 => ?_)
            replace FA := on FA bu12
            replace FBB := on FBB bu12
            replace FK := on FK bu12
            replace FG2 := on FG2 bu12
            replace FG3 := on FG3 bu12
            replace FB := on FB bu12
            replace F0 := on F0 bu12
            replace F3 := on F3 bu12
            replace F2 := on F2 bu12
            replace F5 := on F5 bu12
            have FP : Hid (∀ x, From u12 x → Parts x (some ⟨u11.heap.size, 0, none⟩) [A, B]) := fun x hx => parts_kept (by rw [hu12.out]; exact pu12) hx
            clear pu12
            refine wpAnyH_take (i := 7) (oi := { dst := some 8, op := Op.assign (Operand.tmp 15), type := 100, pos := "ref.go:120", after := #[{ on := 6, ground := Ground.data }, { on := 5, ground := Ground.chain }, { on := 0, ground := Ground.phase }, { on := 1, ground := Ground.phase }, { on := 2, ground := Ground.phase }, { on := 3, ground := Ground.phase }, { on := 4, ground := Ground.phase }, { on := 5, ground := Ground.phase }, { on := 6, ground := Ground.phase }], guard := none }) (v := ?vr13) rfl (by kernel_rfl) (by kernel_rfl) (by kernel_rfl) (fun _ _ _ h => h) (Or.inl ⟨by rfl, ?yr13⟩) (Below.refl _ _) ?rr13
            case yr13 => (intro w hSw; go_simp; try with_reducible rfl)
            try simp only [Act.put, List.setIfInBounds_toArray, List.set_cons_zero, List.set_cons_succ]
            refine wpAnyH_done (by kernel_rfl) ?_ _
            have P6 := FP.out _ (Below.refl _ _)
            have K6 := FK.out _ (Below.refl _ _)
            have HB6 : Hid (Below w.heap.size w u12) := FB.out _ (Below.refl _ _)
            have HG6 : Hid (u12.heap[w.heap.size + 2]? = some (.cells #[.int .u8 0, .int .u8 0, .int .u8 0, .int .u8 0, .int .u8 0, .int .u8 0, .int .u8 0, .int .u8 0, .int .u8 0, .int .u8 0, .int .u8 0, .int .u8 0, .int .u8 0, .int .u8 0, .int .u8 0, .int .u8 0, .int .u8 0, .int .u8 0, .int .u8 0, .int .u8 0, .int .u8 0, .int .u8 0, .int .u8 0, .int .u8 0, .int .u8 0, .int .u8 0, .int .u8 0, .int .u8 0, .int .u8 0, .int .u8 0, .int .u8 0, .int .u8 0] 47 (0, 0))) := FG2.out _ (Below.refl _ _)
            have HH6 : Hid (u12.heap[w.heap.size + 3]? = some (.cells #[.int .u8 0, .int .u8 0, .int .u8 0, .int .u8 0, .int .u8 0, .int .u8 0, .int .u8 0, .int .u8 0, .int .u8 0, .int .u8 0, .int .u8 0, .int .u8 0, .int .u8 0, .int .u8 0, .int .u8 0, .int .u8 0, .int .u8 0, .int .u8 0, .int .u8 0, .int .u8 0, .int .u8 0, .int .u8 0, .int .u8 0, .int .u8 0, .int .u8 0, .int .u8 0, .int .u8 0, .int .u8 0, .int .u8 0, .int .u8 0, .int .u8 0, .int .u8 0] 47 (0, 0))) := FG3.out _ (Below.refl _ _)
            have cc := CC.out _ _ K6 P6
            have HZC : Hid ((Tryz.prog.info? 47).map (·.size) = some (u8s CK).size) := by unfold Hid; rw [CO.out]; exact size26
            have HZS : Hid ((Tryz.prog.info? 47).map (·.size) = some (u8s SK).size) := by unfold Hid; rw [SO.out]; exact size26
            have HOC : Hid ((#[.int .u8 0, .int .u8 0, .int .u8 0, .int .u8 0, .int .u8 0, .int .u8 0, .int .u8 0, .int .u8 0, .int .u8 0, .int .u8 0, .int .u8 0, .int .u8 0, .int .u8 0, .int .u8 0, .int .u8 0, .int .u8 0, .int .u8 0, .int .u8 0, .int .u8 0, .int .u8 0, .int .u8 0, .int .u8 0, .int .u8 0, .int .u8 0, .int .u8 0, .int .u8 0, .int .u8 0, .int .u8 0, .int .u8 0, .int .u8 0, .int .u8 0, .int .u8 0] : Array Value).size = (u8s CK).size) := by unfold Hid; rw [CO.out]; rfl
            have HOS : Hid ((#[.int .u8 0, .int .u8 0, .int .u8 0, .int .u8 0, .int .u8 0, .int .u8 0, .int .u8 0, .int .u8 0, .int .u8 0, .int .u8 0, .int .u8 0, .int .u8 0, .int .u8 0, .int .u8 0, .int .u8 0, .int .u8 0, .int .u8 0, .int .u8 0, .int .u8 0, .int .u8 0, .int .u8 0, .int .u8 0, .int .u8 0, .int .u8 0, .int .u8 0, .int .u8 0, .int .u8 0, .int .u8 0, .int .u8 0, .int .u8 0, .int .u8 0, .int .u8 0] : Array Value).size = (u8s SK).size) := by unfold Hid; rw [SO.out]; rfl
            go_wp2_with fail
            refine cc.mono ?_
            rintro e w7 ⟨rfl, b7⟩
            have cs := CS.out _ _ (K6.kept b7) (parts_kept P6 b7)
            have HB7 : Hid (Below w.heap.size w w7) := HB6.out.trans (b7.mono HB6.out.size)
            have HG7 : Hid (w7.heap[w.heap.size + 2]? = some (.cells #[.int .u8 0, .int .u8 0, .int .u8 0, .int .u8 0, .int .u8 0, .int .u8 0, .int .u8 0, .int .u8 0, .int .u8 0, .int .u8 0, .int .u8 0, .int .u8 0, .int .u8 0, .int .u8 0, .int .u8 0, .int .u8 0, .int .u8 0, .int .u8 0, .int .u8 0, .int .u8 0, .int .u8 0, .int .u8 0, .int .u8 0, .int .u8 0, .int .u8 0, .int .u8 0, .int .u8 0, .int .u8 0, .int .u8 0, .int .u8 0, .int .u8 0, .int .u8 0] 47 (0, 0))) := blk_kept HG6.out b7 (blk_lt HG6.out)
            have HH7 : Hid (w7.heap[w.heap.size + 3]? = some (.cells #[.int .u8 0, .int .u8 0, .int .u8 0, .int .u8 0, .int .u8 0, .int .u8 0, .int .u8 0, .int .u8 0, .int .u8 0, .int .u8 0, .int .u8 0, .int .u8 0, .int .u8 0, .int .u8 0, .int .u8 0, .int .u8 0, .int .u8 0, .int .u8 0, .int .u8 0, .int .u8 0, .int .u8 0, .int .u8 0, .int .u8 0, .int .u8 0, .int .u8 0, .int .u8 0, .int .u8 0, .int .u8 0, .int .u8 0, .int .u8 0, .int .u8 0, .int .u8 0] 47 (0, 0))) := blk_kept HH6.out b7 (blk_lt HH6.out)
            clear cc b7 P6 K6 HB6 HG6 HH6
            go_wp2_with fail
            refine cs.mono ?_
            rintro e w8 ⟨rfl, b8⟩
            have HB8 : Hid (Below w.heap.size w w8) := HB7.out.trans (b8.mono HB7.out.size)
            have HG8 : Hid (w8.heap[w.heap.size + 2]? = some (.cells #[.int .u8 0, .int .u8 0, .int .u8 0, .int .u8 0, .int .u8 0, .int .u8 0, .int .u8 0, .int .u8 0, .int .u8 0, .int .u8 0, .int .u8 0, .int .u8 0, .int .u8 0, .int .u8 0, .int .u8 0, .int .u8 0, .int .u8 0, .int .u8 0, .int .u8 0, .int .u8 0, .int .u8 0, .int .u8 0, .int .u8 0, .int .u8 0, .int .u8 0, .int .u8 0, .int .u8 0, .int .u8 0, .int .u8 0, .int .u8 0, .int .u8 0, .int .u8 0] 47 (0, 0))) := blk_kept HG7.out b8 (blk_lt HG7.out)
            have HH8 : Hid (w8.heap[w.heap.size + 3]? = some (.cells #[.int .u8 0, .int .u8 0, .int .u8 0, .int .u8 0, .int .u8 0, .int .u8 0, .int .u8 0, .int .u8 0, .int .u8 0, .int .u8 0, .int .u8 0, .int .u8 0, .int .u8 0, .int .u8 0, .int .u8 0, .int .u8 0, .int .u8 0, .int .u8 0, .int .u8 0, .int .u8 0, .int .u8 0, .int .u8 0, .int .u8 0, .int .u8 0, .int .u8 0, .int .u8 0, .int .u8 0, .int .u8 0, .int .u8 0, .int .u8 0, .int .u8 0, .int .u8 0] 47 (0, 0))) := blk_kept HH7.out b8 (blk_lt HH7.out)
            have HH9 : Hid ((w8.setRow (w.heap.size + 2) (u8s CK)).heap[w.heap.size + 3]? = some (.cells #[.int .u8 0, .int .u8 0, .int .u8 0, .int .u8 0, .int .u8 0, .int .u8 0, .int .u8 0, .int .u8 0, .int .u8 0, .int .u8 0, .int .u8 0, .int .u8 0, .int .u8 0, .int .u8 0, .int .u8 0, .int .u8 0, .int .u8 0, .int .u8 0, .int .u8 0, .int .u8 0, .int .u8 0, .int .u8 0, .int .u8 0, .int .u8 0, .int .u8 0, .int .u8 0, .int .u8 0, .int .u8 0, .int .u8 0, .int .u8 0, .int .u8 0, .int .u8 0] 47 (0, 0))) := (setRow_other _ _ _ _ (by omega)).trans HH8.out
            clear cs b8 HB7 HG7 HH7
            go_wp2_with (first | refine wpList_store_row rfl 47 _ _ rfl (w.heap.size + 2) (u8s CK) rfl rfl 47 _ HG8.out HZC.out HOC.out (u8s_one _) (Hid.out ?_) | refine wpList_store_row rfl 47 _ _ rfl (w.heap.size + 3) (u8s SK) rfl rfl 47 _ HH9.out HZS.out HOS.out (u8s_one _) (Hid.out ?_))
            try unfold Hid
            go_wp2_with (first | refine wpList_store_row rfl 47 _ _ rfl (w.heap.size + 2) (u8s CK) rfl rfl 47 _ HG8.out HZC.out HOC.out (u8s_one _) (Hid.out ?_) | refine wpList_store_row rfl 47 _ _ rfl (w.heap.size + 3) (u8s SK) rfl rfl 47 _ HH9.out HZS.out HOS.out (u8s_one _) (Hid.out ?_))
            try unfold Hid
            try go_wp2
            refine bodyPost_ret (retKr rfl rfl ((setRow_other _ _ _ _ (by omega)).trans (setRow_heap _ _ _ _ _ _ HG8.out)) (setRow_heap _ _ _ _ _ _ HH9.out) CO.out SO.out) rfl ?_
            exact ⟨rfl, below_setRow (below_setRow HB8.out (by omega) _) (by omega) _⟩
          exact AllReadyH.nil
        exact AllReadyH.nil
      exact AllReadyH.nil
    exact AllReadyH.nil
  refine AllReadyH.cons (o := { dst := some 12, op := Op.buildSlice 34 0 #[], type := 34, pos := "ref.go:120", after := #[], guard := none }) rfl (fun KK hKK => ?_) ?_
  · go_simp
    refine hKK.out _ _ (al_below _ _) (fun _ => ?_)
    clear hKK KK
    try simp only [Act.put, List.setIfInBounds_toArray, List.set_cons_zero, List.set_cons_succ]
    refine wpAnyH_on (al_below _ _) (fun u14 hu14 bu14 => ?_)
    replace FA := on FA bu14
    replace FBB := on FBB bu14
    replace FK := on FK bu14
    replace FG2 := on FG2 bu14
    replace FG3 := on FG3 bu14
    replace FB := on FB bu14
    have F3 : Hid (∀ x, From u14 x → x.heap[u0.heap.size]? = some (.cells #[] 5 (0, 0))) := emp_from hu14.out
    refine wpAnyH_ready (rs := [0]) (by kernel_rfl) (by simp) ?_
    refine AllReadyH.cons (o := { dst := some 9, op := Op.buildSlice 34 0 #[], type := 34, pos := "ref.go:120", after := #[], guard := none }) rfl (fun KK hKK => ?_) ?_
    · go_simp
      refine hKK.out _ _ (al_below _ _) (fun _ => ?_)
      clear hKK KK
      try simp only [Act.put, List.setIfInBounds_toArray, List.set_cons_zero, List.set_cons_succ]
      refine wpAnyH_on (al_below _ _) (fun u15 hu15 bu15 => ?_)
      replace FA := on FA bu15
      replace FBB := on FBB bu15
      replace FK := on FK bu15
      replace FG2 := on FG2 bu15
      replace FG3 := on FG3 bu15
      replace FB := on FB bu15
      replace F3 := on F3 bu15
      have F0 : Hid (∀ x, From u15 x → x.heap[u14.heap.size]? = some (.cells #[] 5 (0, 0))) := emp_from hu15.out
      refine wpAnyH_ready (rs := [2]) (by kernel_rfl) (by simp) ?_
      refine AllReadyH.cons (o := { dst := some 11, op := Op.call { callee := Callee.builtin Builtin.append, args := #[Operand.tmp 9, Operand.tmp 10], argTypes := #[34, 34] }, type := 34, pos := "ref.go:120", after := #[{ on := 0, ground := Ground.data }, { on := 1, ground := Ground.data }], guard := none }) rfl (fun KK hKK => ?_) ?_
      · rw [if_pos (by rfl)]
        refine Mc.wp_append_emp _ _ rfl _ rfl (F0.out _ (Below.refl _ _)) _ A rfl (FA.out _ (Below.refl _ _)) (by have := HAL.out; omega) ?_
        intro v2 u16' e2 bu16'
        have s2 := e2.sl HBA.out.1
        clear e2
        obtain ⟨a2, q2, rfl, -⟩ := id s2
        refine hKK.out _ _ (bu16') (fun _ => ?_)
        clear hKK KK
        try simp only [Act.put, List.setIfInBounds_toArray, List.set_cons_zero, List.set_cons_succ]
        refine wpAnyH_on (bu16') (fun u16 hu16 bu16 => ?_)
        replace FA := on FA bu16
        replace FBB := on FBB bu16
        replace FK := on FK bu16
        replace FG2 := on FG2 bu16
        replace FG3 := on FG3 bu16
        replace FB := on FB bu16
        replace F3 := on F3 bu16
        replace F0 := on F0 bu16
        have F2 : Hid (∀ x, From u16 x → Sl x (.slice a2 A.length q2) A) := fun x hx => by rw [hu16.out] at hx; exact Sl.kept s2 hx
        clear s2
        refine wpAnyH_ready (rs := [5]) (by kernel_rfl) (by simp) ?_
        refine AllReadyH.cons (o := { dst := some 14, op := Op.call { callee := Callee.builtin Builtin.append, args := #[Operand.tmp 12, Operand.tmp 13], argTypes := #[34, 34] }, type := 34, pos := "ref.go:120", after := #[{ on := 3, ground := Ground.data }, { on := 4, ground := Ground.data }, { on := 2, ground := Ground.chain }], guard := none }) rfl (fun KK hKK => ?_) ?_
        · rw [if_pos (by rfl)]
          refine Mc.wp_append_emp _ _ rfl _ rfl (F3.out _ (Below.refl _ _)) _ B rfl (FBB.out _ (Below.refl _ _)) (by have := HAL.out; omega) ?_
          intro v5 u17' e5 bu17'
          have s5 := e5.sl HBA.out.2
          clear e5
          obtain ⟨a5, q5, rfl, -⟩ := id s5
          refine hKK.out _ _ (bu17') (fun _ => ?_)
          clear hKK KK
          try simp only [Act.put, List.setIfInBounds_toArray, List.set_cons_zero, List.set_cons_succ]
          refine wpAnyH_on (bu17') (fun u17 hu17 bu17 => ?_)
          replace FA := on FA bu17
          replace FBB := on FBB bu17
          replace FK := on FK bu17
          replace FG2 := on FG2 bu17
          replace FG3 := on FG3 bu17
          replace FB := on FB bu17
          replace F3 := on F3 bu17
          replace F0 := on F0 bu17
          replace F2 := on F2 bu17
          have F5 : Hid (∀ x, From u17 x → Sl x (.slice a5 B.length q5) B) := fun x hx => by rw [hu17.out] at hx; exact Sl.kept s5 hx
          clear s5
          refine wpAnyH_ready (rs := [6]) (by kernel_rfl) (by simp) ?_
          refine AllReadyH.cons (o := { dst := some 15, op := Op.buildSlice 100 2 #[(0, Operand.tmp 11), (1, Operand.tmp 14)], type := 100, pos := "ref.go:120", after := #[{ on := 2, ground := Ground.data }, { on := 5, ground := Ground.data }], guard := none }) rfl (fun KK hKK => ?_) ?_
          · have pu18 := parts2 u17 _ _ A B (F2.out _ (Below.refl _ _)) (F5.out _ (Below.refl _ _))
            go_simp
            refine hKK.out _ _ (al_below _ _) (fun _ => ?_)
            clear hKK KK
            try simp only [Act.put, List.setIfInBounds_toArray, List.set_cons_zero, List.set_cons_succ]
            refine wpAnyH_on (al_below _ _) (fun u18 hu18 bu18 => ?_)
            replace FA := on FA bu18
            replace FBB := on FBB bu18
            replace FK := on FK bu18
            replace FG2 := on FG2 bu18
            replace FG3 := on FG3 bu18
            replace FB := on FB bu18
            replace F3 := on F3 bu18
            replace F0 := on F0 bu18
            replace F2 := on F2 bu18
            replace F5 := on F5 bu18
            have FP : Hid (∀ x, From u18 x → Parts x (some ⟨u17.heap.size, 0, none⟩) [A, B]) := fun x hx => parts_kept (by rw [hu18.out]; exact pu18) hx
            clear pu18
            refine wpAnyH_take (i := 7) (oi := { dst := some 8, op := Op.assign (Operand.tmp 15), type := 100, pos := "ref.go:120", after := #[{ on := 6, ground := Ground.data }, { on := 5, ground := Ground.chain }, { on := 0, ground := Ground.phase }, { on := 1, ground := Ground.phase }, { on := 2, ground := Ground.phase }, { on := 3, ground := Ground.phase }, { on := 4, ground := Ground.phase }, { on := 5, ground := Ground.phase }, { on := 6, ground := Ground.phase }], guard := none }) (v := ?vr19) rfl (by kernel_rfl) (by kernel_rfl) (by kernel_rfl) (fun _ _ _ h => h) (Or.inl ⟨by rfl, ?yr19⟩) (Below.refl _ _) ?rr19
            case yr19 => (intro w hSw; go_simp; try with_reducible rfl)
            try simp only [Act.put, List.setIfInBounds_toArray, List.set_cons_zero, List.set_cons_succ]
            refine wpAnyH_done (by kernel_rfl) ?_ _
            have P6 := FP.out _ (Below.refl _ _)
            have K6 := FK.out _ (Below.refl _ _)
            have HB6 : Hid (Below w.heap.size w u18) := FB.out _ (Below.refl _ _)
            have HG6 : Hid (u18.heap[w.heap.size + 2]? = some (.cells #[.int .u8 0, .int .u8 0, .int .u8 0, .int .u8 0, .int .u8 0, .int .u8 0, .int .u8 0, .int .u8 0, .int .u8 0, .int .u8 0, .int .u8 0, .int .u8 0, .int .u8 0, .int .u8 0, .int .u8 0, .int .u8 0, .int .u8 0, .int .u8 0, .int .u8 0, .int .u8 0, .int .u8 0, .int .u8 0, .int .u8 0, .int .u8 0, .int .u8 0, .int .u8 0, .int .u8 0, .int .u8 0, .int .u8 0, .int .u8 0, .int .u8 0, .int .u8 0] 47 (0, 0))) := FG2.out _ (Below.refl _ _)
            have HH6 : Hid (u18.heap[w.heap.size + 3]? = some (.cells #[.int .u8 0, .int .u8 0, .int .u8 0, .int .u8 0, .int .u8 0, .int .u8 0, .int .u8 0, .int .u8 0, .int .u8 0, .int .u8 0, .int .u8 0, .int .u8 0, .int .u8 0, .int .u8 0, .int .u8 0, .int .u8 0, .int .u8 0, .int .u8 0, .int .u8 0, .int .u8 0, .int .u8 0, .int .u8 0, .int .u8 0, .int .u8 0, .int .u8 0, .int .u8 0, .int .u8 0, .int .u8 0, .int .u8 0, .int .u8 0, .int .u8 0, .int .u8 0] 47 (0, 0))) := FG3.out _ (Below.refl _ _)
            have cc := CC.out _ _ K6 P6
            have HZC : Hid ((Tryz.prog.info? 47).map (·.size) = some (u8s CK).size) := by unfold Hid; rw [CO.out]; exact size26
            have HZS : Hid ((Tryz.prog.info? 47).map (·.size) = some (u8s SK).size) := by unfold Hid; rw [SO.out]; exact size26
            have HOC : Hid ((#[.int .u8 0, .int .u8 0, .int .u8 0, .int .u8 0, .int .u8 0, .int .u8 0, .int .u8 0, .int .u8 0, .int .u8 0, .int .u8 0, .int .u8 0, .int .u8 0, .int .u8 0, .int .u8 0, .int .u8 0, .int .u8 0, .int .u8 0, .int .u8 0, .int .u8 0, .int .u8 0, .int .u8 0, .int .u8 0, .int .u8 0, .int .u8 0, .int .u8 0, .int .u8 0, .int .u8 0, .int .u8 0, .int .u8 0, .int .u8 0, .int .u8 0, .int .u8 0] : Array Value).size = (u8s CK).size) := by unfold Hid; rw [CO.out]; rfl
            have HOS : Hid ((#[.int .u8 0, .int .u8 0, .int .u8 0, .int .u8 0, .int .u8 0, .int .u8 0, .int .u8 0, .int .u8 0, .int .u8 0, .int .u8 0, .int .u8 0, .int .u8 0, .int .u8 0, .int .u8 0, .int .u8 0, .int .u8 0, .int .u8 0, .int .u8 0, .int .u8 0, .int .u8 0, .int .u8 0, .int .u8 0, .int .u8 0, .int .u8 0, .int .u8 0, .int .u8 0, .int .u8 0, .int .u8 0, .int .u8 0, .int .u8 0, .int .u8 0, .int .u8 0] : Array Value).size = (u8s SK).size) := by unfold Hid; rw [SO.out]; rfl
            go_wp2_with fail
            refine cc.mono ?_
            rintro e w7 ⟨rfl, b7⟩
            have cs := CS.out _ _ (K6.kept b7) (parts_kept P6 b7)
            have HB7 : Hid (Below w.heap.size w w7) := HB6.out.trans (b7.mono HB6.out.size)
            have HG7 : Hid (w7.heap[w.heap.size + 2]? = some (.cells #[.int .u8 0, .int .u8 0, .int .u8 0, .int .u8 0, .int .u8 0, .int .u8 0, .int .u8 0, .int .u8 0, .int .u8 0, .int .u8 0, .int .u8 0, .int .u8 0, .int .u8 0, .int .u8 0, .int .u8 0, .int .u8 0, .int .u8 0, .int .u8 0, .int .u8 0, .int .u8 0, .int .u8 0, .int .u8 0, .int .u8 0, .int .u8 0, .int .u8 0, .int .u8 0, .int .u8 0, .int .u8 0, .int .u8 0, .int .u8 0, .int .u8 0, .int .u8 0] 47 (0, 0))) := blk_kept HG6.out b7 (blk_lt HG6.out)
            have HH7 : Hid (w7.heap[w.heap.size + 3]? = some (.cells #[.int .u8 0, .int .u8 0, .int .u8 0, .int .u8 0, .int .u8 0, .int .u8 0, .int .u8 0, .int .u8 0, .int .u8 0, .int .u8 0, .int .u8 0, .int .u8 0, .int .u8 0, .int .u8 0, .int .u8 0, .int .u8 0, .int .u8 0, .int .u8 0, .int .u8 0, .int .u8 0, .int .u8 0, .int .u8 0, .int .u8 0, .int .u8 0, .int .u8 0, .int .u8 0, .int .u8 0, .int .u8 0, .int .u8 0, .int .u8 0, .int .u8 0, .int .u8 0] 47 (0, 0))) := blk_kept HH6.out b7 (blk_lt HH6.out)
            clear cc b7 P6 K6 HB6 HG6 HH6
            go_wp2_with fail
            refine cs.mono ?_
            rintro e w8 ⟨rfl, b8⟩
            have HB8 : Hid (Below w.heap.size w w8) := HB7.out.trans (b8.mono HB7.out.size)
            have HG8 : Hid (w8.heap[w.heap.size + 2]? = some (.cells #[.int .u8 0, .int .u8 0, .int .u8 0, .int .u8 0, .int .u8 0, .int .u8 0, .int .u8 0, .int .u8 0, .int .u8 0, .int .u8 0, .int .u8 0, .int .u8 0, .int .u8 0, .int .u8 0, .int .u8 0, .int .u8 0, .int .u8 0, .int .u8 0, .int .u8 0, .int .u8 0, .int .u8 0, .int .u8 0, .int .u8 0, .int .u8 0, .int .u8 0, .int .u8 0, .int .u8 0, .int .u8 0, .int .u8 0, .int .u8 0, .int .u8 0, .int .u8 0] 47 (0, 0))) := blk_kept HG7.out b8 (blk_lt HG7.out)
            have HH8 : Hid (w8.heap[w.heap.size + 3]? = some (.cells #[.int .u8 0, .int .u8 0, .int .u8 0, .int .u8 0, .int .u8 0, .int .u8 0, .int .u8 0, .int .u8 0, .int .u8 0, .int .u8 0, .int .u8 0, .int .u8 0, .int .u8 0, .int .u8 0, .int .u8 0, .int .u8 0, .int .u8 0, .int .u8 0, .int .u8 0, .int .u8 0, .int .u8 0, .int .u8 0, .int .u8 0, .int .u8 0, .int .u8 0, .int .u8 0, .int .u8 0, .int .u8 0, .int .u8 0, .int .u8 0, .int .u8 0, .int .u8 0] 47 (0, 0))) := blk_kept HH7.out b8 (blk_lt HH7.out)
            have HH9 : Hid ((w8.setRow (w.heap.size + 2) (u8s CK)).heap[w.heap.size + 3]? = some (.cells #[.int .u8 0, .int .u8 0, .int .u8 0, .int .u8 0, .int .u8 0, .int .u8 0, .int .u8 0, .int .u8 0, .int .u8 0, .int .u8 0, .int .u8 0, .int .u8 0, .int .u8 0, .int .u8 0, .int .u8 0, .int .u8 0, .int .u8 0, .int .u8 0, .int .u8 0, .int .u8 0, .int .u8 0, .int .u8 0, .int .u8 0, .int .u8 0, .int .u8 0, .int .u8 0, .int .u8 0, .int .u8 0, .int .u8 0, .int .u8 0, .int .u8 0, .int .u8 0] 47 (0, 0))) := (setRow_other _ _ _ _ (by omega)).trans HH8.out
            clear cs b8 HB7 HG7 HH7
            go_wp2_with (first | refine wpList_store_row rfl 47 _ _ rfl (w.heap.size + 2) (u8s CK) rfl rfl 47 _ HG8.out HZC.out HOC.out (u8s_one _) (Hid.out ?_) | refine wpList_store_row rfl 47 _ _ rfl (w.heap.size + 3) (u8s SK) rfl rfl 47 _ HH9.out HZS.out HOS.out (u8s_one _) (Hid.out ?_))
            try unfold Hid
            go_wp2_with (first | refine wpList_store_row rfl 47 _ _ rfl (w.heap.size + 2) (u8s CK) rfl rfl 47 _ HG8.out HZC.out HOC.out (u8s_one _) (Hid.out ?_) | refine wpList_store_row rfl 47 _ _ rfl (w.heap.size + 3) (u8s SK) rfl rfl 47 _ HH9.out HZS.out HOS.out (u8s_one _) (Hid.out ?_))
            try unfold Hid
            try go_wp2
            refine bodyPost_ret (retKr rfl rfl ((setRow_other _ _ _ _ (by omega)).trans (setRow_heap _ _ _ _ _ _ HG8.out)) (setRow_heap _ _ _ _ _ _ HH9.out) CO.out SO.out) rfl ?_
            exact ⟨rfl, below_setRow (below_setRow HB8.out (by omega) _) (by omega) _⟩
          exact AllReadyH.nil
        exact AllReadyH.nil
      exact AllReadyH.nil
    exact AllReadyH.nil
  exact AllReadyH.nil

end Go.Proofs.YtiollhmbdhepkaaGreatDoor
