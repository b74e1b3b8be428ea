/-
  MacBack answers true for every key, head and all bytes, and nothing that was there is changed; the three package-level tables start as the program's text lays them (the card ties them).
-/
import Derived.Test.YtkblcabibnnmcaaDoorLw
import Derived.Test.YtkblcabibnnmcaaDoorROp
namespace Go.Proofs.YtkblcabibnnmcaaDoor.macBack
open Go.ChangeShapes Go.WideShapes Go.ChangeAt Go.RowKit Go.Deep Go.ChangeMaps

/-- A byte of a row of the call's own is written. -/
theorem own_set {w : World} {B g L cap i : Nat} {S : List Int} {z : Int} (h : w.ownsRow B 5 1 (.slice (some ⟨g, 0, none⟩) L cap) L (S.map (Value.int .u8))) :
    (w.setCell ⟨g, i, none⟩ (.int .u8 z)).ownsRow B 5 1 (.slice (some ⟨g, 0, none⟩) L cap) L ((S.set i z).map (Value.int .u8)) := by
  obtain ⟨h1, h2⟩ := h
  rcases h2 with ⟨e, _⟩ | ⟨g', cap', cur, e, hg, hh, hc, hm, hs, ht⟩
  · cases e
  · cases e
    refine ⟨by rw [List.length_map, List.length_set]; simpa using h1, .inr ⟨g, cap, cur.setIfInBounds i (.int .u8 z), rfl, hg, heap_setCell_same _ _ _ _ _ _ hh, hc, hm, by rw [Array.size_setIfInBounds]; exact hs, ?_⟩⟩
    rw [Nat.mul_one] at ht ⊢
    rw [Array.toList_setIfInBounds, List.take_set, ht, List.map_set]
theorem own_cell {w : World} {B g L cap i : Nat} {S : List Int} (h : w.ownsRow B 5 1 (.slice (some ⟨g, 0, none⟩) L cap) L (S.map (Value.int .u8))) (hi : i < S.length) : w.cell? ⟨g, i, none⟩ = some (.int .u8 (S.getD i 0)) ∧ w.frozen? ⟨g, i, none⟩ = false := by
  have hc := h.cells (g := g) rfl i (.int .u8 (S.getD i 0)) (by simp [List.getElem?_map, List.getElem?_eq_getElem hi, List.getD])
  rw [Addr.add_lit, Nat.zero_add] at hc
  refine ⟨hc, ?_⟩
  rcases h.2 with ⟨e, _⟩ | ⟨g', cap', cur, e, hg, hh, _⟩
  · cases e
  · cases e
    exact frozen_of_row _ _ _ _ _ hh
/-- With another tag it is not opened. -/
theorem open_other (K H X : List Int) (i : Nat) (z : Int) (h1 : X.length ≤ i) (h2 : i < X.length + 16) (hz : z ≠ (X ++ btag K H X).getD i 0) : opE K H ((X ++ btag K H X).set i z) = 15 ∧ opX K H ((X ++ btag K H X).set i z) = [] := by
  have ht : (btag K H X).length = 16 := tagB_len _ _
  have hl : ((X ++ btag K H X).set i z).length = X.length + 16 := by rw [List.length_set, List.length_append, ht]
  have hs : (X ++ btag K H X).set i z = X ++ (btag K H X).set (i - X.length) z := List.set_append_right _ _ h1
  have he : opE K H ((X ++ btag K H X).set i z) = 15 := by
    unfold opE
    rw [if_neg (by rw [hl]; omega), hl, Nat.add_sub_cancel, hs, List.drop_left, List.take_left, if_neg]
    intro e
    have e2 := congrArg (fun l => l.getD (i - X.length) 0) e
    simp only [List.getD, List.getElem?_set, if_true] at e2
    rw [if_pos (by omega), Option.getD_some] at e2
    refine hz (e2.trans ?_)
    rw [getD_append_right _ _ _ h1]
    rfl
  refine ⟨he, ?_⟩
  unfold opX
  rw [he]
  rfl
theorem open_short (K H S : List Int) (h : S.length < 16) : opE K H S = 3 := by unfold opE; rw [if_pos h]

set_option maxHeartbeats 8000000 in
set_option maxRecDepth 100000 in
theorem walk (KB : List Int) (ha : Option Addr) (hl hcp : Nat) (zs : List Int) (a : Option Addr) (len cap : Nat) (ys : List Int) (w : World) (hw : Tabs w) (hK : KB.length = 32) (hKb : Pl.Byt KB) (hh : Bytes w ha hl hcp zs) (hb : Bytes w a len cap ys) :
    Calls Tryd.prog 6 #[.agg (u8s KB), .slice ha hl hcp, .slice a len cap] w fun e w' => e = .returned (.bool true) ∧ Below w.heap.size w w' := by
  have hm1 : hl ≤ 140737488351232 := by have := hh.2.2; omega
  have hm2 : len ≤ 140737488351232 := by have := hb.2.2; omega
  obtain ⟨wa, hwa⟩ : ∃ wa, wa = w.alloc (.cells (u8s KB) 26) := ⟨_, rfl⟩
  have ba : Below w.heap.size w wa := by rw [hwa]; exact al_below _ _
  have hwz : w.alloc (.cells (u8s KB) 26) = wa := hwa.symm
  have CA : Hid (∀ W, Below wa.heap.size wa W → Calls Tryd.prog 8 #[] W fun r w' => r = .returned (.bool true) ∧ Below W.heap.size W w') := fun W h => awake_any W ((hw.kept ba).kept h)
  have HBA : Hid (Below w.heap.size w wa) := ba
  by_cases h1 : 500 < hl
  · clear hh hb
    have g1 : (hl : Int) > 500 := by omega
    clear hwa ba
    generalize u8s KB = KU at *
    go_enter Tryd.func6, Tryd.ntmps6
    go_wp2_with (go_at_call 8; refine (CA.out _ (Below.refl _ _)).mono ?_; rintro e w' ⟨rfl, hbel⟩)
    go_ret
    exact ⟨rfl, HBA.out.trans (hbel.mono HBA.out.size)⟩
  by_cases h2 : 500 < len
  · clear hh hb
    have g1 : ¬ (hl : Int) > 500 := by omega
    have g2 : (len : Int) > 500 := by omega
    clear hwa ba
    generalize u8s KB = KU at *
    go_enter Tryd.func6, Tryd.ntmps6
    go_wp2_with (go_at_call 8; refine (CA.out _ (Below.refl _ _)).mono ?_; rintro e w' ⟨rfl, hbel⟩)
    go_ret
    exact ⟨rfl, HBA.out.trans (hbel.mono HBA.out.size)⟩
  have g1 : ¬ (hl : Int) > 500 := by omega
  have g2 : ¬ (len : Int) > 500 := by omega
  have sh := hh.sl
  have sb := hb.sl
  have hlh : (zs.take hl).length = hl := by rw [List.length_take]; have := hh.2.1; have := hh.2.2.1; omega
  have hlx : (ys.take len).length = len := by rw [List.length_take]; have := hb.2.1; have := hb.2.2.1; omega
  generalize zs.take hl = H at *
  generalize ys.take len = X at *
  have HLH : Hid (H.length = hl) := hlh
  have HLX : Hid (X.length = len) := hlx
  have HXB : Hid (Pl.Byt X) := sb.bytes
  have HSH : Hid (∀ W, Below wa.heap.size wa W → Sl W (.slice ha hl hcp) H) := fun W h => (sh.kept ba).kept h
  have HSX : Hid (∀ W, Below wa.heap.size wa W → Sl W (.slice a len cap) X) := fun W h => (sb.kept ba).kept h
  have HCX : Hid (∀ W, Below wa.heap.size wa W → (convert 22 9 (.slice a len cap)).run Tryd.prog W = .ok (.string (strB X)) W) := fun W h => (HSX.out W h).conv
  have HTT : Hid (∀ W, Below wa.heap.size wa W → Tabs W) := fun W h => (hw.kept ba).kept h
  have HGA : Hid (∀ W, Below wa.heap.size wa W → W.heap[w.heap.size]? = some (.cells (u8s KB) 26 (0, 0))) := fun W h => (h.block _ (by rw [hwa]; simp)).trans (by rw [hwa]; exact heap_alloc_new _ _)
  have HI : Hid ((Tryd.prog.info? 26).map (·.size) = some (u8s KB).size) := by unfold Hid; rw [u8s_size, hK]; exact size26
  have HKK : Hid (KB.length = 32) := hK
  have HKB : Hid (Pl.Byt KB) := hKb
  have HTB : Hid (Pl.Byt (X ++ btag KB H X)) := byt_app HXB.out (tagB_byt _ _)
  have HSL : Hid ((X ++ btag KB H X).length = len + 16) := by unfold Hid; have : (btag KB H X).length = 16 := tagB_len _ _; rw [List.length_append, this, HLX.out]
  have c16 := seal_any KB _ _ H X wa hK hKb (hw.kept ba) (sh.kept ba) (sb.kept ba) (by rw [HLH.out]; omega) (by rw [HLX.out]; omega)
  have HOP : Hid (∀ W v S, Below wa.heap.size wa W → Sl W v S → S.length ≤ 1000 → Calls Tryd.prog 14 #[.agg (u8s KB), .slice ha hl hcp, v] W fun e w' => ∃ v', e = .returned (.tuple #[v', .int .i64 (opE KB H S)]) ∧ Sl w' v' (opX KB H S) ∧ Below W.heap.size W w') := fun W v S hW hS hl' =>
    open_any KB _ v H S W HKK.out HKB.out (HTT.out _ hW) (HSH.out _ hW) hS (by rw [HLH.out]; omega) (by omega)
  have HOS := open_seal KB H X
  have HE0 : Hid (opE KB H (X ++ btag KB H X) = 0) := HOS.1
  have HX0 : Hid (opX KB H (X ++ btag KB H X) = X) := HOS.2
  have HOO : Hid (∀ i z, len ≤ i → i < len + 16 → z ≠ (X ++ btag KB H X).getD i 0 → opE KB H ((X ++ btag KB H X).set i z) = 15 ∧ opX KB H ((X ++ btag KB H X).set i z) = []) := fun i z p1 p2 p3 => open_other KB H X i z (by rw [HLX.out]; exact p1) (by rw [HLX.out]; exact p2) p3
  have FR0 : Hid (∀ W, Below wa.heap.size wa W → W.rangeAt w.heap.size 0 (KB.map (Value.int .u8))) := fun W h => range_sum (HGA.out W h)
  have hu26 := Tryd.underlying26
  have hi26 : (Tryd.prog.info? 26).map (·.size) = some (KB.map (Value.int .u8)).length := by rw [List.length_map, hK]; exact size26
  rw [HSL.out] at c16
  generalize X ++ btag KB H X = S at *
  clear hh hb hw sh sb hlh hlx hwa ba hK hKb HOS
  obtain ⟨KU, hKU⟩ : ∃ KU, KU = u8s KB := ⟨_, rfl⟩
  have HKU : Hid (KU = u8s KB) := hKU
  rw [← hKU] at HGA HI c16 HOP hwz ⊢
  clear hKU
  obtain ⟨SX, hSX⟩ : ∃ SX, SX = strB X := ⟨_, rfl⟩
  have HSX2 : Hid (strB X = SX) := hSX.symm
  rw [← hSX] at HCX
  clear hSX
  go_enter Tryd.func6, Tryd.ntmps6
  go_wp2_with (refine wpList_load_row rfl 26 _ rfl w.heap.size rfl 26 KU (0, 0) _ (HGA.out _ (Below.refl _ _)) Tryd.underlying26 rfl HI.out ?_)
  refine c16.mono ?_
  rintro e w1 ⟨v1, rfl, own1, b1⟩
  obtain ⟨g, q1, rfl⟩ : ∃ g q, v1 = .slice (some ⟨g, 0, none⟩) (len + 16) q := by
    rcases own1.2 with ⟨_, e⟩ | ⟨g', cap', cur, e, _⟩
    · omega
    · exact ⟨g', cap', e⟩
  have s1 := sl_owned own1 HTB.out
  have HB1 : Hid (Below wa.heap.size wa w1) := b1
  have O1 : Hid (w1.ownsRow wa.heap.size 5 1 (.slice (some ⟨g, 0, none⟩) (len + 16) q1) (len + 16) (S.map (Value.int .u8))) := own1
  have c14 := HOP.out w1 _ S b1 s1 (by rw [HSL.out]; omega)
  rw [HE0.out, HX0.out] at c14
  clear c16 own1 b1 s1
  go_wp2_with (refine wpList_load_row rfl 26 _ rfl w.heap.size rfl 26 KU (0, 0) _ (HGA.out _ HB1.out) Tryd.underlying26 rfl HI.out ?_)
  refine c14.mono ?_
  rintro e w2 ⟨v2, rfl, s2, b2⟩
  have B2 : Below wa.heap.size wa w2 := HB1.out.trans (b2.mono HB1.out.size)
  have HB2 : Hid (Below wa.heap.size wa w2) := B2
  have O2 : Hid (w2.ownsRow wa.heap.size 5 1 (.slice (some ⟨g, 0, none⟩) (len + 16) q1) (len + 16) (S.map (Value.int .u8))) := own_on O1.out b2
  have cx := HCX.out w2 B2
  obtain ⟨a2, q2, rfl, -⟩ := id s2
  have cy := s2.conv
  rw [HSX2.out] at cy
  rw [HLX.out] at cy ⊢
  clear c14 s2 b2 B2 O1 HB1
  go_wp2_with fail
  clear cx cy
  go_loopw [10] (fun q wr => ∃ j : Nat, j ≤ 4 ∧ q = .int .i64 ((len + 5 * j : Nat) : Int) ∧ wr.ownsRow wa.heap.size 5 1 (.slice (some ⟨g, 0, none⟩) (len + 16) q1) (len + 16) (S.map (Value.int .u8)) ∧ Below wa.heap.size wa wr) (fun q _ => 1000 - (intOf q).toNat)
  case atStart => exact ⟨0, by omega, rfl, O2.out, HB2.out⟩
  case round =>
    clear O2 HB2
    obtain ⟨j, hj, rfl, own, bel⟩ := hrel
    have BE : Hid (Below wa.heap.size wa wr) := bel
    have OE : Hid (wr.ownsRow wa.heap.size 5 1 (.slice (some ⟨g, 0, none⟩) (len + 16) q1) (len + 16) (S.map (Value.int .u8))) := own
    have hgw : wa.heap.size ≤ g := (own.lt g rfl).1
    by_cases hj4 : j < 4
    · obtain ⟨i, hi⟩ : ∃ i, i = len + 5 * j := ⟨_, rfl⟩
      have hi1 : len ≤ i := by omega
      have hi2 : i < len + 16 := by omega
      have hil : i < S.length := by rw [HSL.out]; exact hi2
      obtain ⟨kc, kf⟩ := own_cell own hil
      have hz := HTB.out i
      have hne : (S.getD i 0 + 1) % 256 ≠ S.getD i 0 := by omega
      obtain ⟨e1, e2⟩ := HOO.out i _ hi1 hi2 hne
      have own3 := own_set (i := i) (z := (S.getD i 0 + 1) % 256) own
      have b3 : Below wa.heap.size wa (wr.setCell ⟨g, i, none⟩ (.int .u8 ((S.getD i 0 + 1) % 256))) := bel.setCell hgw _
      have HB3 : Hid (Pl.Byt (S.set i ((S.getD i 0 + 1) % 256))) := by
        intro k
        rw [List.getD, List.getElem?_set]
        by_cases h : i = k
        · rw [if_pos h, if_pos hil, Option.getD_some]; omega
        · rw [if_neg h]; exact HTB.out k
      have c14 := HOP.out _ _ _ b3 (sl_owned own3 HB3.out) (by rw [List.length_set, HSL.out]; omega)
      rw [e1, e2] at c14
      have HBACK : Hid ((S.set i ((S.getD i 0 + 1) % 256)).set i (S.getD i 0) = S) := by
        unfold Hid
        rw [List.set_set]
        apply List.ext_getElem?
        intro k
        rw [List.getElem?_set]
        by_cases h : i = k
        · subst h
          rw [if_pos rfl, if_pos hil, List.getElem?_eq_getElem hil]
          simp [List.getD, List.getElem?_eq_getElem hil]
        · rw [if_neg h]
      have HIL : Hid (i < (S.set i ((S.getD i 0 + 1) % 256)).length) := by unfold Hid; rw [List.length_set]; exact hil
      have HGET : Hid ((S.set i ((S.getD i 0 + 1) % 256)).getD i 0 = (S.getD i 0 + 1) % 256) := by
        unfold Hid
        rw [List.getD, List.getElem?_set, if_pos rfl, if_pos hil, Option.getD_some]
      have G3 : Hid ((wr.setCell ⟨g, i, none⟩ (.int .u8 ((S.getD i 0 + 1) % 256))).heap[w.heap.size]? = some (.cells KU 26 (0, 0))) := HGA.out _ b3
      have O3 : Hid ((wr.setCell ⟨g, i, none⟩ (.int .u8 ((S.getD i 0 + 1) % 256))).ownsRow wa.heap.size 5 1 (.slice (some ⟨g, 0, none⟩) (len + 16) q1) (len + 16) ((S.set i ((S.getD i 0 + 1) % 256)).map (Value.int .u8))) := own3
      have BB3 : Hid (Below wa.heap.size wa (wr.setCell ⟨g, i, none⟩ (.int .u8 ((S.getD i 0 + 1) % 256)))) := b3
      have a2 : ((S.getD i 0 + 1) % 256 - 1) % 256 = S.getD i 0 := by omega
      generalize S.set i ((S.getD i 0 + 1) % 256) = S' at *
      obtain ⟨z1, hz1⟩ : ∃ z1, z1 = (S.getD i 0 + 1) % 256 := ⟨_, rfl⟩
      rw [← hz1] at c14 G3 O3 BB3 HGET a2
      have a1 : (S.getD i 0 + 1) % 256 = z1 := hz1.symm
      generalize S.getD i 0 = z at *
      have lt2 : (i : Int) < ((len + 16 : Nat) : Int) := by omega
      have hj' : ((len + 5 * j : Nat) : Int) = (i : Int) := by omega
      rw [hj']
      obtain ⟨L, hL⟩ : ∃ L, L = len + 16 := ⟨_, rfl⟩
      have HL : Hid (L = len + 16) := hL
      rw [← hL] at c14 O3 lt2 hi2 ⊢
      have HII : Hid (i = len + 5 * j) := hi
      clear hL own own3 b3 bel e1 e2 hz hne hz1 hj' hi
      go_wp2_with (refine wpList_load_row rfl 26 _ rfl w.heap.size rfl 26 KU (0, 0) _ G3.out Tryd.underlying26 rfl HI.out ?_)
      refine c14.mono ?_
      rintro e w4 ⟨v4, rfl, s4, b4⟩
      have B4 : Below wa.heap.size wa w4 := BB3.out.trans (b4.mono BB3.out.size)
      have own4 := own_on O3.out b4
      obtain ⟨kc4, kf4⟩ := own_cell own4 HIL.out
      rw [HGET.out] at kc4
      have own5 := own_set (i := i) (z := z) own4
      rw [HBACK.out] at own5
      have O5 : Hid ((w4.setCell ⟨g, i, none⟩ (.int .u8 z)).ownsRow wa.heap.size 5 1 (.slice (some ⟨g, 0, none⟩) L q1) L (S.map (Value.int .u8))) := own5
      have B5 : Hid (Below wa.heap.size wa (w4.setCell ⟨g, i, none⟩ (.int .u8 z))) := B4.setCell hgw _
      obtain ⟨a4, q4, rfl, -⟩ := s4
      have hib : i ≤ 600 := by have := HII.out; omega
      have hinc : IntKind.i64.wrap ((i : Int) + 5) = ((i + 5 : Nat) : Int) := by simp [IntKind.wrap, IntKind.bits, IntKind.signed]; omega
      have HJ : Hid (i + 5 = len + 5 * (j + 1)) := by unfold Hid; have := HII.out; omega
      clear c14 b4 B4 own4 own5 kc kf O3 BB3 G3 OE
      simp only [List.length_nil]
      go_wp2
      go_roundw
      case rel => exact ⟨j + 1, by omega, by rw [← HJ.out]; go_num, O5.out, B5.out⟩
      case measure => have := HII.out; simp [intOf]; omega
    · obtain rfl : j = 4 := by omega
      have FR : Hid (∀ x, From wr x → x.rangeAt w.heap.size 0 (KB.map (Value.int .u8))) := fun x hx => FR0.out x (bel.trans (Below.mono hx bel.size))
      have s15 := (sl_owned own HTB.out).take 15 (by omega)
      have FS : Hid (∀ x, From wr x → Sl x (.slice (some ⟨g, 0, none⟩) 15 q1) (S.take 15)) := fun x hx => s15.kept hx
      have FB : Hid (∀ x, From wr x → Below wa.heap.size wa x) := fun x hx => bel.trans (Below.mono hx bel.size)
      have HE3 : Hid (opE KB H (S.take 15) = 3) := open_short KB H _ (by rw [List.length_take]; omega)
      have HL15 : Hid ((S.take 15).length ≤ 1000) := by unfold Hid; rw [List.length_take]; omega
      have hq1 : 16 ≤ q1 := by
        rcases own.2 with ⟨e, _⟩ | ⟨g', cap', cur, e, _, _, hc, _⟩
        · cases e
        · cases e; omega
      have hq2 : q1 ≤ 9223372036854775807 := by
        rcases own.2 with ⟨e, _⟩ | ⟨g', cap', cur, e, _, _, hc, hm, _⟩
        · cases e
        · cases e; unfold maxLen at hm; omega
      have hc4 : ¬ ((len + 5 * 4 : Nat) : Int) < ((len + 16 : Nat) : Int) := by omega
      have g15 : (15 : Int) ≤ (q1 : Int) := by omega
      have g15' : 15 ≤ q1 := by omega
      rw [HKU.out] at HOP
      clear own bel s15 OE HGA FR0
      go_wp2_with fail
      refine wp_region_held_drew (S := From wr) (by kernel_rfl) ((Below.refl _ _).drew) (fun _ => ?_)
      refine wpAnyH_on ((Below.refl _ _).drew) (fun u0 hu0 bu0 => ?_)
      replace FR := on FR bu0
      replace FS := on FS bu0
      replace FB := on FB bu0
      refine wpAnyH_take (i := 0) (oi := { dst := some 87, op := Op.load 26 (Operand.tmp 3), type := 26, pos := "own.go:27", after := #[], guard := none }) (v := .agg (KB.map (Value.int .u8)).toArray) rfl (by kernel_rfl) (by kernel_rfl) (by kernel_rfl) (fun _ _ _ h => h) (yieldsIf_load_mid (by rfl) _ _ rfl w.heap.size 0 rfl _ _ (fun x h => FR.out x h) hu26 rfl hi26) (Below.refl _ _) ?_
      try simp only [Act.put, List.setIfInBounds_toArray, List.set_cons_zero, List.set_cons_succ]
      refine wpAnyH_take (i := 1) (oi := { dst := some 88, op := Op.move (Operand.tmp 1), type := 22, pos := "own.go:27", after := #[], guard := none }) (v := ?va2) rfl (by kernel_rfl) (by kernel_rfl) (by kernel_rfl) (fun _ _ _ h => h) (Or.inl ⟨by rfl, ?ya2⟩) (Below.refl _ _) ?ra2
      case ya2 => (intro w hSw; go_simp; try with_reducible rfl)
      try simp only [Act.put, List.setIfInBounds_toArray, List.set_cons_zero, List.set_cons_succ]
      refine wpAnyH_take (i := 2) (oi := { dst := some 89, op := Op.move (Operand.tmp 7), type := 22, pos := "own.go:27", after := #[], guard := none }) (v := ?va3) rfl (by kernel_rfl) (by kernel_rfl) (by kernel_rfl) (fun _ _ _ h => h) (Or.inl ⟨by rfl, ?ya3⟩) (Below.refl _ _) ?ra3
      case ya3 => (intro w hSw; go_simp; try with_reducible rfl)
      try simp only [Act.put, List.setIfInBounds_toArray, List.set_cons_zero, List.set_cons_succ]
      refine wpAnyH_take (i := 3) (oi := { dst := some 90, op := Op.slice 22 (Operand.tmp 89) none (some (Operand.const (Value.int IntKind.i64 15))) none, type := 22, pos := "own.go:27", after := #[{ on := 2, ground := Ground.data }], guard := none }) (v := ?va4) rfl (by kernel_rfl) (by kernel_rfl) (by kernel_rfl) (fun _ _ _ h => h) (Or.inl ⟨by rfl, ?ya4⟩) (Below.refl _ _) ?ra4
      case ya4 => (intro w hSw; go_simp; try with_reducible rfl)
      try simp only [Act.put, List.setIfInBounds_toArray, List.set_cons_zero, List.set_cons_succ]
      refine wpAnyH_ready (rs := [4]) (by kernel_rfl) (by simp) ?_
      refine AllReadyH.cons (o := { dst := some 91, op := Op.call { callee := Callee.value (Operand.func 14), args := #[Operand.tmp 87, Operand.tmp 88, Operand.tmp 90], argTypes := #[26, 22, 22] }, type := 36, pos := "own.go:27", after := #[{ on := 0, ground := Ground.data }, { on := 1, ground := Ground.data }, { on := 3, ground := Ground.data }], guard := none }) rfl (fun KK hKK => ?_) ?_
      · go_simp
        refine (HOP.out _ _ (S.take 15) (FB.out _ (Below.refl _ _)) (FS.out _ (Below.refl _ _)) HL15.out).mono ?_
        rw [HE3.out]
        rintro e u5' ⟨v4, rfl, s4, bu5'⟩
        obtain ⟨a4, q4, rfl, -⟩ := id s4
        (try go_wp2_with fail)
        refine hKK.out _ _ (bu5') (fun _ => ?_)
        clear hKK KK
        try simp only [Act.put, List.setIfInBounds_toArray, List.set_cons_zero, List.set_cons_succ]
        refine wpAnyH_on (bu5') (fun u5 hu5 bu5 => ?_)
        replace FR := on FR bu5
        replace FS := on FS bu5
        replace FB := on FB bu5
        have BZ : Hid (Below wa.heap.size wa u5) := FB.out _ (Below.refl _ _)
        clear s4
        refine wpAnyH_take (i := 5) (oi := { dst := some 86, op := Op.move (Operand.tmp 91), type := 36, pos := "own.go:27", after := #[{ on := 4, ground := Ground.data }], guard := none }) (v := ?va6) rfl (by kernel_rfl) (by kernel_rfl) (by kernel_rfl) (fun _ _ _ h => h) (Or.inl ⟨by rfl, ?ya6⟩) (Below.refl _ _) ?ra6
        case ya6 => (intro w hSw; go_simp; try with_reducible rfl)
        try simp only [Act.put, List.setIfInBounds_toArray, List.set_cons_zero, List.set_cons_succ]
        refine wpAnyH_take (i := 6) (oi := { dst := some 92, op := Op.extract (Operand.tmp 86) 0, type := 22, pos := "own.go:27", after := #[{ on := 5, ground := Ground.data }], guard := none }) (v := ?va7) rfl (by kernel_rfl) (by kernel_rfl) (by kernel_rfl) (fun _ _ _ h => h) (Or.inl ⟨by rfl, ?ya7⟩) (Below.refl _ _) ?ra7
        case ya7 => (intro w hSw; go_simp; try with_reducible rfl)
        try simp only [Act.put, List.setIfInBounds_toArray, List.set_cons_zero, List.set_cons_succ]
        refine wpAnyH_take (i := 7) (oi := { dst := some 93, op := Op.extract (Operand.tmp 86) 1, type := 35, pos := "own.go:27", after := #[{ on := 5, ground := Ground.data }, { on := 8, ground := Ground.gcOnly Departure.lateStores }], guard := none }) (v := ?va8) rfl (by kernel_rfl) (by kernel_rfl) (by kernel_rfl) (fun _ _ _ h => h) (Or.inl ⟨by rfl, ?ya8⟩) (Below.refl _ _) ?ra8
        case ya8 => (intro w hSw; go_simp; try with_reducible rfl)
        try simp only [Act.put, List.setIfInBounds_toArray, List.set_cons_zero, List.set_cons_succ]
        refine wpAnyH_take (i := 8) (oi := { dst := some 13, op := Op.assign (Operand.tmp 92), type := 22, pos := "own.go:27", after := #[{ on := 6, ground := Ground.data }, { on := 4, ground := Ground.chain }, { on := 0, ground := Ground.phase }, { on := 1, ground := Ground.phase }, { on := 2, ground := Ground.phase }, { on := 3, ground := Ground.phase }, { on := 4, ground := Ground.phase }, { on := 5, ground := Ground.phase }, { on := 6, ground := Ground.phase }, { on := 7, ground := Ground.textOnly Departure.lateStores }], guard := none }) (v := ?va9) rfl (by kernel_rfl) (by kernel_rfl) (by kernel_rfl) (fun _ _ _ h => h) (Or.inl ⟨by rfl, ?ya9⟩) (Below.refl _ _) ?ra9
        case ya9 => (intro w hSw; go_simp; try with_reducible rfl)
        try simp only [Act.put, List.setIfInBounds_toArray, List.set_cons_zero, List.set_cons_succ]
        refine wpAnyH_take (i := 9) (oi := { dst := some 14, op := Op.assign (Operand.tmp 93), type := 35, pos := "own.go:27", after := #[{ on := 7, ground := Ground.data }, { on := 8, ground := Ground.chain }, { on := 0, ground := Ground.phase }, { on := 1, ground := Ground.phase }, { on := 2, ground := Ground.phase }, { on := 3, ground := Ground.phase }, { on := 4, ground := Ground.phase }, { on := 5, ground := Ground.phase }, { on := 6, ground := Ground.phase }, { on := 7, ground := Ground.phase }, { on := 8, ground := Ground.phase }], guard := none }) (v := ?va10) rfl (by kernel_rfl) (by kernel_rfl) (by kernel_rfl) (fun _ _ _ h => h) (Or.inl ⟨by rfl, ?ya10⟩) (Below.refl _ _) ?ra10
        case ya10 => (intro w hSw; go_simp; try with_reducible rfl)
        try simp only [Act.put, List.setIfInBounds_toArray, List.set_cons_zero, List.set_cons_succ]
        refine wpAnyH_done (by kernel_rfl) ?_ _
        go_wp2_with (go_at_call 8; refine (CA.out _ BZ.out).mono ?_; rintro e w' ⟨rfl, hbel⟩)
        go_ret
        exact ⟨rfl, HBA.out.trans ((BZ.out.trans (hbel.mono BZ.out.size)).mono HBA.out.size)⟩
      exact AllReadyH.nil

theorem contract (H : Type) (enc : TypeId × Value → H) (W : World) (base : Nat) (args : Array Value) (ds gs : List (DataW H)) (before : List MemPlace)
    (hval : ∀ (j : Nat) t v, Tryd.f6.params[j]? = some t → args[j]? = some v → Value.okWide Tryd.prog W .any base t v)
    (hW : DataW.Whole enc Tryd.prog Tryd.f6.params.toList Rows.macBackSpec.vars false W args.toList ds gs before) (hL : laidMetH Tryd.prog Rows.macBackRow.laid W)
    (hsz0 : (DataW.weightsEach Tryd.prog (Tryd.f6.params.toList ++ Rows.macBackSpec.plain.varTypes Tryd.prog) (ds ++ gs)).all (· ≤ reachBytes) = true) :
    Calls Tryd.prog 6 args W fun e W' => ∃ v, e = .returned v ∧ Rows.macBackSpec.post enc Tryd.prog Tryd.f6 false true false false W args v W' := by
  have hW' := hW
  obtain ⟨p, q, hA0, hV, rfl, hfz, hnd⟩ := hW
  have hA : DataW.TrodAll enc Tryd.prog W 0 (fun _ => true) true Tryd.f6.params.toList args.toList ds p := hA0
  rw [Tryd.params6] at hA hval hsz0
  obtain ⟨v0, vs0, d0, ds0, p0, q0, hargs, rfl, rfl, h0, r0⟩ := trodAll_cons hA
  obtain ⟨v1, vs1, d1, ds1, p1, q1, rfl, rfl, rfl, h1, r1⟩ := trodAll_cons r0
  obtain ⟨v2, vs2, d2, ds2, p2, q2, rfl, rfl, rfl, h2, r2⟩ := trodAll_cons r1
  obtain ⟨rfl, rfl, rfl⟩ := trodAll_nil r2
  obtain rfl : args = #[v0, v1, v2] := by cases args; simp_all
  obtain ⟨rfl, rfl⟩ := trodVars_none hV
  have hsz : (DataW.weightsEach Tryd.prog [26, 22, 22] [d0, d1, d2]).all (· ≤ reachBytes) = true := hsz0
  have k0 := h0
  have lt0 : ∀ x ∈ p0, x.block < W.heap.size := by obtain ⟨m, hm⟩ := k0; exact DataW.trod_lt m _ _ _ hm
  obtain ⟨A0, rfl, wl0, wb0⟩ := hash_open (hval 0 26 v0 rfl rfl) h0
  have k1 := h1
  have lt1 : ∀ x ∈ p1, x.block < W.heap.size := by obtain ⟨m, hm⟩ := k1; exact DataW.trod_lt m _ _ _ hm
  obtain ⟨a1, len1, cap1, z1, rfl, w1⟩ := bytes_open 1 (hval 1 22 v1 rfl rfl) h1 hsz rfl rfl
  have k2 := h2
  have lt2 : ∀ x ∈ p2, x.block < W.heap.size := by obtain ⟨m, hm⟩ := k2; exact DataW.trod_lt m _ _ _ hm
  obtain ⟨a2, len2, cap2, z2, rfl, w2⟩ := bytes_open 2 (hval 2 22 v2 rfl rfl) h2 hsz rfl rfl
  clear hA0
  refine (walk A0 a1 len1 cap1 z1 a2 len2 cap2 z2 W (tab_of hL) wl0 wb0 w1 w2).mono fun e W' ⟨he, bel⟩ => ?_
  subst he
  exact ⟨_, rfl, _, _, _, [], _, [], hW', trodAll_mk1 (shut_bool Tryd.underlying4 _), (trodAll_cons_mk (Below.trod laidOut (by kernel_rfl) (of_decide_eq_true (by kernel_rfl)) k0 bel lt0) (trodAll_cons_mk (Below.trod laidOut (by kernel_rfl) (of_decide_eq_true (by kernel_rfl)) k1 bel lt1) (trodAll_cons_mk (Below.trod laidOut (by kernel_rfl) (of_decide_eq_true (by kernel_rfl)) k2 bel lt2) trodAll_mk0))), rfl, bel.frame _, fun h => by cases h⟩

theorem laid_met (os : Os) : laidMet Tryd.prog Rows.macBackRow.laid (({ World.holding Tryd.prog os ⟨#[], #[], []⟩ with heap := ((((World.holding Tryd.prog os ⟨#[], #[], []⟩).heap.modify 0 (fun
      | .cells _ t frozen => .cells #[.int .u32 1779033703, .int .u32 3144134277, .int .u32 1013904242, .int .u32 2773480762, .int .u32 1359893119, .int .u32 2600822924, .int .u32 528734635, .int .u32 1541459225] t frozen
      | o => o)).modify 1 (fun
      | .cells _ t frozen => .cells #[.int .u32 1116352408, .int .u32 1899447441, .int .u32 3049323471, .int .u32 3921009573, .int .u32 961987163, .int .u32 1508970993, .int .u32 2453635748, .int .u32 2870763221, .int .u32 3624381080, .int .u32 310598401, .int .u32 607225278, .int .u32 1426881987, .int .u32 1925078388, .int .u32 2162078206, .int .u32 2614888103, .int .u32 3248222580, .int .u32 3835390401, .int .u32 4022224774, .int .u32 264347078, .int .u32 604807628, .int .u32 770255983, .int .u32 1249150122, .int .u32 1555081692, .int .u32 1996064986, .int .u32 2554220882, .int .u32 2821834349, .int .u32 2952996808, .int .u32 3210313671, .int .u32 3336571891, .int .u32 3584528711, .int .u32 113926993, .int .u32 338241895, .int .u32 666307205, .int .u32 773529912, .int .u32 1294757372, .int .u32 1396182291, .int .u32 1695183700, .int .u32 1986661051, .int .u32 2177026350, .int .u32 2456956037, .int .u32 2730485921, .int .u32 2820302411, .int .u32 3259730800, .int .u32 3345764771, .int .u32 3516065817, .int .u32 3600352804, .int .u32 4094571909, .int .u32 275423344, .int .u32 430227734, .int .u32 506948616, .int .u32 659060556, .int .u32 883997877, .int .u32 958139571, .int .u32 1322822218, .int .u32 1537002063, .int .u32 1747873779, .int .u32 1955562222, .int .u32 2024104815, .int .u32 2227730452, .int .u32 2361852424, .int .u32 2428436474, .int .u32 2756734187, .int .u32 3204031479, .int .u32 3329325298] t frozen
      | o => o)).modify 2 (fun
      | .cells _ t frozen => .cells #[.int .i64 1, .int .i64 2, .int .i64 4, .int .i64 8] t frozen
      | o => o)) } : World).forCall (fun _ _ => 0) ⟨#[], #[.agg #[.int .u8 0, .int .u8 0, .int .u8 0, .int .u8 0, .int .u8 0, .int .u8 0, .int .u8 0, .int .u8 0, .int .u8 0, .int .u8 0, .int .u8 0, .int .u8 0, .int .u8 0, .int .u8 0, .int .u8 0, .int .u8 0, .int .u8 0, .int .u8 0, .int .u8 0, .int .u8 0, .int .u8 0, .int .u8 0, .int .u8 0, .int .u8 0, .int .u8 0, .int .u8 0, .int .u8 0, .int .u8 0, .int .u8 0, .int .u8 0, .int .u8 0, .int .u8 0], .slice none 0 0, .slice none 0 0], []⟩).memory :=
  laidMet_of_run' 8 (by kernel_rfl) (by kernel_rfl)
theorem reads (os : Os) {H : Type} (enc : TypeId × Value → H) : ∃ places, DataW.whole enc Tryd.prog (({ World.holding Tryd.prog os ⟨#[], #[], []⟩ with heap := ((((World.holding Tryd.prog os ⟨#[], #[], []⟩).heap.modify 0 (fun
      | .cells _ t frozen => .cells #[.int .u32 1779033703, .int .u32 3144134277, .int .u32 1013904242, .int .u32 2773480762, .int .u32 1359893119, .int .u32 2600822924, .int .u32 528734635, .int .u32 1541459225] t frozen
      | o => o)).modify 1 (fun
      | .cells _ t frozen => .cells #[.int .u32 1116352408, .int .u32 1899447441, .int .u32 3049323471, .int .u32 3921009573, .int .u32 961987163, .int .u32 1508970993, .int .u32 2453635748, .int .u32 2870763221, .int .u32 3624381080, .int .u32 310598401, .int .u32 607225278, .int .u32 1426881987, .int .u32 1925078388, .int .u32 2162078206, .int .u32 2614888103, .int .u32 3248222580, .int .u32 3835390401, .int .u32 4022224774, .int .u32 264347078, .int .u32 604807628, .int .u32 770255983, .int .u32 1249150122, .int .u32 1555081692, .int .u32 1996064986, .int .u32 2554220882, .int .u32 2821834349, .int .u32 2952996808, .int .u32 3210313671, .int .u32 3336571891, .int .u32 3584528711, .int .u32 113926993, .int .u32 338241895, .int .u32 666307205, .int .u32 773529912, .int .u32 1294757372, .int .u32 1396182291, .int .u32 1695183700, .int .u32 1986661051, .int .u32 2177026350, .int .u32 2456956037, .int .u32 2730485921, .int .u32 2820302411, .int .u32 3259730800, .int .u32 3345764771, .int .u32 3516065817, .int .u32 3600352804, .int .u32 4094571909, .int .u32 275423344, .int .u32 430227734, .int .u32 506948616, .int .u32 659060556, .int .u32 883997877, .int .u32 958139571, .int .u32 1322822218, .int .u32 1537002063, .int .u32 1747873779, .int .u32 1955562222, .int .u32 2024104815, .int .u32 2227730452, .int .u32 2361852424, .int .u32 2428436474, .int .u32 2756734187, .int .u32 3204031479, .int .u32 3329325298] t frozen
      | o => o)).modify 2 (fun
      | .cells _ t frozen => .cells #[.int .i64 1, .int .i64 2, .int .i64 4, .int .i64 8] t frozen
      | o => o)) } : World).forCall (fun _ _ => 0) ⟨#[], #[.agg #[.int .u8 0, .int .u8 0, .int .u8 0, .int .u8 0, .int .u8 0, .int .u8 0, .int .u8 0, .int .u8 0, .int .u8 0, .int .u8 0, .int .u8 0, .int .u8 0, .int .u8 0, .int .u8 0, .int .u8 0, .int .u8 0, .int .u8 0, .int .u8 0, .int .u8 0, .int .u8 0, .int .u8 0, .int .u8 0, .int .u8 0, .int .u8 0, .int .u8 0, .int .u8 0, .int .u8 0, .int .u8 0, .int .u8 0, .int .u8 0, .int .u8 0, .int .u8 0], .slice none 0 0, .slice none 0 0], []⟩).memory Tryd.f6.params.toList Rows.macBackSpec.vars false #[Value.agg #[.int .u8 0, .int .u8 0, .int .u8 0, .int .u8 0, .int .u8 0, .int .u8 0, .int .u8 0, .int .u8 0, .int .u8 0, .int .u8 0, .int .u8 0, .int .u8 0, .int .u8 0, .int .u8 0, .int .u8 0, .int .u8 0, .int .u8 0, .int .u8 0, .int .u8 0, .int .u8 0, .int .u8 0, .int .u8 0, .int .u8 0, .int .u8 0, .int .u8 0, .int .u8 0, .int .u8 0, .int .u8 0, .int .u8 0, .int .u8 0, .int .u8 0, .int .u8 0], .slice none 0 0, .slice none 0 0].toList 8 = some ([.agg [.lit (.int .u8 0), .lit (.int .u8 0), .lit (.int .u8 0), .lit (.int .u8 0), .lit (.int .u8 0), .lit (.int .u8 0), .lit (.int .u8 0), .lit (.int .u8 0), .lit (.int .u8 0), .lit (.int .u8 0), .lit (.int .u8 0), .lit (.int .u8 0), .lit (.int .u8 0), .lit (.int .u8 0), .lit (.int .u8 0), .lit (.int .u8 0), .lit (.int .u8 0), .lit (.int .u8 0), .lit (.int .u8 0), .lit (.int .u8 0), .lit (.int .u8 0), .lit (.int .u8 0), .lit (.int .u8 0), .lit (.int .u8 0), .lit (.int .u8 0), .lit (.int .u8 0), .lit (.int .u8 0), .lit (.int .u8 0), .lit (.int .u8 0), .lit (.int .u8 0), .lit (.int .u8 0), .lit (.int .u8 0)], .nil, .nil], [], places) :=
  ⟨[], by kernel_rfl⟩

set_option maxRecDepth 100000 in
theorem lifted (os : Os) (started : os.Started) (H : Type) (enc : TypeId × Value → H) (F : Stop.Interp) :
    ReturnsInHanded {} Tryd.checked os 6 .any ((OpenSpec.ofChange Rows.macBackSpec).preRow enc Tryd.prog Tryd.f6 Rows.macBackRow.domain false Rows.macBackRow.laid) (((OpenSpec.ofChange Rows.macBackSpec).at F).post enc Tryd.prog Tryd.f6 false true false false) := by
  obtain ⟨places, hx⟩ := reads os enc
  refine returnsInHanded_of_row (C := Tryd.checked) (s := OpenSpec.ofChange Rows.macBackSpec) own started (by kernel_rfl) Tryd.func6
    (witness_row_at (enc := enc) (C := Tryd.checked) false ({ World.holding Tryd.prog os ⟨#[], #[], []⟩ with heap := ((((World.holding Tryd.prog os ⟨#[], #[], []⟩).heap.modify 0 (fun
      | .cells _ t frozen => .cells #[.int .u32 1779033703, .int .u32 3144134277, .int .u32 1013904242, .int .u32 2773480762, .int .u32 1359893119, .int .u32 2600822924, .int .u32 528734635, .int .u32 1541459225] t frozen
      | o => o)).modify 1 (fun
      | .cells _ t frozen => .cells #[.int .u32 1116352408, .int .u32 1899447441, .int .u32 3049323471, .int .u32 3921009573, .int .u32 961987163, .int .u32 1508970993, .int .u32 2453635748, .int .u32 2870763221, .int .u32 3624381080, .int .u32 310598401, .int .u32 607225278, .int .u32 1426881987, .int .u32 1925078388, .int .u32 2162078206, .int .u32 2614888103, .int .u32 3248222580, .int .u32 3835390401, .int .u32 4022224774, .int .u32 264347078, .int .u32 604807628, .int .u32 770255983, .int .u32 1249150122, .int .u32 1555081692, .int .u32 1996064986, .int .u32 2554220882, .int .u32 2821834349, .int .u32 2952996808, .int .u32 3210313671, .int .u32 3336571891, .int .u32 3584528711, .int .u32 113926993, .int .u32 338241895, .int .u32 666307205, .int .u32 773529912, .int .u32 1294757372, .int .u32 1396182291, .int .u32 1695183700, .int .u32 1986661051, .int .u32 2177026350, .int .u32 2456956037, .int .u32 2730485921, .int .u32 2820302411, .int .u32 3259730800, .int .u32 3345764771, .int .u32 3516065817, .int .u32 3600352804, .int .u32 4094571909, .int .u32 275423344, .int .u32 430227734, .int .u32 506948616, .int .u32 659060556, .int .u32 883997877, .int .u32 958139571, .int .u32 1322822218, .int .u32 1537002063, .int .u32 1747873779, .int .u32 1955562222, .int .u32 2024104815, .int .u32 2227730452, .int .u32 2361852424, .int .u32 2428436474, .int .u32 2756734187, .int .u32 3204031479, .int .u32 3329325298] t frozen
      | o => o)).modify 2 (fun
      | .cells _ t frozen => .cells #[.int .i64 1, .int .i64 2, .int .i64 4, .int .i64 8] t frozen
      | o => o)) } : World) #[.agg #[.int .u8 0, .int .u8 0, .int .u8 0, .int .u8 0, .int .u8 0, .int .u8 0, .int .u8 0, .int .u8 0, .int .u8 0, .int .u8 0, .int .u8 0, .int .u8 0, .int .u8 0, .int .u8 0, .int .u8 0, .int .u8 0, .int .u8 0, .int .u8 0, .int .u8 0, .int .u8 0, .int .u8 0, .int .u8 0, .int .u8 0, .int .u8 0, .int .u8 0, .int .u8 0, .int .u8 0, .int .u8 0, .int .u8 0, .int .u8 0, .int .u8 0, .int .u8 0], .slice none 0 0, .slice none 0 0] rfl (by kernel_rfl) (by kernel_rfl) (by kernel_rfl)
      (OpenSpec.preRow_of_cond 8 hx (by kernel_rfl) (fun k hk => by cases hk) (by kernel_rfl) (laid_met os))) ?_
  intro W base args ds gs before hval hW _ _ hsz hL _ _
  exact contract H enc W base args ds gs before hval hW hL hsz

theorem said : Rows.MacBackSaid :=
  OpenClaim.holds_of_cond 6 Tryd.f6 rfl rfl rfl rfl rfl rfl rfl ⟨rfl, rfl, rfl, rfl, rfl⟩ rfl rfl rfl rfl rfl (by kernel_rfl) Tryd.func6 (by kernel_rfl)
    (of_decide_eq_true (by kernel_rfl)) (by unfold Func.isWrapper; first | (rw [if_pos (by decide +kernel)]; kernel_rfl) | (rw [if_neg (by decide +kernel)]; exact ⟨rfl, rfl⟩))
    (fun os started H enc _ F => by rw [OpenClaim.pre_eq_preRow]; exact lifted os started H enc F)

theorem plain (f : FuncId) (fn : Func) (hf : Tryd.pinned.checked.prog.funcNamed "sumpter/sumpterlaw05.MacBack" = some f) (hfn : Tryd.pinned.checked.prog.funcs[f]? = some fn) :
    false = Tryd.pinned.checked.prog.looks [] ∧ ∀ (j : Nat) t, fn.params[j]? = some t → Tryd.pinned.checked.prog.wantsStandIn t = false := by
  obtain rfl : f = 6 := Option.some.inj ((show Tryd.prog.funcNamed "sumpter/sumpterlaw05.MacBack" = some 6 by kernel_rfl).symm.trans hf) |>.symm
  obtain rfl : fn = Tryd.f6 := (Option.some.inj (Tryd.func6.symm.trans hfn)).symm
  refine ⟨by kernel_rfl, fun j t ht => ?_⟩
  rw [Tryd.params6] at ht
  have hm : t ∈ [26, 22, 22] := by simpa using Array.mem_of_getElem? ht
  have hall : ([26, 22, 22].all fun u => !Tryd.prog.wantsStandIn u) = true := by kernel_rfl
  exact (show Tryd.prog.wantsStandIn t = false by simpa using List.all_eq_true.1 hall t hm)
end Go.Proofs.YtkblcabibnnmcaaDoor.macBack

namespace Go.Proofs.YtkblcabibnnmcaaDoor
/-- The card of MacBack. -/
theorem macBack_card : Rows.MacBackCardSaid :=
  Claim7.holds_tied_plain_at .later [] _ _ _ _ macBack.said (fun _ h => by cases h) (by kernel_rfl) (fun _ h => by cases h) macBack_row_tie rfl ⟨rfl, rfl⟩ (by kernel_rfl) rfl macBack.plain (by kernel_rfl)
#print axioms macBack_card
end Go.Proofs.YtkblcabibnnmcaaDoor
