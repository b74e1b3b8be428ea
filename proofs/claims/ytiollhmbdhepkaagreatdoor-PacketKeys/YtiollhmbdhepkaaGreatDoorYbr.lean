/-
  What the document's Same of packets answers.
  Put, Get and All, where what they call is known; a Ping.
  What is sealed is opened.
-/
import Derived.Test.YtiollhmbdhepkaaGreatDoorYay
import Derived.Lib.BufferWrite
import Derived.Defers
import Derived.Recover
import Derived.Deep.RegionWith
import Derived.Stop.IfaceNil
import Derived.WideLaws
import Derived.Test.YtiollhmbdhepkaaGreatDoorYba
import Derived.Test.YtiollhmbdhepkaaGreatDoorYbe
import Derived.Test.YtiollhmbdhepkaaGreatDoorYbc
import Derived.Test.YtiollhmbdhepkaaGreatDoorYbo
import Derived.Test.YtiollhmbdhepkaaGreatDoorYbg
import Derived.Test.YtiollhmbdhepkaaGreatDoorYbp
import Derived.Test.YtiollhmbdhepkaaGreatDoorYbq
namespace Go.Proofs.YtiollhmbdhepkaaGreatDoor
open Go.RowKit
set_option maxRecDepth 100000

def smP (k c n : Int) (X : List Int) (k' c' n' : Int) (X' : List Int) : Bool := (k == k') && (c == c') && (n == n') && decide (X = X')
theorem smP_refl (k c n : Int) (X : List Int) : smP k c n X k c n X = true := by simp [smP]
set_option maxHeartbeats 8000000 in
theorem psame_any (k c n : Int) (a : Option Addr) (m cp : Nat) (X : List Int) (k' c' n' : Int) (a' : Option Addr) (m' cp' : Nat) (X' : List Int) (w : World) (sx : Sl w (.slice a m cp) X) (sy : Sl w (.slice a' m' cp') X') :
    Calls Tryz.prog 29 #[.agg #[.int .u8 k, .int .i64 c, .int .i64 n, .slice a m cp], .agg #[.int .u8 k', .int .i64 c', .int .i64 n', .slice a' m' cp']] w fun e w' => e = .returned (.bool (smP k c n X k' c' n' X')) ∧ Below w.heap.size w w' := by
  obtain ⟨W1, hW1⟩ : ∃ W1, W1 = w.alloc (.cells #[.int .u8 k, .int .i64 c, .int .i64 n, .slice a m cp] 49) := ⟨_, rfl⟩
  obtain ⟨W2, hW2⟩ : ∃ W2, W2 = W1.alloc (.cells #[.int .u8 k', .int .i64 c', .int .i64 n', .slice a' m' cp'] 49) := ⟨_, rfl⟩
  have b1 : Below w.heap.size w W1 := by rw [hW1]; exact al_below _ _
  have z1 : W1.heap.size = w.heap.size + 1 := by rw [hW1]; simp
  have b12 : Below W1.heap.size W1 W2 := by rw [hW2]; exact al_below _ _
  have HB : Hid (Below w.heap.size w W2) := b1.trans (b12.mono b1.size)
  have g1 : W1.heap[w.heap.size]? = some (.cells #[.int .u8 k, .int .i64 c, .int .i64 n, .slice a m cp] 49 (0, 0)) := by rw [hW1]; exact heap_alloc_new _ _
  have g1' : W2.heap[w.heap.size]? = some (.cells #[.int .u8 k, .int .i64 c, .int .i64 n, .slice a m cp] 49 (0, 0)) := blk_kept g1 b12 (blk_lt g1)
  have g2 : W2.heap[w.heap.size + 1]? = some (.cells #[.int .u8 k', .int .i64 c', .int .i64 n', .slice a' m' cp'] 49 (0, 0)) := by rw [← z1, hW2]; exact heap_alloc_new _ _
  have c0 : W2.cell? ⟨w.heap.size, 0, none⟩ = some (.int .u8 k) := by simp [World.cell?, g1']
  have c1 : W2.cell? ⟨w.heap.size, 1, none⟩ = some (.int .i64 c) := by simp [World.cell?, g1']
  have c2 : W2.cell? ⟨w.heap.size, 2, none⟩ = some (.int .i64 n) := by simp [World.cell?, g1']
  have c3 : W2.cell? ⟨w.heap.size, 3, none⟩ = some (.slice a m cp) := by simp [World.cell?, g1']
  have d0 : W2.cell? ⟨w.heap.size + 1, 0, none⟩ = some (.int .u8 k') := by simp [World.cell?, g2]
  have d1 : W2.cell? ⟨w.heap.size + 1, 1, none⟩ = some (.int .i64 c') := by simp [World.cell?, g2]
  have d2 : W2.cell? ⟨w.heap.size + 1, 2, none⟩ = some (.int .i64 n') := by simp [World.cell?, g2]
  have d3 : W2.cell? ⟨w.heap.size + 1, 3, none⟩ = some (.slice a' m' cp') := by simp [World.cell?, g2]
  have e1 := (sx.kept HB.out).conv
  have e2 := (sy.kept HB.out).conv
  have hD : ((strB X).toList == (strB X').toList) = decide (X = X') := strB_beq sx.bytes sy.bytes
  have hW2' : W2 = (w.alloc (.cells #[.int .u8 k, .int .i64 c, .int .i64 n, .slice a m cp] 49)).alloc (.cells #[.int .u8 k', .int .i64 c', .int .i64 n', .slice a' m' cp'] 49) := by rw [hW2, hW1]
  unfold smP
  clear hW2 b1 b12 g1 g1' g2 z1 sx sy hW1
  have hW2 := hW2'
  clear hW2'
  generalize decide (X = X') = D at *
  generalize strB X = SX at *
  generalize strB X' = SY at *
  by_cases h0 : k = k'
  · have t0 : (k == k') = true := by simpa using h0
    by_cases h1 : c = c'
    · have t1 : (c == c') = true := by simpa using h1
      by_cases h2 : n = n'
      · have t2 : (n == n') = true := by simpa using h2
        rw [t0, t1, t2, Bool.true_and, Bool.true_and, Bool.true_and]
        clear h0 h1 h2
        go_enter Tryz.func29, Tryz.ntmps29
        go_upto_region 1 with fail
        rw [← hW2]
        clear hW2
        go_wp2
        go_ret
        exact ⟨rfl, HB.out⟩
      · have t2 : (n == n') = false := by simpa using h2
        rw [t0, t1, t2, Bool.and_false, Bool.false_and]
        clear h0 h1 h2
        go_enter Tryz.func29, Tryz.ntmps29
        go_upto_region 1 with fail
        rw [← hW2]
        clear hW2
        go_wp2
        go_ret
        exact ⟨rfl, HB.out⟩
    · have t1 : (c == c') = false := by simpa using h1
      rw [t0, t1, Bool.and_false, Bool.false_and, Bool.false_and]
      clear h0 h1
      go_enter Tryz.func29, Tryz.ntmps29
      go_upto_region 1 with fail
      rw [← hW2]
      clear hW2
      go_wp2
      go_ret
      exact ⟨rfl, HB.out⟩
  · have t0 : (k == k') = false := by simpa using h0
    rw [t0, Bool.false_and, Bool.false_and, Bool.false_and]
    clear h0
    go_enter Tryz.func29, Tryz.ntmps29
    go_upto_region 1 with fail
    rw [← hW2]
    clear hW2
    go_wp2
    go_ret
    exact ⟨rfl, HB.out⟩
end Go.Proofs.YtiollhmbdhepkaaGreatDoor
namespace Go.Proofs.YtiollhmbdhepkaaGreatDoor
open Go.RowKit Go.Shelf
set_option maxRecDepth 100000

set_option maxHeartbeats 8000000 in
theorem putG_any (p : Fm) (sv : Value) (w : World) (ht : Tb w) (hp : FP w p sv) (hv : ∃ t y, frV p sv = .iface t y)
    (cf : Calls Tryz.prog 51 #[frV p sv] w fun e w' => ∃ sv', e = .returned (.agg (plA p sv')) ∧ RSp w' w.heap.size sv' p.sp ∧ Below w.heap.size w w')
    (hcl : ∀ (sv : Value) (w : World), Tb w → FI w p sv → Ok p → Calls Tryz.prog 52 #[.agg (plA p sv)] w fun e w' => ∃ v, e = .returned v ∧ Ow w' w.heap.size v (putM p) ∧ Below w.heap.size w w') :
    Calls Tryz.prog 14 #[frV p sv] w fun e w' => ∃ v, e = .returned (.tuple #[v, .int .i64 (chkM p)]) ∧ Ow w' w.heap.size v (putR p) ∧ Below w.heap.size w w' := by
  have HCL : Hid (∀ (sv : Value) (w : World), Tb w → FI w p sv → Ok p → Calls Tryz.prog 52 #[.agg (plA p sv)] w fun e w' => ∃ v, e = .returned v ∧ Ow w' w.heap.size v (putM p) ∧ Below w.heap.size w w') := hcl
  clear hcl
  obtain ⟨ty, y, hy⟩ := hv
  rw [hy] at cf ⊢
  have HP : Hid (FP w p sv) := hp
  have HT : Hid (Tb w) := ht
  have HSZ : Hid (∀ v, (Tryz.prog.info? 33).map (·.size) = some (plA p v).size) := fun v => by rw [plA_size hp.k.nl]; exact infoP
  have HSL : Hid (∀ v, (Tryz.prog.info? 33).map (·.size) = some (plL p v).length) := fun v => by rw [plL_len hp.k.nl]; exact infoP
  have HON : Hid (∀ (a : Option Addr) (m c : Nat), (plA p (.slice a m c)).all (·.oneCell') = true) := fun a m c => all_oneCell_toArray (plL_one rfl)
  have HO23 : Hid (∀ v, (plA Fm.zero (.slice none 0 0)).size = (plA p v).size) := fun v => by rw [plA_size hp.k.nl]; rfl
  clear hp ht
  go_enter Tryz.func14, Tryz.ntmps14
  go_wp2_with fail
  refine cf.mono ?_
  rintro e w1 ⟨s1, rfl, r1, b1⟩
  obtain ⟨sa, sc, rfl, -, -, -⟩ := r1.is.shape
  obtain ⟨W2, hW2⟩ : ∃ W2, W2 = w1.alloc (.cells (plA p (.slice sa p.sp.length sc)) 33) := ⟨_, rfl⟩
  have b2 : Below w1.heap.size w1 W2 := by rw [hW2]; exact al_below _ _
  have HB2 : Hid (Below w.heap.size w W2) := b1.trans (b2.mono b1.size)
  have hal := alloc_pl (w := w1) p (.slice sa p.sp.length sc) 33 #[.int .u8 0, .int .i64 0, .int .i64 0, .int .i64 0, .bool false, .string ⟨#[]⟩, .int .u8 0, .int .u8 0, .int .u8 0, .int .u8 0, .int .u8 0, .int .u8 0, .int .u8 0, .int .u8 0, .int .u8 0, .int .u8 0, .int .u8 0, .int .u8 0, .int .u8 0, .int .u8 0, .int .u8 0, .int .u8 0, .slice none 0 0] rfl
  rw [← hW2] at hal
  have HAL : Hid ((w1.alloc (.cells #[.int .u8 0, .int .i64 0, .int .i64 0, .int .i64 0, .bool false, .string ⟨#[]⟩, .int .u8 0, .int .u8 0, .int .u8 0, .int .u8 0, .int .u8 0, .int .u8 0, .int .u8 0, .int .u8 0, .int .u8 0, .int .u8 0, .int .u8 0, .int .u8 0, .int .u8 0, .int .u8 0, .int .u8 0, .int .u8 0, .slice none 0 0] 33)).setRow w1.heap.size (plA p (.slice sa p.sp.length sc)) = W2) := hal
  have HNEW : Hid ((w1.alloc (.cells #[.int .u8 0, .int .i64 0, .int .i64 0, .int .i64 0, .bool false, .string ⟨#[]⟩, .int .u8 0, .int .u8 0, .int .u8 0, .int .u8 0, .int .u8 0, .int .u8 0, .int .u8 0, .int .u8 0, .int .u8 0, .int .u8 0, .int .u8 0, .int .u8 0, .int .u8 0, .int .u8 0, .int .u8 0, .int .u8 0, .slice none 0 0] 33)).heap[w1.heap.size]? = some (.cells #[.int .u8 0, .int .i64 0, .int .i64 0, .int .i64 0, .bool false, .string ⟨#[]⟩, .int .u8 0, .int .u8 0, .int .u8 0, .int .u8 0, .int .u8 0, .int .u8 0, .int .u8 0, .int .u8 0, .int .u8 0, .int .u8 0, .int .u8 0, .int .u8 0, .int .u8 0, .int .u8 0, .int .u8 0, .int .u8 0, .slice none 0 0] 33 (0, 0))) := heap_alloc_new _ _
  have g2 : PF W2 w1.heap.size 33 p (.slice sa p.sp.length sc) := by rw [hW2]; exact PF.new w1 _ p _
  have HG2 : Hid (PF W2 w1.heap.size 33 p (.slice sa p.sp.length sc)) := g2
  have HI2 : Hid (FI W2 p (.slice sa p.sp.length sc)) := ⟨HP.out.k, (r1.is).kept b2, HP.out.l, HP.out.t⟩
  have cc := checkF_any p _ W2 (HT.out.next HB2.out) HI2.out
  have HR2 : Hid (W2.rangeAt w1.heap.size 0 (plL p (.slice sa p.sp.length sc))) := g2.range
  clear cf b1 r1 b2 hW2 hal g2
  go_wp2_with (refine wpList_store_row rfl 33 _ _ rfl w1.heap.size (plA p (.slice sa p.sp.length sc)) rfl rfl 33 _ HNEW.out (HSZ.out _) (HO23.out _) (HON.out _ _ _) (Hid.out ?_))
  unfold Hid
  rw [HAL.out]
  go_wp2_with (refine wpList_load_mid rfl 33 _ rfl w1.heap.size 0 rfl (plL p (.slice sa p.sp.length sc)) _ HR2.out Tryz.underlying33 rfl (HSL.out _) (Hid.out ?_))
  unfold Hid
  go_wp2_with fail
  refine cc.mono ?_
  rintro e w3 ⟨rfl, b3⟩
  have HB3 : Hid (Below w.heap.size w w3) := HB2.out.trans (b3.mono HB2.out.size)
  have HR3 : Hid (w3.rangeAt w1.heap.size 0 (plL p (.slice sa p.sp.length sc))) := (HG2.out.kept b3).range
  have HI3 : Hid (FI w3 p (.slice sa p.sp.length sc)) := HI2.out.kept b3
  clear cc b3 HR2 HI2 HG2 HNEW HAL
  by_cases h0 : chkM p = 0
  · have cl := HCL.out _ w3 (HT.out.next HB3.out) HI3.out (chkM_ok h0)
    have t0 : (chkM p != 0) = false := by rw [h0]; rfl
    have HC0 : Hid (chkM p = 0) := h0
    clear h0
    go_wp2_with (refine wpList_load_mid rfl 33 _ rfl w1.heap.size 0 rfl (plL p (.slice sa p.sp.length sc)) _ HR3.out Tryz.underlying33 rfl (HSL.out _) (Hid.out ?_))
    unfold Hid
    go_wp2_with fail
    refine cl.mono ?_
    rintro e w4 ⟨v4, rfl, o4, b4⟩
    have HB4 : Hid (Below w.heap.size w w4) := HB3.out.trans (b4.mono HB3.out.size)
    have HO4 : Hid (Ow w4 w.heap.size v4 (putM p)) := o4.mono HB3.out.size
    clear cl b4 o4 HR3
    go_wp2
    go_ret2
    have HE : putR p = putM p := by unfold putR; rw [if_pos HC0.out]
    exact ⟨_, (by first | rfl | (rw [HC0.out]; rfl)), by rw [HE]; exact HO4.out, HB4.out⟩
  · have t0 : (chkM p != 0) = true := by simpa using h0
    have HC0 : Hid (¬ chkM p = 0) := h0
    have HNIL : Hid (Ow w3 w.heap.size (.slice none 0 0) []) := ⟨World.ownsRow_nil _ _ _ _, fun k => by simp⟩
    clear h0
    go_wp2
    go_ret2
    have HE : putR p = [] := by unfold putR; rw [if_neg HC0.out]
    exact ⟨_, rfl, by rw [HE]; exact HNIL.out, HB3.out⟩
set_option maxHeartbeats 8000000 in
theorem getG_any (v : Value) (xs : List Int) (w : World) (ht : Tb w) (h : Sl w v xs) (hl : xs.length ≤ 9000000000000000000)
    (hah : ∀ v, Sl w v (xs.take 1150) → Calls Tryz.prog 69 #[v] w fun e w' => ∃ sv, e = .returned (.tuple #[.agg (plA (ahM (xs.take 1150)).1 sv), .int .i64 (ahM (xs.take 1150)).2.1, .int .i64 (ahM (xs.take 1150)).2.2]) ∧ RSp w' w.heap.size sv (ahM (xs.take 1150)).1.sp ∧ Below w.heap.size w w') :
    Calls Tryz.prog 33 #[v] w fun e w' => ∃ sv, e = .returned (.tuple #[frV (getM xs).1 sv, .int .i64 (getM xs).2.1, .int .i64 (getM xs).2.2]) ∧ RSp w' w.heap.size sv (spO (getM xs).1) ∧ Below w.heap.size w w' := by
  obtain ⟨a, c, rfl, hlc, hcm, hnn, -⟩ := id h
  obtain ⟨m, hm⟩ : ∃ m, m = min xs.length 1150 := ⟨_, rfl⟩
  have hxl : (xs.take 1150).length = m := by rw [List.length_take, hm, Nat.min_comm]
  have hta := h.take m (by omega)
  rw [show xs.take m = xs.take 1150 by rcases Nat.le_total xs.length 1150 with q | q
                                       · rw [hm, Nat.min_eq_left q, List.take_length, List.take_of_length_le q]
                                       · rw [hm, Nat.min_eq_right q]] at hta
  have ca := hah (.slice a m c) hta
  clear hah
  have HK : Hid (FK (ahM (xs.take 1150)).1 ∧ (ahM (xs.take 1150)).1.sp.length ≤ 100000 ∧ (ahM (xs.take 1150)).1.tx.size ≤ 140737488355328) := ahM_fk _ hta.bytes (by omega)
  have HGM : Hid (getM xs = if (ahM (xs.take 1150)).2.2 ≠ 0 then errM (ahM (xs.take 1150)).2.2 else endM (ahM (xs.take 1150)).1 (ahM (xs.take 1150)).2.1) := rfl
  have emin : min (xs.length : Int) 1150 = (m : Int) := by omega
  have e1 : (m : Int) ≤ (c : Int) := by omega
  have e2 : 0 ≤ (m : Int) := by omega
  have hmx : c ≤ 9223372036854775807 := by unfold maxLen at hcm; omega
  have hna : a = none → m = 0 ∧ c = 0 := fun e => by have := hnn e; omega
  have HT : Hid (Tb w) := ht
  clear h hta ht hnn hm hxl hcm
  generalize ahM (xs.take 1150) = GA at *
  obtain ⟨p, gu, ge⟩ := GA
  simp only at ca HK HGM
  have HSZ : Hid (∀ v, (Tryz.prog.info? 33).map (·.size) = some (plA p v).size) := fun v => by rw [plA_size HK.out.1.nl]; exact infoP
  have HSL : Hid (∀ v, (Tryz.prog.info? 33).map (·.size) = some (plL p v).length) := fun v => by rw [plL_len HK.out.1.nl]; exact infoP
  have HON : Hid (∀ (a : Option Addr) (m c : Nat), (plA p (.slice a m c)).all (·.oneCell') = true) := fun a m c => all_oneCell_toArray (plL_one rfl)
  have HO23 : Hid (∀ v, (plA Fm.zero (.slice none 0 0)).size = (plA p v).size) := fun v => by rw [plA_size HK.out.1.nl]; rfl
  generalize xs.length = n9 at *
  cases a with
  | none =>
    obtain ⟨rfl, rfl⟩ := hna rfl
    clear hna
    go_enter Tryz.func33, Tryz.ntmps33
    go_wp2_with fail
    refine ca.mono ?_
    rintro e w1 ⟨s1, rfl, r1, b1⟩
    obtain ⟨sa, sc, rfl, -, -, -⟩ := r1.is.shape
    obtain ⟨W2, hW2⟩ : ∃ W2, W2 = w1.alloc (.cells (plA p (.slice sa p.sp.length sc)) 33) := ⟨_, rfl⟩
    have b2 : Below w1.heap.size w1 W2 := by rw [hW2]; exact al_below _ _
    have HB2 : Hid (Below w.heap.size w W2) := b1.trans (b2.mono b1.size)
    have hal := alloc_pl (w := w1) p (.slice sa p.sp.length sc) 33 #[.int .u8 0, .int .i64 0, .int .i64 0, .int .i64 0, .bool false, .string ⟨#[]⟩, .int .u8 0, .int .u8 0, .int .u8 0, .int .u8 0, .int .u8 0, .int .u8 0, .int .u8 0, .int .u8 0, .int .u8 0, .int .u8 0, .int .u8 0, .int .u8 0, .int .u8 0, .int .u8 0, .int .u8 0, .int .u8 0, .slice none 0 0] rfl
    rw [← hW2] at hal
    have HAL : Hid ((w1.alloc (.cells #[.int .u8 0, .int .i64 0, .int .i64 0, .int .i64 0, .bool false, .string ⟨#[]⟩, .int .u8 0, .int .u8 0, .int .u8 0, .int .u8 0, .int .u8 0, .int .u8 0, .int .u8 0, .int .u8 0, .int .u8 0, .int .u8 0, .int .u8 0, .int .u8 0, .int .u8 0, .int .u8 0, .int .u8 0, .int .u8 0, .slice none 0 0] 33)).setRow w1.heap.size (plA p (.slice sa p.sp.length sc)) = W2) := hal
    have HNEW : Hid ((w1.alloc (.cells #[.int .u8 0, .int .i64 0, .int .i64 0, .int .i64 0, .bool false, .string ⟨#[]⟩, .int .u8 0, .int .u8 0, .int .u8 0, .int .u8 0, .int .u8 0, .int .u8 0, .int .u8 0, .int .u8 0, .int .u8 0, .int .u8 0, .int .u8 0, .int .u8 0, .int .u8 0, .int .u8 0, .int .u8 0, .int .u8 0, .slice none 0 0] 33)).heap[w1.heap.size]? = some (.cells #[.int .u8 0, .int .i64 0, .int .i64 0, .int .i64 0, .bool false, .string ⟨#[]⟩, .int .u8 0, .int .u8 0, .int .u8 0, .int .u8 0, .int .u8 0, .int .u8 0, .int .u8 0, .int .u8 0, .int .u8 0, .int .u8 0, .int .u8 0, .int .u8 0, .int .u8 0, .int .u8 0, .int .u8 0, .int .u8 0, .slice none 0 0] 33 (0, 0))) := heap_alloc_new _ _
    have g2 : PF W2 w1.heap.size 33 p (.slice sa p.sp.length sc) := by rw [hW2]; exact PF.new w1 _ p _
    have HG2 : Hid (PF W2 w1.heap.size 33 p (.slice sa p.sp.length sc)) := g2
    have HI2 : Hid (FI W2 p (.slice sa p.sp.length sc)) := ⟨HK.out.1, (r1.is).kept b2, HK.out.2.1, HK.out.2.2⟩
    have HR2 : Hid (W2.rangeAt w1.heap.size 0 (plL p (.slice sa p.sp.length sc))) := g2.range
    clear ca b1 r1 b2 hW2 hal g2
    go_wp2_with (refine wpList_store_row rfl 33 _ _ rfl w1.heap.size (plA p (.slice sa p.sp.length sc)) rfl rfl 33 _ HNEW.out (HSZ.out _) (HO23.out _) (HON.out _ _ _) (Hid.out ?_))
    unfold Hid
    rw [HAL.out]
    by_cases h0 : ge = 0
    · have cc := checkF_any p _ W2 (HT.out.next HB2.out) HI2.out
      have tg : (ge == 0) = true := by rw [h0]; rfl
      have HG0 : Hid (getM xs = endM p gu) := by unfold Hid; rw [HGM.out, h0]; rfl
      clear h0 HGM HAL HNEW
      go_wp2_with (refine wpList_load_mid rfl 33 _ rfl w1.heap.size 0 rfl (plL p (.slice sa p.sp.length sc)) _ HR2.out Tryz.underlying33 rfl (HSL.out _) (Hid.out ?_))
      unfold Hid
      go_wp2_with fail
      refine cc.mono ?_
      rintro e w3 ⟨rfl, b3⟩
      have HB3 : Hid (Below w.heap.size w w3) := HB2.out.trans (b3.mono HB2.out.size)
      have HR3 : Hid (w3.rangeAt w1.heap.size 0 (plL p (.slice sa p.sp.length sc))) := (HG2.out.kept b3).range
      have HI3 : Hid (FI w3 p (.slice sa p.sp.length sc)) := HI2.out.kept b3
      clear cc b3 HR2 HI2 HG2
      by_cases hc : chkM p = 0
      · have cb := buildF_any p _ w3 HI3.out
        have tc : (chkM p != 0) = false := by rw [hc]; rfl
        have HGG : Hid (getM xs = (p, gu, 0)) := by unfold Hid; rw [HG0.out]; unfold endM; rw [if_pos hc]
        clear hc HG0
        go_wp2_with (refine wpList_load_mid rfl 33 _ rfl w1.heap.size 0 rfl (plL p (.slice sa p.sp.length sc)) _ HR3.out Tryz.underlying33 rfl (HSL.out _) (Hid.out ?_))
        unfold Hid
        go_wp2_with fail
        refine cb.mono ?_
        rintro e w4 ⟨s4, rfl, r4, b4⟩
        have HB4 : Hid (Below w.heap.size w w4) := HB3.out.trans (b4.mono HB3.out.size)
        have HR4 : Hid (RSp w4 w.heap.size s4 (spO p)) := RSp.mono r4 HB3.out.size
        clear cb r4 b4 HR3
        go_wp2
        go_ret3
        exact ⟨s4, by rw [HGG.out]; rfl, by rw [HGG.out]; exact HR4.out, HB4.out⟩
      · have tc : (chkM p != 0) = true := by simpa using hc
        have HGG : Hid (getM xs = errM (chkM p)) := by unfold Hid; rw [HG0.out]; unfold endM; rw [if_neg hc]
        have HNIL : Hid (RSp w3 w.heap.size (.slice none 0 0) (spO (errM (chkM p)).1)) := RI.nil _ _ _ _
        clear hc HG0
        go_wp2
        go_ret3
        exact ⟨_, by rw [HGG.out]; rfl, by rw [HGG.out]; exact HNIL.out, HB3.out⟩
    · have tg : (ge == 0) = false := by simpa using h0
      have tg2 : (ge != 0) = true := by simpa using h0
      have HGG : Hid (getM xs = errM ge) := by unfold Hid; rw [HGM.out, if_pos h0]
      have HNIL : Hid (RSp W2 w.heap.size (.slice none 0 0) (spO (errM ge).1)) := RI.nil _ _ _ _
      clear h0 HGM HAL HNEW
      go_wp2
      go_ret3
      exact ⟨_, by rw [HGG.out]; rfl, by rw [HGG.out]; exact HNIL.out, HB2.out⟩
  | some x =>
    clear hna
    go_enter Tryz.func33, Tryz.ntmps33
    go_wp2_with fail
    refine ca.mono ?_
    rintro e w1 ⟨s1, rfl, r1, b1⟩
    obtain ⟨sa, sc, rfl, -, -, -⟩ := r1.is.shape
    obtain ⟨W2, hW2⟩ : ∃ W2, W2 = w1.alloc (.cells (plA p (.slice sa p.sp.length sc)) 33) := ⟨_, rfl⟩
    have b2 : Below w1.heap.size w1 W2 := by rw [hW2]; exact al_below _ _
    have HB2 : Hid (Below w.heap.size w W2) := b1.trans (b2.mono b1.size)
    have hal := alloc_pl (w := w1) p (.slice sa p.sp.length sc) 33 #[.int .u8 0, .int .i64 0, .int .i64 0, .int .i64 0, .bool false, .string ⟨#[]⟩, .int .u8 0, .int .u8 0, .int .u8 0, .int .u8 0, .int .u8 0, .int .u8 0, .int .u8 0, .int .u8 0, .int .u8 0, .int .u8 0, .int .u8 0, .int .u8 0, .int .u8 0, .int .u8 0, .int .u8 0, .int .u8 0, .slice none 0 0] rfl
    rw [← hW2] at hal
    have HAL : Hid ((w1.alloc (.cells #[.int .u8 0, .int .i64 0, .int .i64 0, .int .i64 0, .bool false, .string ⟨#[]⟩, .int .u8 0, .int .u8 0, .int .u8 0, .int .u8 0, .int .u8 0, .int .u8 0, .int .u8 0, .int .u8 0, .int .u8 0, .int .u8 0, .int .u8 0, .int .u8 0, .int .u8 0, .int .u8 0, .int .u8 0, .int .u8 0, .slice none 0 0] 33)).setRow w1.heap.size (plA p (.slice sa p.sp.length sc)) = W2) := hal
    have HNEW : Hid ((w1.alloc (.cells #[.int .u8 0, .int .i64 0, .int .i64 0, .int .i64 0, .bool false, .string ⟨#[]⟩, .int .u8 0, .int .u8 0, .int .u8 0, .int .u8 0, .int .u8 0, .int .u8 0, .int .u8 0, .int .u8 0, .int .u8 0, .int .u8 0, .int .u8 0, .int .u8 0, .int .u8 0, .int .u8 0, .int .u8 0, .int .u8 0, .slice none 0 0] 33)).heap[w1.heap.size]? = some (.cells #[.int .u8 0, .int .i64 0, .int .i64 0, .int .i64 0, .bool false, .string ⟨#[]⟩, .int .u8 0, .int .u8 0, .int .u8 0, .int .u8 0, .int .u8 0, .int .u8 0, .int .u8 0, .int .u8 0, .int .u8 0, .int .u8 0, .int .u8 0, .int .u8 0, .int .u8 0, .int .u8 0, .int .u8 0, .int .u8 0, .slice none 0 0] 33 (0, 0))) := heap_alloc_new _ _
    have g2 : PF W2 w1.heap.size 33 p (.slice sa p.sp.length sc) := by rw [hW2]; exact PF.new w1 _ p _
    have HG2 : Hid (PF W2 w1.heap.size 33 p (.slice sa p.sp.length sc)) := g2
    have HI2 : Hid (FI W2 p (.slice sa p.sp.length sc)) := ⟨HK.out.1, (r1.is).kept b2, HK.out.2.1, HK.out.2.2⟩
    have HR2 : Hid (W2.rangeAt w1.heap.size 0 (plL p (.slice sa p.sp.length sc))) := g2.range
    clear ca b1 r1 b2 hW2 hal g2
    go_wp2_with (refine wpList_store_row rfl 33 _ _ rfl w1.heap.size (plA p (.slice sa p.sp.length sc)) rfl rfl 33 _ HNEW.out (HSZ.out _) (HO23.out _) (HON.out _ _ _) (Hid.out ?_))
    unfold Hid
    rw [HAL.out]
    by_cases h0 : ge = 0
    · have cc := checkF_any p _ W2 (HT.out.next HB2.out) HI2.out
      have tg : (ge == 0) = true := by rw [h0]; rfl
      have HG0 : Hid (getM xs = endM p gu) := by unfold Hid; rw [HGM.out, h0]; rfl
      clear h0 HGM HAL HNEW
      go_wp2_with (refine wpList_load_mid rfl 33 _ rfl w1.heap.size 0 rfl (plL p (.slice sa p.sp.length sc)) _ HR2.out Tryz.underlying33 rfl (HSL.out _) (Hid.out ?_))
      unfold Hid
      go_wp2_with fail
      refine cc.mono ?_
      rintro e w3 ⟨rfl, b3⟩
      have HB3 : Hid (Below w.heap.size w w3) := HB2.out.trans (b3.mono HB2.out.size)
      have HR3 : Hid (w3.rangeAt w1.heap.size 0 (plL p (.slice sa p.sp.length sc))) := (HG2.out.kept b3).range
      have HI3 : Hid (FI w3 p (.slice sa p.sp.length sc)) := HI2.out.kept b3
      clear cc b3 HR2 HI2 HG2
      by_cases hc : chkM p = 0
      · have cb := buildF_any p _ w3 HI3.out
        have tc : (chkM p != 0) = false := by rw [hc]; rfl
        have HGG : Hid (getM xs = (p, gu, 0)) := by unfold Hid; rw [HG0.out]; unfold endM; rw [if_pos hc]
        clear hc HG0
        go_wp2_with (refine wpList_load_mid rfl 33 _ rfl w1.heap.size 0 rfl (plL p (.slice sa p.sp.length sc)) _ HR3.out Tryz.underlying33 rfl (HSL.out _) (Hid.out ?_))
        unfold Hid
        go_wp2_with fail
        refine cb.mono ?_
        rintro e w4 ⟨s4, rfl, r4, b4⟩
        have HB4 : Hid (Below w.heap.size w w4) := HB3.out.trans (b4.mono HB3.out.size)
        have HR4 : Hid (RSp w4 w.heap.size s4 (spO p)) := RSp.mono r4 HB3.out.size
        clear cb r4 b4 HR3
        go_wp2
        go_ret3
        exact ⟨s4, by rw [HGG.out]; rfl, by rw [HGG.out]; exact HR4.out, HB4.out⟩
      · have tc : (chkM p != 0) = true := by simpa using hc
        have HGG : Hid (getM xs = errM (chkM p)) := by unfold Hid; rw [HG0.out]; unfold endM; rw [if_neg hc]
        have HNIL : Hid (RSp w3 w.heap.size (.slice none 0 0) (spO (errM (chkM p)).1)) := RI.nil _ _ _ _
        clear hc HG0
        go_wp2
        go_ret3
        exact ⟨_, by rw [HGG.out]; rfl, by rw [HGG.out]; exact HNIL.out, HB3.out⟩
    · have tg : (ge == 0) = false := by simpa using h0
      have tg2 : (ge != 0) = true := by simpa using h0
      have HGG : Hid (getM xs = errM ge) := by unfold Hid; rw [HGM.out, if_pos h0]
      have HNIL : Hid (RSp W2 w.heap.size (.slice none 0 0) (spO (errM ge).1)) := RI.nil _ _ _ _
      clear h0 HGM HAL HNEW
      go_wp2
      go_ret3
      exact ⟨_, by rw [HGG.out]; rfl, by rw [HGG.out]; exact HNIL.out, HB2.out⟩
set_option maxHeartbeats 8000000 in
theorem allG_any (S : List Int → Prop) (hSd : ∀ ys, S ys → S (ys.drop (getM ys).2.1.toNat)) (hget : ∀ (v : Value) (ys : List Int) (w : World), S ys → ys ≠ [] → Tb w → Sl w v ys → Calls Tryz.prog 33 #[v] w fun e w' => ∃ sv, e = .returned (.tuple #[frV (getM ys).1 sv, .int .i64 (getM ys).2.1, .int .i64 (getM ys).2.2]) ∧ RSp w' w.heap.size sv (spO (getM ys).1) ∧ Below w.heap.size w w') (v : Value) (xs : List Int) (w : World) (ht : Tb w) (h : Sl w v xs) (hl : xs.length ≤ 90000) (hS : S xs) :
    Calls Tryz.prog 68 #[v] w fun e w' => ∃ v', e = .returned (.tuple #[v', .int .i64 (allM xs).2]) ∧ RF w' w.heap.size v' (allM xs).1 ∧ Below w.heap.size w w' := by
  have HT : Hid (Tb w) := ht
  have HSD : Hid (∀ ys, S ys → S (ys.drop (getM ys).2.1.toNat)) := hSd
  have HGT : Hid (∀ (v : Value) (ys : List Int) (w : World), S ys → ys ≠ [] → Tb w → Sl w v ys → Calls Tryz.prog 33 #[v] w fun e w' => ∃ sv, e = .returned (.tuple #[frV (getM ys).1 sv, .int .i64 (getM ys).2.1, .int .i64 (getM ys).2.2]) ∧ RSp w' w.heap.size sv (spO (getM ys).1) ∧ Below w.heap.size w w') := hget
  have HSX : Hid (S xs) := hS
  clear hSd hget hS
  have HS : Hid (Sl w v xs) := h
  obtain ⟨a0, c0, rfl, -, -, -, -⟩ := id h
  obtain ⟨R, hR⟩ : ∃ R, R = allM xs := ⟨_, rfl⟩
  have HR : Hid (allA xs.length [] xs = R) := hR.symm
  rw [← hR]
  clear ht h hR
  go_enter Tryz.func68, Tryz.ntmps68
  go_wp2
  go_loopw [0, 4] (fun b l wr => ∃ (acc : List Fm) (ys : List Int) (f : Nat) (a : Option Addr) (n c : Nat), b = .slice a n c ∧ Sl w (.slice a n c) ys ∧ RF wr w.heap.size l acc ∧ allA f acc ys = R ∧ (ys.length ≤ f ∧ acc.length + ys.length ≤ 90000 ∧ S ys) ∧ Below w.heap.size w wr) (fun b _ _ => lnV b)
  case atStart => exact ⟨[], xs, xs.length, a0, xs.length, c0, rfl, HS.out, RF.nil _ _, HR.out, ⟨Nat.le_refl _, by simpa using hl, HSX.out⟩, Below.refl _ _⟩
  case round =>
    obtain ⟨acc, ys, f, a, n, c, rfl, hs, hf, hA, ⟨hyf, hal, hsy⟩, hb⟩ := hrel
    have HSY : Hid (S ys) := hsy
    clear hsy
    obtain ⟨a', c', e', hlc, hcm, hnn, hrow⟩ := id hs
    cases e'
    have HB : Hid (Below w.heap.size w wr) := hb
    have HSR : Hid (Sl w (.slice a ys.length c) ys) := hs
    have HFR : Hid (RF wr w.heap.size u4 acc) := hf
    have HAR : Hid (allA f acc ys = R) := hA
    have HAL : Hid (acc.length + ys.length ≤ 90000) := hal
    have hbb : BB ys := hs.bytes
    obtain ⟨la, lc, rfl⟩ := RF.shape hf
    clear hs hf hA hb HS HR
    by_cases hn0 : ys.length = 0
    · have hy : ys = [] := List.length_eq_zero_iff.1 hn0
      have HRE : Hid (R = (acc, 0)) := by unfold Hid; rw [← HAR.out, hy, allA_nil]
      have t0 : ¬ (0 : Int) < (ys.length : Int) := by omega
      clear hrow hbb hyf hal hn0 hy
      generalize ys.length = n at *
      go_wp2
      go_ret2
      exact ⟨_, by rw [HRE.out]; rfl, by rw [HRE.out]; exact HFR.out, HB.out⟩
    · have t0 : (0 : Int) < (ys.length : Int) := by omega
      obtain ⟨f', rfl⟩ : ∃ f', f = f' + 1 := ⟨f - 1, by omega⟩
      have hne : ys ≠ [] := fun e => hn0 (by rw [e]; rfl)
      have hAS := HAR.out
      rw [allA_succ, if_neg hne] at hAS
      have cg := HGT.out _ ys wr HSY.out hne (HT.out.next HB.out) (HSR.out.kept HB.out)
      have hsd := HSD.out ys HSY.out
      have hus := getM_used ys hbb
      have hok := getM_okk ys
      generalize getM ys = G at *
      obtain ⟨p, gu, ge⟩ := G
      simp only at cg hAS hus hok hsd
      by_cases hge : ge = 0
      · obtain ⟨hu1, hu2⟩ := hus hge
        rw [if_neg (fun q => q hge)] at hAS
        obtain ⟨U, rfl⟩ : ∃ U : Nat, gu = U := ⟨gu.toNat, by omega⟩
        rw [Int.toNat_natCast] at hAS hsd
        obtain ⟨bb, off, rfl⟩ : ∃ bb off, a = some ⟨bb, off, none⟩ := by
          rcases hrow with h0 | ⟨-, bb, off, e2, -⟩
          · exact absurd h0 hn0
          · exact ⟨bb, off, e2⟩
        have hUn : U ≤ ys.length := by omega
        obtain ⟨zs, hzs⟩ : ∃ zs, zs = ys.drop U := ⟨_, rfl⟩
        have hzl : zs.length = ys.length - U := by rw [hzs, List.length_drop]
        have HRR : Hid (allA f' (acc ++ [p]) zs = R) := by rw [hzs]; exact hAS
        have HZL : Hid (zs.length ≤ f' ∧ (acc ++ [p]).length + zs.length ≤ 90000 ∧ S zs) := by
          unfold Hid
          rw [List.length_append, List.length_singleton]
          exact ⟨by omega, by omega, by rw [hzs]; exact hsd⟩
        have HZA : Hid (c = U → Sl w (.slice (some ⟨bb, off, none⟩) 0 0) zs) := fun hc => by
          have : zs = [] := List.length_eq_zero_iff.1 (by omega)
          rw [this]
          exact ⟨_, 0, rfl, Nat.le_refl _, by unfold maxLen; omega, fun e => (by cases e), .inl rfl⟩
        have hdrop := HSR.out.drop U hUn
        rw [← hzs] at hdrop
        have HZB : Hid (Sl w (.slice (some ⟨bb, off + U, none⟩) (ys.length - U) (c - U)) zs) := hdrop
        have HAL2 : Hid (acc.length ≤ 100000) := by have := HAL.out; unfold Hid; omega
        have hge' : (ge != 0) = false := by rw [hge]; rfl
        have hcm2 : c ≤ 9223372036854775807 := by unfold maxLen at hcm; omega
        have sx1 : 0 ≤ (U : Int) := by omega
        have sx2 : (U : Int) ≤ (ys.length : Int) := by omega
        have sx3 : (ys.length : Int) ≤ (c : Int) := by omega
        have HOKP : Hid (chkM p = 0) := hok hge
        have HU0 : Hid (0 < U) := by unfold Hid; omega
        clear hsd HSY
        clear hok hAS hus hzs hrow hne hbb hyf hal HAR HT hl hge hu1 hu2 hdrop HAL hcm HSR hnn hzl
        generalize ys.length = n at *
        go_wp2_with fail
        refine cg.mono ?_
        rintro e w1 ⟨s1, rfl, r1, b1⟩
        obtain ⟨ty, y, hy⟩ := frV_iface (chkM_ok HOKP.out).kk s1
        rw [hy]
        have HY : Hid (frV p s1 = .iface ty y) := hy
        clear hy
        obtain ⟨W2, hW2⟩ : ∃ W2, W2 = w1.alloc (.cells #[.iface ty y] 29) := ⟨_, rfl⟩
        have b2 : Below w1.heap.size w1 W2 := by rw [hW2]; exact al_below _ _
        have b12 : Below wr.heap.size wr W2 := b1.trans (b2.mono b1.size)
        have HB2 : Hid (Below w.heap.size w W2) := HB.out.trans (b12.mono HB.out.size)
        have HF2 : Hid (RF W2 w.heap.size (.slice la acc.length lc) acc) := HFR.out.below b12
        have HS2 : Hid (RSp W2 w.heap.size s1 (spO p)) := (RSp.mono r1 HB.out.size).below b2
        have HC2 : Hid (W2.cell? ⟨w1.heap.size, 0, none⟩ = some (frV p s1)) := by unfold Hid; rw [HY.out, hW2, World.cell?_alloc_at _ _ _ _ rfl]; rfl
        clear cg r1 b1 b2 b12 HFR HB
        by_cases hcU : c = U
        · have HS0 : Hid (Sl w (.slice (some ⟨bb, off, none⟩) 0 0) zs) := HZA.out hcU
          clear HZA HZB
          subst hcU
          obtain rfl : n = c := by omega
          clear sx2 sx3 hUn
          go_wp2_with (at_builtin; rw [← hW2]; refine wpList_append_fr rfl _ _ rfl w.heap.size _ acc rfl HF2.out w1.heap.size p s1 1 HS2.out rfl HC2.out HAL2.out HB2.out.size (Hid.out ?_))
          unfold Hid
          intro v3 w3 r3 b3
          try rw [← hW2] at b3
          clear hW2
          have HB3 : Hid (Below w.heap.size w w3) := HB2.out.trans b3
          have HF3 : Hid (RF w3 w.heap.size v3 (acc ++ [p])) := r3
          obtain ⟨va, vc, rfl⟩ := RF.shape r3
          clear b3 r3
          go_wp2
          go_roundw
          case rel => exact ⟨acc ++ [p], zs, f', some ⟨bb, off, none⟩, 0, 0, rfl, HS0.out, HF3.out, HRR.out, HZL.out, HB3.out⟩
          case measure => (have := HU0.out; simp [lnV]; omega)
        · have HS0 : Hid (Sl w (.slice (some ⟨bb, off + U, none⟩) (n - U) (c - U)) zs) := HZB.out
          clear HZA HZB
          go_wp2_with (at_builtin; rw [← hW2]; refine wpList_append_fr rfl _ _ rfl w.heap.size _ acc rfl HF2.out w1.heap.size p s1 1 HS2.out rfl HC2.out HAL2.out HB2.out.size (Hid.out ?_))
          unfold Hid
          intro v3 w3 r3 b3
          try rw [← hW2] at b3
          clear hW2
          have HB3 : Hid (Below w.heap.size w w3) := HB2.out.trans b3
          have HF3 : Hid (RF w3 w.heap.size v3 (acc ++ [p])) := r3
          obtain ⟨va, vc, rfl⟩ := RF.shape r3
          clear b3 r3
          go_wp2
          go_roundw
          case rel => exact ⟨acc ++ [p], zs, f', some ⟨bb, off + U, none⟩, n - U, c - U, rfl, HS0.out, HF3.out, HRR.out, HZL.out, HB3.out⟩
          case measure => (have := HU0.out; simp [lnV]; omega)
      · rw [if_pos hge] at hAS
        have HRE : Hid (R = ([], ge)) := hAS.symm
        have tge : (ge != 0) = true := by simpa using hge
        clear hsd HSY
        clear hok hAS hus hge hrow hne hbb hyf hal HAR HAL
        generalize ys.length = n at *
        go_wp2_with fail
        refine cg.mono ?_
        rintro e w1 ⟨s1, rfl, r1, b1⟩
        have HB1 : Hid (Below w.heap.size w w1) := HB.out.trans (b1.mono HB.out.size)
        clear cg r1 b1
        go_wp2
        go_ret2
        exact ⟨_, by rw [HRE.out]; rfl, by rw [HRE.out]; exact RF.nil _ _, HB1.out⟩
def pingF : Fm := ⟨1, 0, 0, 0, false, ⟨#[]⟩, zn, []⟩
theorem ping_ok : Ok pingF := by
  refine ⟨show isK 1 = true by decide, ?_, ?_, fun h => absurd (show hS 1 = true from h) (by decide), ?_, fun h => absurd (show (1 : Int) = 3 from h) (by decide)⟩
  · unfold badF pingF
    simp [hI, hN, hF, hC, hO, hT, hS]
  · unfold outF pingF; decide
  · unfold pingF mT; decide
theorem ping_chk : chkM pingF = 0 := chkM_of ping_ok
theorem ping_put : putM pingF = [1] := by decide +kernel
theorem flatP (sv : Value) (w : World) : Calls Tryz.prog 51 #[frV pingF sv] w fun e w' => ∃ sv', e = .returned (.agg (plA pingF sv')) ∧ RSp w' w.heap.size sv' pingF.sp ∧ Below w.heap.size w w' :=
  (flat1 w).mono fun _ _ ⟨e, b⟩ => ⟨_, e, RI.nil _ _ _ _, b⟩
theorem putP_any (sv : Value) (w : World) (ht : Tb w) (hp : FP w pingF sv) (hv : ∃ t y, frV pingF sv = .iface t y) :
    Calls Tryz.prog 14 #[frV pingF sv] w fun e w' => ∃ v, e = .returned (.tuple #[v, .int .i64 (chkM pingF)]) ∧ Ow w' w.heap.size v (putR pingF) ∧ Below w.heap.size w w' :=
  putG_any pingF sv w ht hp hv (flatP sv w) (fun sv w h1 h2 h3 => lay1 pingF sv w h1 h2 h3 rfl)
theorem get_1 : getM [1] = (pingF, 1, 0) := by
  have := getM_put ping_ok rfl []
  rw [List.append_nil, ping_put] at this
  exact this
theorem allP_any (v : Value) (w : World) (ht : Tb w) (h : Sl w v [1]) :
    Calls Tryz.prog 68 #[v] w fun e w' => ∃ v', e = .returned (.tuple #[v', .int .i64 (allM [1]).2]) ∧ RF w' w.heap.size v' (allM [1]).1 ∧ Below w.heap.size w w' :=
  allG_any (fun ys => ys = [1] ∨ ys = []) (fun ys h => by
    rcases h with rfl | rfl
    · exact .inr (by rw [get_1]; rfl)
    · exact .inr rfl) (fun v ys w hs hn ht h => by
    rcases hs with rfl | rfl
    · exact getG_any v [1] w ht h (by decide) (fun v h => ahd1 v [] w ht h (by decide))
    · exact absurd rfl hn) v [1] w ht h (by decide) (.inl rfl)
end Go.Proofs.YtiollhmbdhepkaaGreatDoor
namespace Go.Proofs.YtiollhmbdhepkaaGreatDoor
open Go.RowKit
set_option maxRecDepth 100000

theorem rdM_head {k c n : Int} {Y : List Int} (h : mb k c n = true) (hk : 0 ≤ k) (h16 : 16 ≤ Y.length) (hl : (hdL k c n ++ Y).length ≤ 1200) : rdM (hdL k c n ++ Y) = ⟨k, c, n, Y.take (Y.length - 16), Y, 0⟩ := by
  obtain ⟨h1, hc, hn⟩ := mb_iff.1 h
  have hb : rBt (hdL k c n ++ Y) 0 = (k, nB c ++ (nB n ++ Y), 0) := by
    have e : hdL k c n ++ Y = k :: (nB c ++ (nB n ++ Y)) := by simp [hdL]
    rw [e, rBt_cons]
  have e1 : rNm 1099511627776 (nB c ++ (nB n ++ Y)) 0 = (c, nB n ++ Y, 0) := rN_num hc.1 (by omega) hc.2 _
  have e2 : rNm 1099511627776 (nB n ++ Y) 0 = (n, Y, 0) := rN_num hn.1 (by omega) hn.2 _
  have hd : (hdL k c n ++ Y).drop ((hdL k c n ++ Y).length - Y.length) = Y := by
    rw [List.length_append, Nat.add_sub_cancel, List.drop_left]
  unfold rdM
  rw [if_neg (by omega), hb]
  simp only
  rw [if_neg (by omega), e1]
  simp only
  rw [e2]
  simp only
  rw [if_neg (by decide), if_neg (by omega), hd]
theorem opE_btag (K H X : List Int) : Mc.opE K H (X ++ Mc.btag K H X) = 0 := by
  have h0 : (Mc.btag K H X).length = 16 := Mc.tagB_len _ _
  have hl : (X ++ Mc.btag K H X).length - 16 = X.length := by rw [List.length_append]; omega
  have hn : ¬ (X ++ Mc.btag K H X).length < 16 := by rw [List.length_append]; omega
  unfold Mc.opE
  rw [if_neg hn, hl, List.drop_left, List.take_left, if_pos rfl]
theorem sel_len {k c n : Int} {X : List Int} (h : selE k c n X.length = 0) : mb k c n = true ∧ (X.length : Int) ≤ rmI k c n ∧ (hdL k c n).length + X.length + 16 ≤ 1200 := by
  rcases selE_cases k c n X.length with ⟨_, q⟩ | ⟨_, _, q⟩ | ⟨q1, q2, _⟩
  · rw [q] at h; omega
  · rw [q] at h; omega
  · refine ⟨q1, q2, ?_⟩
    rw [rmI_yes q1] at q2
    omega
theorem rdM_seal {K : List Int} {k c n : Int} {X : List Int} (hk : 0 ≤ k) (h : selE k c n X.length = 0) : (rdM (selL K k c n X)).body = X := by
  obtain ⟨q1, q2, q3⟩ := sel_len h
  have h0 : (Mc.btag K (hdL k c n) X).length = 16 := Mc.tagB_len _ _
  rw [selL_yes h]
  have hr := rdM_head (k := k) (c := c) (n := n) (Y := X ++ Mc.btag K (hdL k c n) X) q1 hk (by rw [List.length_append]; omega) (by simp only [List.length_append]; omega)
  have hl : (X ++ Mc.btag K (hdL k c n) X).length - 16 = X.length := by rw [List.length_append]; omega
  rw [hl, List.take_left] at hr
  rw [hr]
theorem opM_seal {K : List Int} {k c n : Int} {X : List Int} {fs : List Fm} (hk : 0 ≤ k) (h : selE k c n X.length = 0) (ha : allM X = (fs, 0)) : opM K (selL K k c n X) = ⟨k, c, n, X, fs, 0⟩ := by
  obtain ⟨q1, q2, q3⟩ := sel_len h
  have h0 : (Mc.btag K (hdL k c n) X).length = 16 := Mc.tagB_len _ _
  rw [selL_yes h]
  have hr := rdM_head (k := k) (c := c) (n := n) (Y := X ++ Mc.btag K (hdL k c n) X) q1 hk (by rw [List.length_append]; omega) (by simp only [List.length_append]; omega)
  have hl : (X ++ Mc.btag K (hdL k c n) X).length - 16 = X.length := by rw [List.length_append]; omega
  rw [hl, List.take_left] at hr
  unfold opM
  rw [hr]
  simp only
  rw [if_neg (by decide), opE_btag, if_neg (by decide), ha]
  simp only
  rw [if_neg (by decide)]

theorem ping_fg : FG pingF := ⟨⟨show (0 : Int) ≤ 1 by decide, show (1 : Int) < 256 by decide, by decide, by decide, by decide, by decide, by decide, by decide, rfl, zn_bb⟩, ping_ok.kk, ping_ok.nb, by decide, by decide⟩
theorem ping_lay : layE [pingF] = 0 ∧ layL [pingF] = [1] := by
  have h : layE [pingF] = 0 := by
    unfold layE
    rw [ping_chk, if_neg (by decide)]
    rfl
  refine ⟨h, ?_⟩
  unfold layL
  rw [if_pos h]
  simp [ping_put]
theorem hd_153 : hdL 1 5 3 = [1, 5, 3] := by decide +kernel
theorem mb_153 : mb 1 5 3 = true := by decide
theorem rm_153 : rmI 1 5 3 = 1181 := by rw [rmI_yes mb_153, hd_153]; decide
theorem pk_153 : pkE 1 5 3 [pingF] = 0 ∧ pkM 1 5 3 [pingF] = ⟨1, 5, 3, [1]⟩ := by
  have h : pkE 1 5 3 [pingF] = 0 := by
    unfold pkE
    rw [ping_lay.1, if_neg (by decide), ping_lay.2, rm_153, if_neg (by decide), mb_153, if_neg (by decide)]
  refine ⟨h, ?_⟩
  unfold pkM
  rw [h, if_pos rfl, ping_lay.2]
theorem all_1 : allM [1] = ([pingF], 0) := by
  have := allM_put [pingF] (fun p hp => by rw [List.mem_singleton.1 hp]; exact ⟨ping_ok, rfl⟩)
  rwa [show ([pingF].map putM).flatten = [1] by simp [ping_put]] at this
theorem sel_153 : selE 1 5 3 1 = 0 := by unfold selE; rw [mb_153, rm_153]; decide
theorem RF.ping (w : World) (B : Nat) (hB : B ≤ w.heap.size) : RF (w.alloc (.cells #[.iface 93 (.agg #[])] 29)) B (.slice (some ⟨w.heap.size, 0, none⟩) 1 1) [pingF] := by
  refine ⟨[.iface 93 (.agg #[])], ⟨rfl, .inr ⟨_, 1, _, rfl, hB, heap_alloc_new _ _, Nat.le_refl _, by unfold maxLen; omega, rfl, rfl⟩⟩, fun i hi => ?_⟩
  obtain rfl : i = 0 := by simpa using hi
  exact ⟨.slice none 0 0, rfl, RI.nil _ _ _ _⟩
end Go.Proofs.YtiollhmbdhepkaaGreatDoor
