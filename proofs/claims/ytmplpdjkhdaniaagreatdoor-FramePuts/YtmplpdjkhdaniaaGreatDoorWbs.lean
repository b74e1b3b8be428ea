/-
  What plainAhead answers; what its parts may be.
  What Get answers.
-/
import Derived.Test.YtmplpdjkhdaniaaGreatDoorWbm
import Derived.Test.YtmplpdjkhdaniaaGreatDoorWbk
import Derived.Test.YtmplpdjkhdaniaaGreatDoorWbo
import Derived.Test.YtmplpdjkhdaniaaGreatDoorWbp
import Derived.Test.YtmplpdjkhdaniaaGreatDoorWbn
import Derived.Test.YtmplpdjkhdaniaaGreatDoorWbq
import Derived.Test.YtmplpdjkhdaniaaGreatDoorWbr
import Derived.Test.YtmplpdjkhdaniaaGreatDoorWbl
import Derived.Test.YtmplpdjkhdaniaaGreatDoorWbi
namespace Go.Proofs.YtmplpdjkhdaniaaGreatDoor
open Go.RowKit Go.Shelf
set_option maxRecDepth 100000

theorem aheadF_any (v : Value) (xs : List Int) (w : World) (ht : Tb w) (h : Sl w v xs) (hl : xs.length ≤ 100000) :
    Calls Tryz.prog 36 #[v] w fun e w' => ∃ sv, e = .returned (.tuple #[.agg (plA (ahM xs).1 sv), .int .i64 (ahM xs).2.1, .int .i64 (ahM xs).2.2]) ∧ RSp w' w.heap.size sv (ahM xs).1.sp ∧ Below w.heap.size w w' := by
  cases xs with
  | nil => exact ahd0 v w ht h hl
  | cons x ys =>
    by_cases hx : isK x = false
    · exact ahdB v x ys hx w ht h hl
    · have hk : isK x = true := by simpa using hx
      unfold isK at hk
      simp at hk
      rcases (by omega : x = 1 ∨ x = 2 ∨ x = 3 ∨ x = 4 ∨ x = 5 ∨ x = 6 ∨ x = 7 ∨ x = 8 ∨ x = 9 ∨ x = 10) with e | e | e | e | e | e | e | e | e | e
      · subst e; exact ahd1 v ys w ht h hl
      · subst e; exact ahd2 v ys w ht h hl
      · subst e; exact ahd3 v ys w ht h hl
      · subst e; exact ahd4 v ys w ht h hl
      · subst e; exact ahd5 v ys w ht h hl
      · subst e; exact ahd6 v ys w ht h hl
      · subst e; exact ahd7 v ys w ht h hl
      · subst e; exact ahd8 v ys w ht h hl
      · subst e; exact ahd9 v ys w ht h hl
      · subst e; exact ahd10 v ys w ht h hl
end Go.Proofs.YtmplpdjkhdaniaaGreatDoor
namespace Go.Proofs.YtmplpdjkhdaniaaGreatDoor
open Go.RowKit Go.Shelf
set_option maxRecDepth 100000

set_option maxHeartbeats 8000000 in
theorem getF_any (v : Value) (xs : List Int) (w : World) (ht : Tb w) (h : Sl w v xs) (hl : xs.length ≤ 9000000000000000000) :
    Calls Tryz.prog 14 #[v] w fun e w' => ∃ sv, e = .returned (.tuple #[frV (getM xs).1 sv, .int .i64 (getM xs).2.1, .int .i64 (getM xs).2.2]) ∧ RSp w' w.heap.size sv (spO (getM xs).1) ∧ Below w.heap.size w w' := by
  obtain ⟨a, c, rfl, hlc, hcm, hnn, -⟩ := id h
  obtain ⟨m, hm⟩ : ∃ m, m = min xs.length 1150 := ⟨_, rfl⟩
  have hxl : (xs.take 1150).length = m := by rw [List.length_take, hm, Nat.min_comm]
  have hta := h.take m (by omega)
  rw [show xs.take m = xs.take 1150 by rcases Nat.le_total xs.length 1150 with q | q
                                       · rw [hm, Nat.min_eq_left q, List.take_length, List.take_of_length_le q]
                                       · rw [hm, Nat.min_eq_right q]] at hta
  have ca := aheadF_any (.slice a m c) (xs.take 1150) w ht hta (by omega)
  have HK : Hid (FK (ahM (xs.take 1150)).1 ∧ (ahM (xs.take 1150)).1.sp.length ≤ 100000 ∧ (ahM (xs.take 1150)).1.tx.size ≤ 140737488355328) := ahM_fk _ hta.bytes (by omega)
  have HGM : Hid (getM xs = if (ahM (xs.take 1150)).2.2 ≠ 0 then errM (ahM (xs.take 1150)).2.2 else endM (ahM (xs.take 1150)).1 (ahM (xs.take 1150)).2.1) := rfl
  have emin : min (xs.length : Int) 1150 = (m : Int) := by omega
  have e1 : (m : Int) ≤ (c : Int) := by omega
  have e2 : 0 ≤ (m : Int) := by omega
  have hmx : c ≤ 9223372036854775807 := by unfold maxLen at hcm; omega
  have hna : a = none → m = 0 ∧ c = 0 := fun e => by have := hnn e; omega
  have HT : Hid (Tb w) := ht
  clear h hta ht hnn hm hxl hcm
  generalize ahM (xs.take 1150) = GA at *
  obtain ⟨p, gu, ge⟩ := GA
  simp only at ca HK HGM
  have HSZ : Hid (∀ v, (Tryz.prog.info? 33).map (·.size) = some (plA p v).size) := fun v => by rw [plA_size HK.out.1.nl]; exact infoP
  have HSL : Hid (∀ v, (Tryz.prog.info? 33).map (·.size) = some (plL p v).length) := fun v => by rw [plL_len HK.out.1.nl]; exact infoP
  have HON : Hid (∀ (a : Option Addr) (m c : Nat), (plA p (.slice a m c)).all (·.oneCell') = true) := fun a m c => all_oneCell_toArray (plL_one rfl)
  have HO23 : Hid (∀ v, (plA Fm.zero (.slice none 0 0)).size = (plA p v).size) := fun v => by rw [plA_size HK.out.1.nl]; rfl
  generalize xs.length = n9 at *
  cases a with
  | none =>
    obtain ⟨rfl, rfl⟩ := hna rfl
    clear hna
    go_enter Tryz.func14, Tryz.ntmps14
    go_wp2_with fail
    refine ca.mono ?_
    rintro e w1 ⟨s1, rfl, r1, b1⟩
    obtain ⟨sa, sc, rfl, -, -, -⟩ := r1.is.shape
    obtain ⟨W2, hW2⟩ : ∃ W2, W2 = w1.alloc (.cells (plA p (.slice sa p.sp.length sc)) 33) := ⟨_, rfl⟩
    have b2 : Below w1.heap.size w1 W2 := by rw [hW2]; exact al_below _ _
    have HB2 : Hid (Below w.heap.size w W2) := b1.trans (b2.mono b1.size)
    have hal := alloc_pl (w := w1) p (.slice sa p.sp.length sc) 33 #[.int .u8 0, .int .i64 0, .int .i64 0, .int .i64 0, .bool false, .string ⟨#[]⟩, .int .u8 0, .int .u8 0, .int .u8 0, .int .u8 0, .int .u8 0, .int .u8 0, .int .u8 0, .int .u8 0, .int .u8 0, .int .u8 0, .int .u8 0, .int .u8 0, .int .u8 0, .int .u8 0, .int .u8 0, .int .u8 0, .slice none 0 0] rfl
    rw [← hW2] at hal
    have HAL : Hid ((w1.alloc (.cells #[.int .u8 0, .int .i64 0, .int .i64 0, .int .i64 0, .bool false, .string ⟨#[]⟩, .int .u8 0, .int .u8 0, .int .u8 0, .int .u8 0, .int .u8 0, .int .u8 0, .int .u8 0, .int .u8 0, .int .u8 0, .int .u8 0, .int .u8 0, .int .u8 0, .int .u8 0, .int .u8 0, .int .u8 0, .int .u8 0, .slice none 0 0] 33)).setRow w1.heap.size (plA p (.slice sa p.sp.length sc)) = W2) := hal
    have HNEW : Hid ((w1.alloc (.cells #[.int .u8 0, .int .i64 0, .int .i64 0, .int .i64 0, .bool false, .string ⟨#[]⟩, .int .u8 0, .int .u8 0, .int .u8 0, .int .u8 0, .int .u8 0, .int .u8 0, .int .u8 0, .int .u8 0, .int .u8 0, .int .u8 0, .int .u8 0, .int .u8 0, .int .u8 0, .int .u8 0, .int .u8 0, .int .u8 0, .slice none 0 0] 33)).heap[w1.heap.size]? = some (.cells #[.int .u8 0, .int .i64 0, .int .i64 0, .int .i64 0, .bool false, .string ⟨#[]⟩, .int .u8 0, .int .u8 0, .int .u8 0, .int .u8 0, .int .u8 0, .int .u8 0, .int .u8 0, .int .u8 0, .int .u8 0, .int .u8 0, .int .u8 0, .int .u8 0, .int .u8 0, .int .u8 0, .int .u8 0, .int .u8 0, .slice none 0 0] 33 (0, 0))) := heap_alloc_new _ _
    have g2 : PF W2 w1.heap.size 33 p (.slice sa p.sp.length sc) := by rw [hW2]; exact PF.new w1 _ p _
    have HG2 : Hid (PF W2 w1.heap.size 33 p (.slice sa p.sp.length sc)) := g2
    have HI2 : Hid (FI W2 p (.slice sa p.sp.length sc)) := ⟨HK.out.1, (r1.is).kept b2, HK.out.2.1, HK.out.2.2⟩
    have HR2 : Hid (W2.rangeAt w1.heap.size 0 (plL p (.slice sa p.sp.length sc))) := g2.range
    clear ca b1 r1 b2 hW2 hal g2
    go_wp2_with (refine wpList_store_row rfl 33 _ _ rfl w1.heap.size (plA p (.slice sa p.sp.length sc)) rfl rfl 33 _ HNEW.out (HSZ.out _) (HO23.out _) (HON.out _ _ _) (Hid.out ?_))
    unfold Hid
    rw [HAL.out]
    by_cases h0 : ge = 0
    · have cc := checkF_any p _ W2 (HT.out.next HB2.out) HI2.out
      have tg : (ge == 0) = true := by rw [h0]; rfl
      have HG0 : Hid (getM xs = endM p gu) := by unfold Hid; rw [HGM.out, h0]; rfl
      clear h0 HGM HAL HNEW
      go_wp2_with (refine wpList_load_mid rfl 33 _ rfl w1.heap.size 0 rfl (plL p (.slice sa p.sp.length sc)) _ HR2.out Tryz.underlying33 rfl (HSL.out _) (Hid.out ?_))
      unfold Hid
      go_wp2_with fail
      refine cc.mono ?_
      rintro e w3 ⟨rfl, b3⟩
      have HB3 : Hid (Below w.heap.size w w3) := HB2.out.trans (b3.mono HB2.out.size)
      have HR3 : Hid (w3.rangeAt w1.heap.size 0 (plL p (.slice sa p.sp.length sc))) := (HG2.out.kept b3).range
      have HI3 : Hid (FI w3 p (.slice sa p.sp.length sc)) := HI2.out.kept b3
      clear cc b3 HR2 HI2 HG2
      by_cases hc : chkM p = 0
      · have cb := buildF_any p _ w3 HI3.out
        have tc : (chkM p != 0) = false := by rw [hc]; rfl
        have HGG : Hid (getM xs = (p, gu, 0)) := by unfold Hid; rw [HG0.out]; unfold endM; rw [if_pos hc]
        clear hc HG0
        go_wp2_with (refine wpList_load_mid rfl 33 _ rfl w1.heap.size 0 rfl (plL p (.slice sa p.sp.length sc)) _ HR3.out Tryz.underlying33 rfl (HSL.out _) (Hid.out ?_))
        unfold Hid
        go_wp2_with fail
        refine cb.mono ?_
        rintro e w4 ⟨s4, rfl, r4, b4⟩
        have HB4 : Hid (Below w.heap.size w w4) := HB3.out.trans (b4.mono HB3.out.size)
        have HR4 : Hid (RSp w4 w.heap.size s4 (spO p)) := RSp.mono r4 HB3.out.size
        clear cb r4 b4 HR3
        go_wp2
        go_ret3
        exact ⟨s4, by rw [HGG.out]; rfl, by rw [HGG.out]; exact HR4.out, HB4.out⟩
      · have tc : (chkM p != 0) = true := by simpa using hc
        have HGG : Hid (getM xs = errM (chkM p)) := by unfold Hid; rw [HG0.out]; unfold endM; rw [if_neg hc]
        have HNIL : Hid (RSp w3 w.heap.size (.slice none 0 0) (spO (errM (chkM p)).1)) := RI.nil _ _ _ _
        clear hc HG0
        go_wp2
        go_ret3
        exact ⟨_, by rw [HGG.out]; rfl, by rw [HGG.out]; exact HNIL.out, HB3.out⟩
    · have tg : (ge == 0) = false := by simpa using h0
      have tg2 : (ge != 0) = true := by simpa using h0
      have HGG : Hid (getM xs = errM ge) := by unfold Hid; rw [HGM.out, if_pos h0]
      have HNIL : Hid (RSp W2 w.heap.size (.slice none 0 0) (spO (errM ge).1)) := RI.nil _ _ _ _
      clear h0 HGM HAL HNEW
      go_wp2
      go_ret3
      exact ⟨_, by rw [HGG.out]; rfl, by rw [HGG.out]; exact HNIL.out, HB2.out⟩
  | some x =>
    clear hna
    go_enter Tryz.func14, Tryz.ntmps14
    go_wp2_with fail
    refine ca.mono ?_
    rintro e w1 ⟨s1, rfl, r1, b1⟩
    obtain ⟨sa, sc, rfl, -, -, -⟩ := r1.is.shape
    obtain ⟨W2, hW2⟩ : ∃ W2, W2 = w1.alloc (.cells (plA p (.slice sa p.sp.length sc)) 33) := ⟨_, rfl⟩
    have b2 : Below w1.heap.size w1 W2 := by rw [hW2]; exact al_below _ _
    have HB2 : Hid (Below w.heap.size w W2) := b1.trans (b2.mono b1.size)
    have hal := alloc_pl (w := w1) p (.slice sa p.sp.length sc) 33 #[.int .u8 0, .int .i64 0, .int .i64 0, .int .i64 0, .bool false, .string ⟨#[]⟩, .int .u8 0, .int .u8 0, .int .u8 0, .int .u8 0, .int .u8 0, .int .u8 0, .int .u8 0, .int .u8 0, .int .u8 0, .int .u8 0, .int .u8 0, .int .u8 0, .int .u8 0, .int .u8 0, .int .u8 0, .int .u8 0, .slice none 0 0] rfl
    rw [← hW2] at hal
    have HAL : Hid ((w1.alloc (.cells #[.int .u8 0, .int .i64 0, .int .i64 0, .int .i64 0, .bool false, .string ⟨#[]⟩, .int .u8 0, .int .u8 0, .int .u8 0, .int .u8 0, .int .u8 0, .int .u8 0, .int .u8 0, .int .u8 0, .int .u8 0, .int .u8 0, .int .u8 0, .int .u8 0, .int .u8 0, .int .u8 0, .int .u8 0, .int .u8 0, .slice none 0 0] 33)).setRow w1.heap.size (plA p (.slice sa p.sp.length sc)) = W2) := hal
    have HNEW : Hid ((w1.alloc (.cells #[.int .u8 0, .int .i64 0, .int .i64 0, .int .i64 0, .bool false, .string ⟨#[]⟩, .int .u8 0, .int .u8 0, .int .u8 0, .int .u8 0, .int .u8 0, .int .u8 0, .int .u8 0, .int .u8 0, .int .u8 0, .int .u8 0, .int .u8 0, .int .u8 0, .int .u8 0, .int .u8 0, .int .u8 0, .int .u8 0, .slice none 0 0] 33)).heap[w1.heap.size]? = some (.cells #[.int .u8 0, .int .i64 0, .int .i64 0, .int .i64 0, .bool false, .string ⟨#[]⟩, .int .u8 0, .int .u8 0, .int .u8 0, .int .u8 0, .int .u8 0, .int .u8 0, .int .u8 0, .int .u8 0, .int .u8 0, .int .u8 0, .int .u8 0, .int .u8 0, .int .u8 0, .int .u8 0, .int .u8 0, .int .u8 0, .slice none 0 0] 33 (0, 0))) := heap_alloc_new _ _
    have g2 : PF W2 w1.heap.size 33 p (.slice sa p.sp.length sc) := by rw [hW2]; exact PF.new w1 _ p _
    have HG2 : Hid (PF W2 w1.heap.size 33 p (.slice sa p.sp.length sc)) := g2
    have HI2 : Hid (FI W2 p (.slice sa p.sp.length sc)) := ⟨HK.out.1, (r1.is).kept b2, HK.out.2.1, HK.out.2.2⟩
    have HR2 : Hid (W2.rangeAt w1.heap.size 0 (plL p (.slice sa p.sp.length sc))) := g2.range
    clear ca b1 r1 b2 hW2 hal g2
    go_wp2_with (refine wpList_store_row rfl 33 _ _ rfl w1.heap.size (plA p (.slice sa p.sp.length sc)) rfl rfl 33 _ HNEW.out (HSZ.out _) (HO23.out _) (HON.out _ _ _) (Hid.out ?_))
    unfold Hid
    rw [HAL.out]
    by_cases h0 : ge = 0
    · have cc := checkF_any p _ W2 (HT.out.next HB2.out) HI2.out
      have tg : (ge == 0) = true := by rw [h0]; rfl
      have HG0 : Hid (getM xs = endM p gu) := by unfold Hid; rw [HGM.out, h0]; rfl
      clear h0 HGM HAL HNEW
      go_wp2_with (refine wpList_load_mid rfl 33 _ rfl w1.heap.size 0 rfl (plL p (.slice sa p.sp.length sc)) _ HR2.out Tryz.underlying33 rfl (HSL.out _) (Hid.out ?_))
      unfold Hid
      go_wp2_with fail
      refine cc.mono ?_
      rintro e w3 ⟨rfl, b3⟩
      have HB3 : Hid (Below w.heap.size w w3) := HB2.out.trans (b3.mono HB2.out.size)
      have HR3 : Hid (w3.rangeAt w1.heap.size 0 (plL p (.slice sa p.sp.length sc))) := (HG2.out.kept b3).range
      have HI3 : Hid (FI w3 p (.slice sa p.sp.length sc)) := HI2.out.kept b3
      clear cc b3 HR2 HI2 HG2
      by_cases hc : chkM p = 0
      · have cb := buildF_any p _ w3 HI3.out
        have tc : (chkM p != 0) = false := by rw [hc]; rfl
        have HGG : Hid (getM xs = (p, gu, 0)) := by unfold Hid; rw [HG0.out]; unfold endM; rw [if_pos hc]
        clear hc HG0
        go_wp2_with (refine wpList_load_mid rfl 33 _ rfl w1.heap.size 0 rfl (plL p (.slice sa p.sp.length sc)) _ HR3.out Tryz.underlying33 rfl (HSL.out _) (Hid.out ?_))
        unfold Hid
        go_wp2_with fail
        refine cb.mono ?_
        rintro e w4 ⟨s4, rfl, r4, b4⟩
        have HB4 : Hid (Below w.heap.size w w4) := HB3.out.trans (b4.mono HB3.out.size)
        have HR4 : Hid (RSp w4 w.heap.size s4 (spO p)) := RSp.mono r4 HB3.out.size
        clear cb r4 b4 HR3
        go_wp2
        go_ret3
        exact ⟨s4, by rw [HGG.out]; rfl, by rw [HGG.out]; exact HR4.out, HB4.out⟩
      · have tc : (chkM p != 0) = true := by simpa using hc
        have HGG : Hid (getM xs = errM (chkM p)) := by unfold Hid; rw [HG0.out]; unfold endM; rw [if_neg hc]
        have HNIL : Hid (RSp w3 w.heap.size (.slice none 0 0) (spO (errM (chkM p)).1)) := RI.nil _ _ _ _
        clear hc HG0
        go_wp2
        go_ret3
        exact ⟨_, by rw [HGG.out]; rfl, by rw [HGG.out]; exact HNIL.out, HB3.out⟩
    · have tg : (ge == 0) = false := by simpa using h0
      have tg2 : (ge != 0) = true := by simpa using h0
      have HGG : Hid (getM xs = errM ge) := by unfold Hid; rw [HGM.out, if_pos h0]
      have HNIL : Hid (RSp W2 w.heap.size (.slice none 0 0) (spO (errM ge).1)) := RI.nil _ _ _ _
      clear h0 HGM HAL HNEW
      go_wp2
      go_ret3
      exact ⟨_, by rw [HGG.out]; rfl, by rw [HGG.out]; exact HNIL.out, HB2.out⟩
end Go.Proofs.YtmplpdjkhdaniaaGreatDoor
