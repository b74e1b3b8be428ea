/-
  What the document's Seal and Open answer: just the bytes that crc's do; nothing that was there is changed.
-/
import Derived.Test.YtecmdhbalcenfaaDoorAwake
import Derived.Deep.RegionHeld3
namespace Go.Proofs.YtecmdhbalcenfaaDoor
open Go.RowKit

theorem own_below {w w' : World} {base : Nat} {e : TypeId} {size : Nat} {v : Value} {n : Nat} {xs : List Value} (h : w.ownsRow base e size v n xs) (hb : Below w.heap.size w w') : w'.ownsRow base e size v n xs := by
  obtain ⟨h1, h2⟩ := h
  rcases h2 with h2 | ⟨g, cap, cur, hv, hg, hh, r⟩
  · exact ⟨h1, .inl h2⟩
  · exact ⟨h1, .inr ⟨g, cap, cur, hv, hg, by rw [hb.block g (Array.getElem?_eq_some_iff.1 hh).1]; exact hh, r⟩⟩

theorem own_empty (w : World) : (w.alloc (.cells #[] 5)).ownsRow w.heap.size 5 1 (.slice (some ⟨w.heap.size, 0, none⟩) 0 0) 0 [] :=
  World.ownsRow_made (base := w.heap.size) (e := 5) (size := 1) w #[] 0 (Nat.le_refl _) (by unfold maxLen; omega) rfl

set_option maxHeartbeats 1000000 in
theorem rseal_any (v : Value) (xs : List Int) (w : World) (sl : Sl w v xs) (hbig : xs.length ≤ 100000000000000) :
    Calls Tryd.prog 18 #[v] w fun r w' => ∃ v', r = .returned v' ∧ Sl w' v' (xs ++ leB (sumOf xs)) ∧ Below w.heap.size w w' := by
  have hown0 := own_empty w
  have hb0 : Below w.heap.size w (w.alloc (.cells #[] 5)) := (Below.refl _ _).alloc (Nat.le_refl _) _
  have sl0 := sl.kept hb0
  have hsb := seal_bytes sl.bytes
  have HSB : Hid (∀ i, 0 ≤ (xs ++ leB (sumOf xs)).getD i 0 ∧ (xs ++ leB (sumOf xs)).getD i 0 < 256) := hsb
  have HSL : Hid (∀ w', Below w.heap.size w w' → Sl w' v xs) := fun w' hb => sl.kept hb
  clear hsb
  obtain ⟨a, cap, rfl, _⟩ := id sl
  clear sl
  generalize hC : sumOf xs = C at *
  have HC : Hid (sumOf xs = C) := hC
  clear hC
  go_enter Tryd.func18, Tryd.ntmps18
  go_wp2_with (at_builtin; refine wpList_append_sl rfl _ _ rfl w.heap.size _ _ _ rfl hown0 _ xs rfl sl0 (by omega) (by simp) ?_)
  intro v1 w1 own1 hgrow
  have B1 : Below w.heap.size w w1 := hb0.grown hgrow (by simp) (own_base hown0)
  have c1 := rof_any _ xs w1 (HSL.out _ B1)
  rw [HC.out] at c1
  have c2 := rbytes_any C w1
  clear hown0 hgrow hb0 sl0 HSL
  have HL : Hid (xs.length ≤ 100000000000000) := hbig
  have HO : Hid (w1.ownsRow w.heap.size 5 1 v1 xs.length (xs.map (Value.int .u8))) := own1
  clear own1
  go_wp2_with fail
  refine c1.mono ?_
  rintro e w2 ⟨rfl, e2⟩
  rw [e2]
  clear c1 e2
  go_wp2_with fail
  refine c2.mono ?_
  rintro e w3 ⟨v3, rfl, sl3, bel3⟩
  clear c2
  have hob := own_base HO.out
  have own3 : w3.ownsRow w.heap.size 5 1 v1 xs.length (xs.map (Value.int .u8)) := own_below HO.out bel3
  have B3 : Below w.heap.size w w3 := B1.trans (bel3.mono B1.size)
  obtain ⟨a3, cap3, rfl, _⟩ := id sl3
  go_wp2_with (at_builtin; refine wpList_append_sl rfl _ _ rfl w.heap.size _ _ _ rfl own3 _ (leB C) rfl sl3 (by rw [leB_len]; omega) B3.size ?_)
  intro v4 w4 own4 hgrow
  have B4 : Below w.heap.size w w4 := B3.grown hgrow B3.size hob
  have HS : Hid (Sl w4 v4 (xs ++ leB C)) := sl_owned (n := xs.length + (leB C).length) (by rw [List.map_append]; exact own4) HSB.out
  clear own3 own4 hgrow sl3 bel3 hob B3 B1
  go_wp2
  go_ret
  exact ⟨_, rfl, HS.out, B4⟩

set_option maxHeartbeats 1000000 in
theorem ropen_any (v : Value) (ys : List Int) (w : World) (sl : Sl w v ys) (hbig : ys.length ≤ 100000000000000) :
    Calls Tryd.prog 16 #[v] w fun r w' => ∃ v', r = .returned (.tuple #[v', .int .i64 (opE ys)]) ∧ Sl w' v' (opX ys) ∧ Below w.heap.size w w' := by
  obtain ⟨a, cap, rfl, h1, h2, h3, h4⟩ := id sl
  by_cases hs : ys.length < 4
  · have e1 : opE ys = 3 := by unfold opE; rw [if_pos hs]
    have e2 : opX ys = [] := by unfold opX; rw [e1]; rfl
    rw [e1, e2]
    clear e1 e2 sl h4 h3
    generalize ys.length = L at *
    go_enter Tryd.func16, Tryd.ntmps16
    go_wp2
    go_ret2
    exact ⟨_, rfl, Sl.none _, Below.refl _ _⟩
  · obtain ⟨b, off, rfl⟩ : ∃ b off, a = some ⟨b, off, none⟩ := by
      rcases h4 with h | ⟨_, b, off, e, _⟩
      · omega
      · exact ⟨b, off, e⟩
    have st := sl.take (ys.length - 4) (by omega)
    have sd := sl.drop (ys.length - 4) (by omega)
    have hX : Hid (opE ys = if ys.drop (ys.length - 4) = leB (sumOf (ys.take (ys.length - 4))) then 0 else 14) := by unfold Hid opE; rw [if_neg hs]
    have hY : Hid (opX ys = if opE ys = 0 then ys.take (ys.length - 4) else []) := rfl
    have hlt : (ys.take (ys.length - 4)).length = ys.length - 4 := by rw [List.length_take]; omega
    have hby := bytes_take ys (ys.length - 4) sl.bytes
    have hqq := strB_beq (leB_bytes (sumOf (ys.take (ys.length - 4)))) (bytes_drop ys (ys.length - 4) sl.bytes)
    generalize opX ys = X at *
    generalize opE ys = E at *
    generalize ys.take (ys.length - 4) = A at *
    generalize ys.drop (ys.length - 4) = D at *
    have bd : Below w.heap.size w w.drew := (Below.refl _ w).drew
    have c1 := rof_any _ A w.drew (st.kept bd)
    have c2 := rbytes_any (sumOf A) w.drew
    have hby : Hid (∀ i, 0 ≤ A.getD i 0 ∧ A.getD i 0 < 256) := hby
    have HT : Hid (∀ w', Below w.heap.size w w' → Sl w' (.slice (some ⟨b, off, none⟩) (ys.length - 4) cap) A) := fun w' hb => st.kept hb
    have HCV : Hid (∀ w', Below w.heap.size w w' → (convert 23 9 (.slice (some ⟨b, off + (ys.length - 4), none⟩) (ys.length - (ys.length - 4)) (cap - (ys.length - 4)))).run Tryd.prog w' = .ok (.string (strB D)) w') := fun w' hb => (sd.kept hb).conv
    have cv0 := HCV.out _ bd
    clear sl h4 h3 st sd
    generalize sumOf A = C at *
    have hln : ys.length - (ys.length - 4) = 4 := by omega
    rw [hln] at HCV cv0
    clear hln
    generalize ys.length = L at *
    obtain ⟨M, rfl⟩ : ∃ M, L = M + 4 := ⟨L - 4, by omega⟩
    rw [show M + 4 - 4 = M by omega] at HT HCV cv0 c1 hlt
    have hcM : ¬ cap = M := by omega
    unfold maxLen at h2
    have hi1 : (M : Int) ≤ (cap : Int) := by omega
    have hi2 : (M : Int) ≤ (M : Int) + 4 := by omega
    have hi3 : (0 : Int) ≤ (M : Int) := by omega
    have hi4 : M ≤ cap := by omega
    have HLT : Hid (A.length = M) := hlt
    have HBD : Hid (Below w.heap.size w w.drew) := bd
    clear hlt bd
    have HQ : Hid ((D = leB C) ∨ ¬ (D = leB C)) := Classical.em _
    rcases HQ.out with hq | hq
    · have hqt : ((strB (leB C)).toList == (strB D).toList) = true := by rw [hqq]; simp [hq]
      have hE : E = 0 := by rw [hX.out, if_pos hq]
      have hXA : X = A := by rw [hY.out, if_pos hE]
      subst hE hXA
      clear hq hX hY hqq HQ
      have HSL : Hid (∀ w' v', Sl w' v' (leB C) → ∃ a' c', v' = .slice a' 4 c' ∧ (convert 23 9 (.slice a' 4 c')).run Tryd.prog w' = .ok (.string (strB (leB C))) w') := fun w' v' h => by
        obtain ⟨a', c', rfl, _⟩ := id h
        exact ⟨a', c', rfl, h.conv⟩
      generalize strB (leB C) = S1 at *
      generalize strB D = S2 at *
      go_enter Tryd.func16, Tryd.ntmps16
      go_wp2
      go_region_with (first | (go_at_call 10; refine c1.mono ?_; rintro e w4 ⟨rfl, e4⟩; rw [e4]) | (go_at_call 14; refine c2.mono ?_; rintro e w5 ⟨v5, rfl, sl5, bel5⟩; obtain ⟨a5, c5, rfl, cv5⟩ := HSL.out _ _ sl5; have cv6 := HCV.out _ (HBD.out.trans (bel5.mono HBD.out.size))))
      all_goals
        have B5 : Below w.heap.size w w5 := HBD.out.trans (bel5.mono HBD.out.size)
        have B6 : Below w.heap.size w (w5.alloc (.cells #[] 5)) := B5.alloc B5.size _
        have own6 := own_empty w5
        have slA := HT.out _ B6
        have hbase : w5.heap.size ≤ (w5.alloc (.cells #[] 5)).heap.size := by simp
        clear cv5 cv6 sl5 bel5 HT HCV HSL
        go_wp2_with (at_builtin; refine wpList_append_sl rfl _ _ rfl w5.heap.size _ _ _ rfl own6 _ X rfl slA (by rw [HLT.out]; omega) hbase ?_)
        intro v7 w7 own7 hgrow
        have B7 : Below w.heap.size w w7 := B6.grown hgrow B6.size (fun k hk => Nat.le_trans B5.size (own_base own6 k hk))
        have HS : Hid (Sl w7 v7 X) := sl_owned own7 hby.out
        clear own6 own7 hgrow slA
        go_wp2
        go_ret2
        exact ⟨_, rfl, HS.out, B7⟩
    · have hqt : ((strB (leB C)).toList == (strB D).toList) = false := by rw [hqq]; simp only [decide_eq_false_iff_not]; exact fun e => hq e.symm
      have hE : E = 14 := by rw [hX.out, if_neg hq]
      have hXA : X = [] := by rw [hY.out, if_neg (by rw [hE]; decide)]
      subst hE hXA
      clear hq hX hY hqq HQ
      have HSL : Hid (∀ w' v', Sl w' v' (leB C) → ∃ a' c', v' = .slice a' 4 c' ∧ (convert 23 9 (.slice a' 4 c')).run Tryd.prog w' = .ok (.string (strB (leB C))) w') := fun w' v' h => by
        obtain ⟨a', c', rfl, _⟩ := id h
        exact ⟨a', c', rfl, h.conv⟩
      generalize strB (leB C) = S1 at *
      generalize strB D = S2 at *
      go_enter Tryd.func16, Tryd.ntmps16
      go_wp2
      go_region_with (first | (go_at_call 10; refine c1.mono ?_; rintro e w4 ⟨rfl, e4⟩; rw [e4]) | (go_at_call 14; refine c2.mono ?_; rintro e w5 ⟨v5, rfl, sl5, bel5⟩; obtain ⟨a5, c5, rfl, cv5⟩ := HSL.out _ _ sl5; have cv6 := HCV.out _ (HBD.out.trans (bel5.mono HBD.out.size))))
      all_goals
        have B5 : Below w.heap.size w w5 := HBD.out.trans (bel5.mono HBD.out.size)
        clear cv5 cv6 sl5 bel5 HT HCV HSL
        go_wp2
        go_ret2
        exact ⟨_, rfl, Sl.none _, B5⟩
end Go.Proofs.YtecmdhbalcenfaaDoor
