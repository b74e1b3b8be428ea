/-
  What Put answers.
-/
import Derived.Test.YtajcabfeabbknaaGreatDoorPc
import Derived.Test.YtajcabfeabbknaaGreatDoorJ2
import Derived.Test.YtajcabfeabbknaaGreatDoorCp
import Derived.Test.YtajcabfeabbknaaGreatDoorTq
import Derived.Deep.RegionWith
namespace Go.Proofs.YtajcabfeabbknaaGreatDoor
open Go.RowKit

set_option maxHeartbeats 4000000 in
theorem put_any (v u : Value) (l : List En) (x : En) (w : World) (h : ES w v l) (hl : Lt l) (hx : EV w u x) (hs : x.p.size ≤ 1000) (hz : x.z.length ≤ 100000) (hm : Mx w) :
    Calls Tryz.prog 45 #[v, u] w fun e w' => ∃ v', e = .returned (.tuple #[v', .int .i64 (put l x).2]) ∧ OE w' w.heap.size v' (put l x).1 ∧ Below w.heap.size w w' := by
  obtain ⟨a, c, rfl, g2, _, g3n⟩ := h.shape
  obtain ⟨ua, un, uc, rfl, sl⟩ := hx
  have G3 : Hid (a = none → c = 0) := g3n
  clear g3n
  have HS : Hid (ES w (.slice a l.length c) l) := h
  have HL : Hid (Lt l) := hl
  have HM : Hid (Mx w) := hm
  have hn := hl.1
  obtain ⟨W1, hW1⟩ : ∃ W1, W1 = w.alloc (.cells #[.string x.p, .bool x.d, .slice ua un uc] 46) := ⟨_, rfl⟩
  have b1 : Below w.heap.size w W1 := by rw [hW1]; exact (Below.refl _ _).alloc (Nat.le_refl _) _
  have B1 : Hid (Below w.heap.size w W1) := b1
  have K1 : Hid (W1.heap[w.heap.size]? = some (.cells #[.string x.p, .bool x.d, .slice ua un uc] 46 (0, 0))) := by unfold Hid; rw [hW1]; exact heap_alloc_new _ _
  have HT : Hid (∀ W, Below W1.heap.size W1 W → W.heap[w.heap.size]? = some (.cells #[.string x.p, .bool x.d, .slice ua un uc] 46 (0, 0))) := fun W hb => (hb.block _ (lt_of_block K1.out)).trans K1.out
  have CC := checkT_any _ l W1 (HS.out.kept b1) hl (hm.kept b1)
  have CP : Hid (∀ W, Below w.heap.size w W → Calls Tryz.prog 71 #[.slice a l.length c, .string x.p] W fun e w' => e = .returned (.int .i64 (plc l (dl x.p))) ∧ Below W.heap.size W w') := fun W hb => place_any _ l x.p W (HS.out.kept hb) hl (hm.kept hb) hs
  have hpl := plc_le l x.k
  have HR : Hid (put l x = if ckT l ≠ 0 then ([], ckT l) else if has l x = true ∧ (atE l (plc l x.k)).d ≠ x.d then ([], 9) else if ckT (mad l x) ≠ 0 then ([], ckT (mad l x)) else (mad l x, 0)) := rfl
  have HH : Hid (has l x = (decide (plc l x.k < l.length) && decide ((atE l (plc l x.k)).k = x.k))) := rfl
  have HMAD : Hid (mad l x = l.take (plc l x.k) ++ [x] ++ l.drop (if has l x then plc l x.k + 1 else plc l x.k)) := rfl
  have H64 : Hid (ckT l = 0 → l.length ≤ 64) := fun h => (ckT_all l h).1
  have HSX : Hid (∀ W, Below w.heap.size w W → EV W (.agg #[.string x.p, .bool x.d, .slice ua un uc]) x) := fun W hb => ⟨ua, un, uc, rfl, sl.kept hb⟩
  have HMS : Hid (∀ y ∈ mad l x, y.p.size ≤ 1000 ∧ y.z.length ≤ 100000) := fun y hy => by
    unfold mad at hy
    rw [List.mem_append, List.mem_append, List.mem_singleton] at hy
    rcases hy with (hy | rfl) | hy
    · exact hl.2 y (List.mem_of_mem_take hy)
    · exact ⟨hs, hz⟩
    · exact hl.2 y (List.mem_of_mem_drop hy)
  generalize put l x = R at *
  obtain ⟨M, hM⟩ : ∃ M, M = mad l x := ⟨_, rfl⟩
  rw [← hM] at HMAD HR HMS
  clear hM
  obtain ⟨n, hn'⟩ : ∃ n, n = l.length := ⟨_, rfl⟩
  have HN : Hid (n = l.length) := hn'
  rw [← hn'] at HS CP CC HH H64 g2 hn hpl ⊢
  generalize hk : plc l x.k = k at *
  generalize has l x = hb at *
  generalize ckT l = e1 at *
  clear h hl hm hn' b1 hs hz sl hk
  go_enter Tryz.func45, Tryz.ntmps45
  go_wp2_with fail
  rw [← hW1]
  clear hW1
  refine CC.mono ?_
  rintro e w2 ⟨rfl, b2⟩
  have D2 : Hid (Below W1.heap.size W1 w2) := b2
  have B2 : Hid (Below w.heap.size w w2) := B1.out.trans (b2.mono B1.out.size)
  obtain ⟨p0, p1, p2, -, -, -⟩ := trio (HT.out w2 b2)
  clear CC b2
  by_cases h1 : e1 = 0
  · subst h1
    have HR1 : Hid (R = if hb = true ∧ (atE l k).d ≠ x.d then ([], 9) else if ckT M ≠ 0 then ([], ckT M) else (M, 0)) := by unfold Hid; rw [HR.out, if_neg (by simp)]
    have h64 := H64.out rfl
    have cp := CP.out w2 B2.out
    clear HR CP
    go_wp2_with fail
    refine cp.mono ?_
    rintro e w3 ⟨rfl, b3⟩
    have D3 : Hid (Below W1.heap.size W1 w3) := D2.out.trans (b3.mono D2.out.size)
    have B3 : Hid (Below w.heap.size w w3) := B2.out.trans (b3.mono B2.out.size)
    clear b3 cp D2 B2 p0 p1 p2
    obtain ⟨p0, p1, p2, -, -, -⟩ := trio (HT.out w3 D3.out)
    have g4 : (k : Int) ≤ (c : Int) := by omega
    have g5 : (0 : Int) ≤ (k : Int) := by omega
    have g6 : (k : Int) ≤ (n : Int) := by omega
    by_cases hkn : k = n
    · subst hkn
      have hbf : hb = false := by rw [HH.out]; simp
      subst hbf
      have HR2 : Hid (R = if ckT M ≠ 0 then ([], ckT M) else (M, 0)) := by unfold Hid; rw [HR1.out, if_neg (by simp)]
      clear HR1
      by_cases hck : c = k
      · subst hck
        go_wp2_with fail
        go_quiet (fail)
        have bq : Below w3.heap.size w3 (w3.drewN nq) := ⟨rfl, rfl, rfl, Nat.le_refl _, fun _ _ => rfl⟩
        have D4 : Hid (Below W1.heap.size W1 (w3.drewN nq)) := D3.out.trans (bq.mono D3.out.size)
        have B4 : Hid (Below w.heap.size w (w3.drewN nq)) := B3.out.trans (bq.mono B3.out.size)
        generalize w3.drewN nq = w4 at *
        clear bq D3 B3 p0 p1 p2
        obtain ⟨p0, p1, p2, -, -, -⟩ := trio (HT.out w4 D4.out)
        have HP : Hid (∀ W, Below w4.heap.size w4 W → W.cell? ⟨w.heap.size, 0, none⟩ = some (.string x.p) ∧ W.cell? ⟨w.heap.size, 1, none⟩ = some (.bool x.d) ∧ W.cell? ⟨w.heap.size, 2, none⟩ = some (.slice ua un uc)) := fun W hb => ⟨(hb.cell (World.block_lt_of_cell? _ _ p0)).trans p0, (hb.cell (World.block_lt_of_cell? _ _ p1)).trans p1, (hb.cell (World.block_lt_of_cell? _ _ p2)).trans p2⟩
        have CJ := join3 w4 a c c c c l x ua un uc (.slice a 0 0) (HS.out.kept B4.out) ((HS.out.kept B4.out).dropE) (HSX.out w4 B4.out) (by omega) (by rw [← HN.out]; omega)
        have HM2 : Hid (M = l.take c ++ [x] ++ l.drop c) := by unfold Hid; rw [HMAD.out]; rfl
        rw [← HM2.out] at CJ
        have LM : Hid (Lt M) := ⟨by rw [HM2.out, List.length_append, List.length_append, List.length_take, List.length_drop, ← HN.out]; simp; omega, HMS.out⟩
        clear HM2 HMAD HSX HMS HT K1
        generalize x.p = xp at *
        generalize x.d = xd at *
        go_wp2_with fail
        go_region_held3 (fun W => W.cell? ⟨w.heap.size, 0, none⟩ = some (.string xp) ∧ W.cell? ⟨w.heap.size, 1, none⟩ = some (.bool xd) ∧ W.cell? ⟨w.heap.size, 2, none⟩ = some (.slice ua un uc)) (first | exact HP.out _ (Below.refl _ _) | exact HP.out _ (Below.refl _ _).drew | exact HP.out _ ((Below.refl _ _).alloc (Nat.le_refl _) _).drew | exact HP.out _ (((Below.refl _ _).alloc (Nat.le_refl _) _).alloc (by simp) _).drew | exact HP.out _ b5) (first
          | (go_at_call 70; refine CJ.mono ?_; rintro e w5 ⟨v5, rfl, es5, b5⟩))
        have B5 : Hid (Below w.heap.size w w5) := B4.out.trans (b5.mono B4.out.size)
        have S5 : Hid (ES w5 v5 M) := es5
        have ct := checkT_any v5 M w5 es5 LM.out (HM.out.kept B5.out)
        obtain ⟨a5, c5, rfl, -⟩ := es5.shape
        clear es5 b5 CJ HP
        generalize M.length = nM at *
        go_wp2_with fail
        refine ct.mono ?_
        rintro e w6 ⟨rfl, b6⟩
        have B6 : Hid (Below w.heap.size w w6) := B5.out.trans (b6.mono B5.out.size)
        have cy := copy_any _ M w6 (S5.out.kept b6) LM.out
        clear ct b6
        generalize ckT M = e2 at *
        by_cases h2 : e2 = 0
        · subst h2
          have HR3 : Hid (R = (M, 0)) := by unfold Hid; rw [HR2.out, if_neg (by simp)]
          clear HR2
          go_wp2_with fail
          refine cy.mono ?_
          rintro e w7 ⟨v7, rfl, o7, b7⟩
          have B7 : Hid (Below w.heap.size w w7) := B6.out.trans (b7.mono B6.out.size)
          have O7 : Hid (OE w7 w.heap.size v7 M) := o7.mono B6.out.size
          obtain ⟨a7, c7, rfl, -⟩ := o7.es.shape
          clear cy b7 o7
          generalize M.length = nM2 at *
          go_wp2
          go_ret2
          exact ⟨_, by rw [HR3.out]; rfl, by rw [HR3.out]; exact O7.out, B7.out⟩
        · have HR3 : Hid (R = ([], e2)) := by unfold Hid; rw [HR2.out, if_pos h2]
          have t2 : (e2 != 0) = true := by simp [h2]
          clear HR2 cy
          go_wp2
          go_ret2
          exact ⟨_, by rw [HR3.out]; rfl, by rw [HR3.out]; exact OE.nil _ _, B6.out⟩
      · cases a with
        | none => exact absurd (G3.out rfl) (by omega)
        | some y =>
          go_wp2_with fail
          go_quiet (fail)
          have bq : Below w3.heap.size w3 (w3.drewN nq) := ⟨rfl, rfl, rfl, Nat.le_refl _, fun _ _ => rfl⟩
          have D4 : Hid (Below W1.heap.size W1 (w3.drewN nq)) := D3.out.trans (bq.mono D3.out.size)
          have B4 : Hid (Below w.heap.size w (w3.drewN nq)) := B3.out.trans (bq.mono B3.out.size)
          generalize w3.drewN nq = w4 at *
          clear bq D3 B3 p0 p1 p2
          obtain ⟨p0, p1, p2, -, -, -⟩ := trio (HT.out w4 D4.out)
          have HP : Hid (∀ W, Below w4.heap.size w4 W → W.cell? ⟨w.heap.size, 0, none⟩ = some (.string x.p) ∧ W.cell? ⟨w.heap.size, 1, none⟩ = some (.bool x.d) ∧ W.cell? ⟨w.heap.size, 2, none⟩ = some (.slice ua un uc)) := fun W hb => ⟨(hb.cell (World.block_lt_of_cell? _ _ p0)).trans p0, (hb.cell (World.block_lt_of_cell? _ _ p1)).trans p1, (hb.cell (World.block_lt_of_cell? _ _ p2)).trans p2⟩
          have CJ := join3 w4 (some y) k c k k l x ua un uc (.slice (some (y.add (k * 3))) 0 (c - k)) (HS.out.kept B4.out) ((HS.out.kept B4.out).dropN k 0 (by omega) (by omega) hck) (HSX.out w4 B4.out) (by omega) (by rw [← HN.out]; omega)
          have HM2 : Hid (M = l.take k ++ [x] ++ l.drop k) := by unfold Hid; rw [HMAD.out]; rfl
          rw [← HM2.out] at CJ
          have LM : Hid (Lt M) := ⟨by rw [HM2.out, List.length_append, List.length_append, List.length_take, List.length_drop, ← HN.out]; simp; omega, HMS.out⟩
          clear HM2 HMAD HSX HMS HT K1
          generalize x.p = xp at *
          generalize x.d = xd at *
          go_wp2_with fail
          go_region_held3 (fun W => W.cell? ⟨w.heap.size, 0, none⟩ = some (.string xp) ∧ W.cell? ⟨w.heap.size, 1, none⟩ = some (.bool xd) ∧ W.cell? ⟨w.heap.size, 2, none⟩ = some (.slice ua un uc)) (first | exact HP.out _ (Below.refl _ _) | exact HP.out _ (Below.refl _ _).drew | exact HP.out _ ((Below.refl _ _).alloc (Nat.le_refl _) _).drew | exact HP.out _ (((Below.refl _ _).alloc (Nat.le_refl _) _).alloc (by simp) _).drew | exact HP.out _ b5) (first
            | (go_at_call 70; refine CJ.mono ?_; rintro e w5 ⟨v5, rfl, es5, b5⟩))
          have B5 : Hid (Below w.heap.size w w5) := B4.out.trans (b5.mono B4.out.size)
          have S5 : Hid (ES w5 v5 M) := es5
          have ct := checkT_any v5 M w5 es5 LM.out (HM.out.kept B5.out)
          obtain ⟨a5, c5, rfl, -⟩ := es5.shape
          clear es5 b5 CJ HP
          generalize M.length = nM at *
          go_wp2_with fail
          refine ct.mono ?_
          rintro e w6 ⟨rfl, b6⟩
          have B6 : Hid (Below w.heap.size w w6) := B5.out.trans (b6.mono B5.out.size)
          have cy := copy_any _ M w6 (S5.out.kept b6) LM.out
          clear ct b6
          generalize ckT M = e2 at *
          by_cases h2 : e2 = 0
          · subst h2
            have HR3 : Hid (R = (M, 0)) := by unfold Hid; rw [HR2.out, if_neg (by simp)]
            clear HR2
            go_wp2_with fail
            refine cy.mono ?_
            rintro e w7 ⟨v7, rfl, o7, b7⟩
            have B7 : Hid (Below w.heap.size w w7) := B6.out.trans (b7.mono B6.out.size)
            have O7 : Hid (OE w7 w.heap.size v7 M) := o7.mono B6.out.size
            obtain ⟨a7, c7, rfl, -⟩ := o7.es.shape
            clear cy b7 o7
            generalize M.length = nM2 at *
            go_wp2
            go_ret2
            exact ⟨_, by rw [HR3.out]; rfl, by rw [HR3.out]; exact O7.out, B7.out⟩
          · have HR3 : Hid (R = ([], e2)) := by unfold Hid; rw [HR2.out, if_pos h2]
            have t2 : (e2 != 0) = true := by simp [h2]
            clear HR2 cy
            go_wp2
            go_ret2
            exact ⟨_, by rw [HR3.out]; rfl, by rw [HR3.out]; exact OE.nil _ _, B6.out⟩
    · have hlt : k < n := by omega
      have lt1 : (k : Int) < (n : Int) := by omega
      obtain ⟨b, off, va, vn, vc, hab, c1, c2, c3, hvn, s1⟩ := (HS.out.kept B3.out).at k (by rw [← HN.out]; exact hlt)
      subst hab
      have tp := tl_beq (atE l k).p x.p
      have HH2 : Hid (hb = decide ((atE l k).p = x.p)) := by
        unfold Hid
        rw [HH.out, decide_eq_true hlt, Bool.true_and]
        have := congrFun (fp_eq x.p) (atE l k)
        exact this.symm
      clear hvn s1 HH
      rw [← HH2.out] at tp
      have HE : Hid (hb = true → (atE l k).d ≠ x.d → R = ([], 9)) := fun h1 h2 => by rw [HR1.out, if_pos ⟨h1, h2⟩]
      have HF : Hid (hb = false ∨ (atE l k).d = x.d → R = if ckT M ≠ 0 then ([], ckT M) else (M, 0)) := fun h => by
        rw [HR1.out, if_neg]
        rintro ⟨h1, h2⟩
        rcases h with h | h
        · rw [h1] at h; cases h
        · exact h2 h
      have C2 : Hid (∀ W, Below w3.heap.size w3 W → W.cell? ⟨b, off + k * 3 + 1, none⟩ = some (.bool (atE l k).d)) := fun W hb => (hb.cell (World.block_lt_of_cell? _ _ c2)).trans c2
      clear HR1 HH2 c2 c3
      generalize (atE l k).p = lp at *
      generalize (atE l k).d = ld at *
      cases hb with
      | false =>
        have HR2 : Hid (R = if ckT M ≠ 0 then ([], ckT M) else (M, 0)) := HF.out (.inl rfl)
        have hck : ¬ c = k := by omega
        clear HF HE C2
        go_wp2_with fail
        go_quiet (fail)
        clear c1 tp
        have bq : Below w3.heap.size w3 (w3.drewN nq) := ⟨rfl, rfl, rfl, Nat.le_refl _, fun _ _ => rfl⟩
        have D4 : Hid (Below W1.heap.size W1 (w3.drewN nq)) := D3.out.trans (bq.mono D3.out.size)
        have B4 : Hid (Below w.heap.size w (w3.drewN nq)) := B3.out.trans (bq.mono B3.out.size)
        generalize w3.drewN nq = w4 at *
        clear bq D3 B3 p0 p1 p2
        obtain ⟨p0, p1, p2, -, -, -⟩ := trio (HT.out w4 D4.out)
        have HP : Hid (∀ W, Below w4.heap.size w4 W → W.cell? ⟨w.heap.size, 0, none⟩ = some (.string x.p) ∧ W.cell? ⟨w.heap.size, 1, none⟩ = some (.bool x.d) ∧ W.cell? ⟨w.heap.size, 2, none⟩ = some (.slice ua un uc)) := fun W hb => ⟨(hb.cell (World.block_lt_of_cell? _ _ p0)).trans p0, (hb.cell (World.block_lt_of_cell? _ _ p1)).trans p1, (hb.cell (World.block_lt_of_cell? _ _ p2)).trans p2⟩
        have CJ := join3 w4 (some ⟨b, off, none⟩) n c k k l x ua un uc (.slice (some ⟨b, off + k * 3, none⟩) (n - k) (c - k)) (HS.out.kept B4.out) ((HS.out.kept B4.out).dropB k (n - k) (by omega) rfl (by omega)) (HSX.out w4 B4.out) (by omega) (by rw [← HN.out]; omega)
        have HM2 : Hid (M = l.take k ++ [x] ++ l.drop k) := by unfold Hid; rw [HMAD.out]; rfl
        rw [← HM2.out] at CJ
        have LM : Hid (Lt M) := ⟨by rw [HM2.out, List.length_append, List.length_append, List.length_take, List.length_drop, ← HN.out]; simp; omega, HMS.out⟩
        clear HM2 HMAD HSX HMS HT K1
        generalize x.p = xp at *
        generalize x.d = xd at *
        go_wp2_with fail
        go_region_held3 (fun W => W.cell? ⟨w.heap.size, 0, none⟩ = some (.string xp) ∧ W.cell? ⟨w.heap.size, 1, none⟩ = some (.bool xd) ∧ W.cell? ⟨w.heap.size, 2, none⟩ = some (.slice ua un uc)) (first | exact HP.out _ (Below.refl _ _) | exact HP.out _ (Below.refl _ _).drew | exact HP.out _ ((Below.refl _ _).alloc (Nat.le_refl _) _).drew | exact HP.out _ (((Below.refl _ _).alloc (Nat.le_refl _) _).alloc (by simp) _).drew | exact HP.out _ b5) (first
          | (go_at_call 70; refine CJ.mono ?_; rintro e w5 ⟨v5, rfl, es5, b5⟩))
        have B5 : Hid (Below w.heap.size w w5) := B4.out.trans (b5.mono B4.out.size)
        have S5 : Hid (ES w5 v5 M) := es5
        have ct := checkT_any v5 M w5 es5 LM.out (HM.out.kept B5.out)
        obtain ⟨a5, c5, rfl, -⟩ := es5.shape
        clear es5 b5 CJ HP
        generalize M.length = nM at *
        go_wp2_with fail
        refine ct.mono ?_
        rintro e w6 ⟨rfl, b6⟩
        have B6 : Hid (Below w.heap.size w w6) := B5.out.trans (b6.mono B5.out.size)
        have cy := copy_any _ M w6 (S5.out.kept b6) LM.out
        clear ct b6
        generalize ckT M = e2 at *
        by_cases h2 : e2 = 0
        · subst h2
          have HR3 : Hid (R = (M, 0)) := by unfold Hid; rw [HR2.out, if_neg (by simp)]
          clear HR2
          go_wp2_with fail
          refine cy.mono ?_
          rintro e w7 ⟨v7, rfl, o7, b7⟩
          have B7 : Hid (Below w.heap.size w w7) := B6.out.trans (b7.mono B6.out.size)
          have O7 : Hid (OE w7 w.heap.size v7 M) := o7.mono B6.out.size
          obtain ⟨a7, c7, rfl, -⟩ := o7.es.shape
          clear cy b7 o7
          generalize M.length = nM2 at *
          go_wp2
          go_ret2
          exact ⟨_, by rw [HR3.out]; rfl, by rw [HR3.out]; exact O7.out, B7.out⟩
        · have HR3 : Hid (R = ([], e2)) := by unfold Hid; rw [HR2.out, if_pos h2]
          have t2 : (e2 != 0) = true := by simp [h2]
          clear HR2 cy
          go_wp2
          go_ret2
          exact ⟨_, by rw [HR3.out]; rfl, by rw [HR3.out]; exact OE.nil _ _, B6.out⟩
      | true =>
        by_cases hd : ld = x.d
        · have HR2 : Hid (R = if ckT M ≠ 0 then ([], ckT M) else (M, 0)) := HF.out (.inr hd)
          subst hd
          clear HF HE
          obtain ⟨m, hm⟩ : ∃ m, m = k + 1 := ⟨_, rfl⟩
          have HMK : Hid (m = k + 1) := hm
          have q1 : IntKind.i64.wrap ((k : Int) + 1) = (m : Int) := by rw [hm]; simp [IntKind.wrap, IntKind.bits, IntKind.signed]; omega
          have g7 : (m : Int) ≤ (n : Int) := by omega
          have g8 : (0 : Int) ≤ (m : Int) := by omega
          have g9 : (m : Int) ≤ (c : Int) := by omega
          have gm : m ≤ n := by omega
          clear hm
          by_cases hcm : c = m
          · obtain rfl : n = m := by omega
            subst hcm
            go_wp2_with fail
            go_quiet (fail)
            have cq2 := C2.out (w3.drewN nq) ⟨rfl, rfl, rfl, Nat.le_refl _, fun _ _ => rfl⟩
            clear c1 tp C2
            have bq : Below w3.heap.size w3 (w3.drewN nq) := ⟨rfl, rfl, rfl, Nat.le_refl _, fun _ _ => rfl⟩
            have D3 : Hid (Below W1.heap.size W1 (w3.drewN nq)) := D3.out.trans (bq.mono D3.out.size)
            have B3 : Hid (Below w.heap.size w (w3.drewN nq)) := B3.out.trans (bq.mono B3.out.size)
            generalize w3.drewN nq = w3a at *
            clear bq p0 p1 p2
            obtain ⟨p0, p1, p2, -, -, -⟩ := trio (HT.out w3a D3.out)
            go_wp2_with fail
            go_quiet (fail)
            clear cq2
            have bq : Below w3a.heap.size w3a (w3a.drewN nq) := ⟨rfl, rfl, rfl, Nat.le_refl _, fun _ _ => rfl⟩
            have D4 : Hid (Below W1.heap.size W1 (w3a.drewN nq)) := D3.out.trans (bq.mono D3.out.size)
            have B4 : Hid (Below w.heap.size w (w3a.drewN nq)) := B3.out.trans (bq.mono B3.out.size)
            generalize w3a.drewN nq = w4 at *
            clear bq D3 B3 p0 p1 p2
            obtain ⟨p0, p1, p2, -, -, -⟩ := trio (HT.out w4 D4.out)
            have HP : Hid (∀ W, Below w4.heap.size w4 W → W.cell? ⟨w.heap.size, 0, none⟩ = some (.string x.p) ∧ W.cell? ⟨w.heap.size, 1, none⟩ = some (.bool x.d) ∧ W.cell? ⟨w.heap.size, 2, none⟩ = some (.slice ua un uc)) := fun W hb => ⟨(hb.cell (World.block_lt_of_cell? _ _ p0)).trans p0, (hb.cell (World.block_lt_of_cell? _ _ p1)).trans p1, (hb.cell (World.block_lt_of_cell? _ _ p2)).trans p2⟩
            have CJ := join3 w4 (some ⟨b, off, none⟩) c c k c l x ua un uc (.slice (some ⟨b, off, none⟩) 0 0) (HS.out.kept B4.out) ((HS.out.kept B4.out).dropE) (HSX.out w4 B4.out) (by omega) (by rw [← HN.out]; omega)
            have HM2 : Hid (M = l.take k ++ [x] ++ l.drop c) := by unfold Hid; rw [HMAD.out]; rw [HMK.out]; rfl
            rw [← HM2.out] at CJ
            have LM : Hid (Lt M) := ⟨by rw [HM2.out, List.length_append, List.length_append, List.length_take, List.length_drop, ← HN.out]; simp; have := HMK.out; omega, HMS.out⟩
            clear HM2 HMAD HSX HMS HT K1
            generalize x.p = xp at *
            generalize x.d = xd at *
            go_wp2_with fail
            go_region_held3 (fun W => W.cell? ⟨w.heap.size, 0, none⟩ = some (.string xp) ∧ W.cell? ⟨w.heap.size, 1, none⟩ = some (.bool xd) ∧ W.cell? ⟨w.heap.size, 2, none⟩ = some (.slice ua un uc)) (first | exact HP.out _ (Below.refl _ _) | exact HP.out _ (Below.refl _ _).drew | exact HP.out _ ((Below.refl _ _).alloc (Nat.le_refl _) _).drew | exact HP.out _ (((Below.refl _ _).alloc (Nat.le_refl _) _).alloc (by simp) _).drew | exact HP.out _ b5) (first
              | (go_at_call 70; refine CJ.mono ?_; rintro e w5 ⟨v5, rfl, es5, b5⟩))
            have B5 : Hid (Below w.heap.size w w5) := B4.out.trans (b5.mono B4.out.size)
            have S5 : Hid (ES w5 v5 M) := es5
            have ct := checkT_any v5 M w5 es5 LM.out (HM.out.kept B5.out)
            obtain ⟨a5, c5, rfl, -⟩ := es5.shape
            clear es5 b5 CJ HP
            generalize M.length = nM at *
            go_wp2_with fail
            refine ct.mono ?_
            rintro e w6 ⟨rfl, b6⟩
            have B6 : Hid (Below w.heap.size w w6) := B5.out.trans (b6.mono B5.out.size)
            have cy := copy_any _ M w6 (S5.out.kept b6) LM.out
            clear ct b6
            generalize ckT M = e2 at *
            by_cases h2 : e2 = 0
            · subst h2
              have HR3 : Hid (R = (M, 0)) := by unfold Hid; rw [HR2.out, if_neg (by simp)]
              clear HR2
              go_wp2_with fail
              refine cy.mono ?_
              rintro e w7 ⟨v7, rfl, o7, b7⟩
              have B7 : Hid (Below w.heap.size w w7) := B6.out.trans (b7.mono B6.out.size)
              have O7 : Hid (OE w7 w.heap.size v7 M) := o7.mono B6.out.size
              obtain ⟨a7, c7, rfl, -⟩ := o7.es.shape
              clear cy b7 o7
              generalize M.length = nM2 at *
              go_wp2
              go_ret2
              exact ⟨_, by rw [HR3.out]; rfl, by rw [HR3.out]; exact O7.out, B7.out⟩
            · have HR3 : Hid (R = ([], e2)) := by unfold Hid; rw [HR2.out, if_pos h2]
              have t2 : (e2 != 0) = true := by simp [h2]
              clear HR2 cy
              go_wp2
              go_ret2
              exact ⟨_, by rw [HR3.out]; rfl, by rw [HR3.out]; exact OE.nil _ _, B6.out⟩
          · have hcm2 : m < c := by omega
            have hcm3 : (m : Int) < (c : Int) := by omega
            go_wp2_with fail
            go_quiet (fail)
            have cq2 := C2.out (w3.drewN nq) ⟨rfl, rfl, rfl, Nat.le_refl _, fun _ _ => rfl⟩
            clear c1 tp C2
            have bq : Below w3.heap.size w3 (w3.drewN nq) := ⟨rfl, rfl, rfl, Nat.le_refl _, fun _ _ => rfl⟩
            have D3 : Hid (Below W1.heap.size W1 (w3.drewN nq)) := D3.out.trans (bq.mono D3.out.size)
            have B3 : Hid (Below w.heap.size w (w3.drewN nq)) := B3.out.trans (bq.mono B3.out.size)
            generalize w3.drewN nq = w3a at *
            clear bq p0 p1 p2
            obtain ⟨p0, p1, p2, -, -, -⟩ := trio (HT.out w3a D3.out)
            go_wp2_with fail
            go_quiet (fail)
            clear cq2
            have bq : Below w3a.heap.size w3a (w3a.drewN nq) := ⟨rfl, rfl, rfl, Nat.le_refl _, fun _ _ => rfl⟩
            have D4 : Hid (Below W1.heap.size W1 (w3a.drewN nq)) := D3.out.trans (bq.mono D3.out.size)
            have B4 : Hid (Below w.heap.size w (w3a.drewN nq)) := B3.out.trans (bq.mono B3.out.size)
            generalize w3a.drewN nq = w4 at *
            clear bq D3 B3 p0 p1 p2
            obtain ⟨p0, p1, p2, -, -, -⟩ := trio (HT.out w4 D4.out)
            have HP : Hid (∀ W, Below w4.heap.size w4 W → W.cell? ⟨w.heap.size, 0, none⟩ = some (.string x.p) ∧ W.cell? ⟨w.heap.size, 1, none⟩ = some (.bool x.d) ∧ W.cell? ⟨w.heap.size, 2, none⟩ = some (.slice ua un uc)) := fun W hb => ⟨(hb.cell (World.block_lt_of_cell? _ _ p0)).trans p0, (hb.cell (World.block_lt_of_cell? _ _ p1)).trans p1, (hb.cell (World.block_lt_of_cell? _ _ p2)).trans p2⟩
            have CJ := join3 w4 (some ⟨b, off, none⟩) n c k m l x ua un uc (.slice (some ⟨b, off + m * 3, none⟩) (n - m) (c - m)) (HS.out.kept B4.out) ((HS.out.kept B4.out).dropB m (n - m) (by omega) rfl (by omega)) (HSX.out w4 B4.out) (by omega) (by rw [← HN.out]; omega)
            have HM2 : Hid (M = l.take k ++ [x] ++ l.drop m) := by unfold Hid; rw [HMAD.out]; rw [HMK.out]; rfl
            rw [← HM2.out] at CJ
            have LM : Hid (Lt M) := ⟨by rw [HM2.out, List.length_append, List.length_append, List.length_take, List.length_drop, ← HN.out]; simp; have := HMK.out; omega, HMS.out⟩
            clear HM2 HMAD HSX HMS HT K1
            generalize x.p = xp at *
            generalize x.d = xd at *
            go_wp2_with fail
            go_region_held3 (fun W => W.cell? ⟨w.heap.size, 0, none⟩ = some (.string xp) ∧ W.cell? ⟨w.heap.size, 1, none⟩ = some (.bool xd) ∧ W.cell? ⟨w.heap.size, 2, none⟩ = some (.slice ua un uc)) (first | exact HP.out _ (Below.refl _ _) | exact HP.out _ (Below.refl _ _).drew | exact HP.out _ ((Below.refl _ _).alloc (Nat.le_refl _) _).drew | exact HP.out _ (((Below.refl _ _).alloc (Nat.le_refl _) _).alloc (by simp) _).drew | exact HP.out _ b5) (first
              | (go_at_call 70; refine CJ.mono ?_; rintro e w5 ⟨v5, rfl, es5, b5⟩))
            have B5 : Hid (Below w.heap.size w w5) := B4.out.trans (b5.mono B4.out.size)
            have S5 : Hid (ES w5 v5 M) := es5
            have ct := checkT_any v5 M w5 es5 LM.out (HM.out.kept B5.out)
            obtain ⟨a5, c5, rfl, -⟩ := es5.shape
            clear es5 b5 CJ HP
            generalize M.length = nM at *
            go_wp2_with fail
            refine ct.mono ?_
            rintro e w6 ⟨rfl, b6⟩
            have B6 : Hid (Below w.heap.size w w6) := B5.out.trans (b6.mono B5.out.size)
            have cy := copy_any _ M w6 (S5.out.kept b6) LM.out
            clear ct b6
            generalize ckT M = e2 at *
            by_cases h2 : e2 = 0
            · subst h2
              have HR3 : Hid (R = (M, 0)) := by unfold Hid; rw [HR2.out, if_neg (by simp)]
              clear HR2
              go_wp2_with fail
              refine cy.mono ?_
              rintro e w7 ⟨v7, rfl, o7, b7⟩
              have B7 : Hid (Below w.heap.size w w7) := B6.out.trans (b7.mono B6.out.size)
              have O7 : Hid (OE w7 w.heap.size v7 M) := o7.mono B6.out.size
              obtain ⟨a7, c7, rfl, -⟩ := o7.es.shape
              clear cy b7 o7
              generalize M.length = nM2 at *
              go_wp2
              go_ret2
              exact ⟨_, by rw [HR3.out]; rfl, by rw [HR3.out]; exact O7.out, B7.out⟩
            · have HR3 : Hid (R = ([], e2)) := by unfold Hid; rw [HR2.out, if_pos h2]
              have t2 : (e2 != 0) = true := by simp [h2]
              clear HR2 cy
              go_wp2
              go_ret2
              exact ⟨_, by rw [HR3.out]; rfl, by rw [HR3.out]; exact OE.nil _ _, B6.out⟩
        · have HR2 : Hid (R = ([], 9)) := HE.out rfl hd
          clear HF HE HSX
          generalize x.d = xd at *
          rcases (show (ld = true ∧ xd = false) ∨ (ld = false ∧ xd = true) by cases ld <;> cases xd <;> simp at hd ⊢) with ⟨rfl, rfl⟩ | ⟨rfl, rfl⟩
          · clear hd
            go_wp2_with fail
            go_quiet (fail)
            have cq2 := C2.out (w3.drewN nq) ⟨rfl, rfl, rfl, Nat.le_refl _, fun _ _ => rfl⟩
            clear c1 tp C2
            have bq : Below w3.heap.size w3 (w3.drewN nq) := ⟨rfl, rfl, rfl, Nat.le_refl _, fun _ _ => rfl⟩
            have D3 : Hid (Below W1.heap.size W1 (w3.drewN nq)) := D3.out.trans (bq.mono D3.out.size)
            have B3 : Hid (Below w.heap.size w (w3.drewN nq)) := B3.out.trans (bq.mono B3.out.size)
            generalize w3.drewN nq = w3a at *
            clear bq p0 p1 p2
            obtain ⟨p0, p1, p2, -, -, -⟩ := trio (HT.out w3a D3.out)
            go_wp2_with fail
            go_quiet (fail)
            have B4 : Hid (Below w.heap.size w (w3a.drewN nq)) := B3.out.trans (⟨rfl, rfl, rfl, Nat.le_refl _, fun _ _ => rfl⟩)
            go_wp2
            go_ret2
            exact ⟨_, by rw [HR2.out]; rfl, by rw [HR2.out]; exact OE.nil _ _, B4.out⟩
          · clear hd
            go_wp2_with fail
            go_quiet (fail)
            have cq2 := C2.out (w3.drewN nq) ⟨rfl, rfl, rfl, Nat.le_refl _, fun _ _ => rfl⟩
            clear c1 tp C2
            have bq : Below w3.heap.size w3 (w3.drewN nq) := ⟨rfl, rfl, rfl, Nat.le_refl _, fun _ _ => rfl⟩
            have D3 : Hid (Below W1.heap.size W1 (w3.drewN nq)) := D3.out.trans (bq.mono D3.out.size)
            have B3 : Hid (Below w.heap.size w (w3.drewN nq)) := B3.out.trans (bq.mono B3.out.size)
            generalize w3.drewN nq = w3a at *
            clear bq p0 p1 p2
            obtain ⟨p0, p1, p2, -, -, -⟩ := trio (HT.out w3a D3.out)
            go_wp2_with fail
            go_quiet (fail)
            have B4 : Hid (Below w.heap.size w (w3a.drewN nq)) := B3.out.trans (⟨rfl, rfl, rfl, Nat.le_refl _, fun _ _ => rfl⟩)
            go_wp2
            go_ret2
            exact ⟨_, by rw [HR2.out]; rfl, by rw [HR2.out]; exact OE.nil _ _, B4.out⟩
  · have HR1 : Hid (R = ([], e1)) := by unfold Hid; rw [HR.out, if_pos h1]
    have t0 : (e1 != 0) = true := by simp [h1]
    clear HR
    go_wp2
    go_ret2
    exact ⟨_, by rw [HR1.out]; rfl, by rw [HR1.out]; exact OE.nil _ _, B2.out⟩
end Go.Proofs.YtajcabfeabbknaaGreatDoor
