/-
  What the document's Remove answers.
-/
import Derived.Test.YtajcabfeabbknaaGreatDoorR1
import Derived.Test.YtajcabfeabbknaaGreatDoorRch
import Derived.Test.YtajcabfeabbknaaGreatDoorSe
import Derived.Test.YtajcabfeabbknaaGreatDoorRpu
namespace Go.Proofs.YtajcabfeabbknaaGreatDoor
open Go.RowKit
set_option maxRecDepth 100000

theorem flt_next (l : List En) (q : List UInt8) (j : Nat) (h : j < l.length) : (l.take (j + 1)).filter (fun y => decide (y.k ≠ q)) = if decide ((atE l j).k = q) then (l.take j).filter (fun y => decide (y.k ≠ q)) else (l.take j).filter (fun y => decide (y.k ≠ q)) ++ [atE l j] := by
  rw [take_next l j h, List.filter_append]
  generalize atE l j = x
  by_cases hb : x.k = q
  · simp [hb]
  · simp [hb]
set_option maxHeartbeats 4000000 in
theorem rrem_any (v : Value) (l : List En) (q : ByteArray) (w : World) (h : ES w v l) (hl : Lt l) :
    Calls Tryz.prog 47 #[v, .string q] w fun e w' => ∃ v', e = .returned (.tuple #[v', .int .i64 (rrem l (dl q)).2]) ∧ ES w' v' (rrem l (dl q)).1 ∧ Below w.heap.size w w' := by
  obtain ⟨a, c, rfl, g2, _, _⟩ := h.shape
  have HS : Hid (ES w (.slice a l.length c) l) := h
  have hn := hl.1
  have CC := rcheckT_any _ l w HS.out hl
  have CG : Hid (∀ W, Below w.heap.size w W → Calls Tryz.prog 41 #[.slice a l.length c, .string q] W fun e w' => ∃ u, e = .returned (.tuple #[u, .bool (gotB l (dl q))]) ∧ EV w' u (got l (dl q)) ∧ Below W.heap.size W w') := fun W hb => rget_any _ l q W (HS.out.kept hb) hl
  have CH : Hid (∀ W, Below w.heap.size w W → Calls Tryz.prog 72 #[.slice a l.length c, .string q] W fun e w' => ∃ v', e = .returned v' ∧ SS w' v' (chi l (dl q)) ∧ Below W.heap.size W w') := fun W hb => rchildren_any _ l q W (HS.out.kept hb) hl
  have HR : Hid (rrem l (dl q) = if ckT l ≠ 0 then ([], ckT l) else if gotB l (dl q) = false then ([], 8) else if (got l (dl q)).d = true ∧ 0 < (chi l (dl q)).length then ([], 10) else (l.filter (fun y => decide (y.k ≠ dl q)), 0)) := rfl
  have hkl : (chi l (dl q)).length ≤ 100 := by
    have := chi_len l (dl q) l.length
    rw [List.take_length] at this
    omega
  have HFL : Hid (∀ j, ((l.take j).filter (fun y => decide (y.k ≠ dl q))).length ≤ 100) := fun j => by
    have h1 := List.length_filter_le (fun y : En => decide (y.k ≠ dl q)) (l.take j)
    rw [List.length_take] at h1
    omega
  have HNXT : Hid (∀ j, j < l.length → (l.take (j + 1)).filter (fun y => decide (y.k ≠ dl q)) = if decide ((atE l j).k = dl q) then (l.take j).filter (fun y => decide (y.k ≠ dl q)) else (l.take j).filter (fun y => decide (y.k ≠ dl q)) ++ [atE l j]) := fun j hj => flt_next l (dl q) j hj
  have HEQ : Hid (∀ j, ((atE l j).p.toList == q.toList) = decide ((atE l j).k = dl q)) := fun j => by
    rw [tl_beq]
    exact congrFun (fp_eq q) (atE l j)
  generalize rrem l (dl q) = R at *
  generalize gotB l (dl q) = gb at *
  generalize got l (dl q) = ge at *
  generalize chi l (dl q) = K at *
  obtain ⟨F, hF⟩ : ∃ F : List En → List En, F = fun m => m.filter (fun y => decide (y.k ≠ dl q)) := ⟨_, rfl⟩
  have HF0 : Hid (F [] = []) := by unfold Hid; rw [hF]; rfl
  have HFL : Hid (∀ j, (F (l.take j)).length ≤ 100) := by rw [hF]; exact HFL.out
  have HNXT : Hid (∀ j, j < l.length → F (l.take (j + 1)) = if decide ((atE l j).k = dl q) then F (l.take j) else F (l.take j) ++ [atE l j]) := by rw [hF]; exact HNXT.out
  have HR : Hid (R = if ckT l ≠ 0 then ([], ckT l) else if gb = false then ([], 8) else if ge.d = true ∧ 0 < K.length then ([], 10) else (F l, 0)) := by rw [hF]; exact HR.out
  clear hF
  obtain ⟨n, hn'⟩ : ∃ n, n = l.length := ⟨_, rfl⟩
  have HN : Hid (n = l.length) := hn'
  rw [← hn'] at HS CC CG CH HNXT g2 hn ⊢
  generalize ckT l = e1 at *
  clear h hl hn'
  go_enter Tryz.func47, Tryz.ntmps47
  go_wp2_with fail
  refine CC.mono ?_
  rintro e w1 ⟨rfl, b1⟩
  have B1 : Hid (Below w.heap.size w w1) := b1
  clear CC b1
  by_cases h1 : e1 = 0
  · subst h1
    have HR1 : Hid (R = if gb = false then ([], 8) else if ge.d = true ∧ 0 < K.length then ([], 10) else (F l, 0)) := by unfold Hid; rw [HR.out, if_neg (by simp)]
    have cg := CG.out w1 B1.out
    clear HR CG
    go_wp2_with fail
    refine cg.mono ?_
    rintro e w2 ⟨u2, rfl, ⟨ya, yn, yc, rfl, -⟩, b2⟩
    obtain ⟨W2, hW2⟩ : ∃ W2, W2 = w2.alloc (.cells #[.string ge.p, .bool ge.d, .slice ya yn yc] 46) := ⟨_, rfl⟩
    have n2 : Below w2.heap.size w2 W2 := by rw [hW2]; exact (Below.refl _ _).alloc (Nat.le_refl _) _
    have B2 : Hid (Below w.heap.size w W2) := B1.out.trans ((b2.trans (n2.mono b2.size)).mono B1.out.size)
    have ch := CH.out W2 B2.out
    clear n2 b2 cg B1 CH
    cases gb with
    | false =>
      have HR2 : Hid (R = ([], 8)) := HR1.out
      clear HR1 ch
      go_wp2
      rw [← hW2]
      go_ret2
      exact ⟨_, by rw [HR2.out]; rfl, by rw [HR2.out]; exact ES.nil _, B2.out⟩
    | true =>
      have HR2 : Hid (R = if ge.d = true ∧ 0 < K.length then ([], 10) else (F l, 0)) := HR1.out
      clear HR1
      generalize ge.d = gd at *
      cases gd with
      | true =>
        have HR2b : Hid (R = if 0 < K.length then ([], 10) else (F l, 0)) := by
          unfold Hid
          rw [HR2.out]
          by_cases hk : 0 < K.length
          · rw [if_pos ⟨rfl, hk⟩, if_pos hk]
          · rw [if_neg (fun e => hk e.2), if_neg hk]
        clear HR2
        go_wp2_with fail
        rw [← hW2]
        clear hW2
        refine ch.mono ?_
        rintro e w3 ⟨v3, rfl, s3, b3⟩
        have B3 : Hid (Below w.heap.size w w3) := B2.out.trans (b3.mono B2.out.size)
        obtain ⟨a3, c3, rfl, -⟩ := s3.shape
        clear s3 b3 ch B2
        obtain ⟨nk, hnk⟩ : ∃ nk, nk = K.length := ⟨_, rfl⟩
        rw [← hnk] at HR2b hkl ⊢
        clear hnk
        by_cases hk0 : 0 < nk
        · have hk1 : 0 < (nk : Int) := by omega
          have HR3 : Hid (R = ([], 10)) := by unfold Hid; rw [HR2b.out, if_pos hk0]
          clear HR2b
          go_wp2
          go_ret2
          exact ⟨_, by rw [HR3.out]; rfl, by rw [HR3.out]; exact ES.nil _, B3.out⟩
        · obtain rfl : nk = 0 := by omega
          have HR3 : Hid (R = (F l, 0)) := by unfold Hid; rw [HR2b.out, if_neg (by simp)]
          clear HR2b
          go_wp2_with fail
          go_loopw [9, 10] (fun s qv wr => ∃ j : Nat, j ≤ n ∧ qv = .int .i64 j ∧ SE w wr w.heap.size s (F (l.take j)) ∧ Below w.heap.size w wr) (fun _ qv _ => n - (intOf qv).toNat)
          case atStart => exact ⟨0, by omega, rfl, by rw [List.take_zero, HF0.out]; exact SE.nil _ _ _, B3.out⟩
          case round =>
            obtain ⟨j, hj, rfl, se, bel⟩ := hrel
            have HB : Hid (Below w.heap.size w wr) := bel
            have HO : Hid (SE w wr w.heap.size u9 (F (l.take j))) := se
            obtain ⟨va, vc, rfl⟩ := se.shape
            obtain ⟨nv, hnv⟩ : ∃ nv, nv = (F (l.take j)).length := ⟨_, rfl⟩
            have HJ : Hid (nv = (F (l.take j)).length) := hnv
            have hj9 : nv ≤ 100 := by rw [hnv]; exact HFL.out j
            rw [← hnv] at HO ⊢
            clear bel se hnv
            by_cases hlt : j < n
            · have lt2 : (j : Int) < (n : Int) := by omega
              obtain ⟨b, off, ua, un, uc, rfl, d1, d2, d3, hun, hsl⟩ := HS.out.at j (by rw [← HN.out]; exact hlt)
              have c1 := (HB.out.cell (World.block_lt_of_cell? _ _ d1)).trans d1
              have c2 := (HB.out.cell (World.block_lt_of_cell? _ _ d2)).trans d2
              have c3 := (HB.out.cell (World.block_lt_of_cell? _ _ d3)).trans d3
              have q1 : IntKind.i64.wrap ((j : Int) + 1) = ((j + 1 : Nat) : Int) := by simp [IntKind.wrap, IntKind.bits, IntKind.signed]; omega
              have HT : Hid (F (l.take (j + 1)) = if decide ((atE l j).k = dl q) then F (l.take j) else F (l.take j) ++ [atE l j]) := HNXT.out j hlt
              have tq := HEQ.out j
              have SX : Hid (Sl w (.slice ua un uc) (atE l j).z) := hsl
              clear hun hsl d1 d2 d3
              generalize atE l j = x at *
              generalize decide (x.k = dl q) = rb at *
              generalize F (l.take j) = L at *
              cases rb with
              | true =>
                have ON : Hid (SE w wr w.heap.size (.slice va nv vc) (F (l.take (j + 1)))) := by unfold Hid; rw [HT.out]; exact HO.out
                clear HT
                go_wp2
                go_roundw
                case rel => exact ⟨j + 1, by omega, by go_num, ON.out, HB.out⟩
                case measure => simp [intOf]; omega
              | false =>
                have HT2 : Hid (F (l.take (j + 1)) = L ++ [x]) := HT.out
                clear HT
                go_wp2_with (at_builtin; refine wpList_append_se rfl _ _ rfl _ L rfl HO.out x _ SX.out rfl (by rw [← HJ.out]; omega) HB.out (Hid.out ?_))
                unfold Hid
                intro v4 w4 s4 b4
                have S4 : Hid (SE w w4 w.heap.size v4 (F (l.take (j + 1)))) := by unfold Hid; rw [HT2.out]; exact s4
                have B4 : Hid (Below w.heap.size w w4) := b4
                clear s4 b4 HO
                go_wp2
                go_roundw
                case rel => exact ⟨j + 1, by omega, by go_num, S4.out, B4.out⟩
                case measure => simp [intOf]; omega
            · obtain rfl : j = n := by omega
              have HQ : Hid (ES wr (.slice va nv vc) (F l)) := by
                have h1 := HO.out.es HB.out
                have h2 : l.take j = l := by rw [HN.out, List.take_length]
                rw [h2] at h1
                exact h1
              go_wp2
              go_ret2
              exact ⟨_, by rw [HR3.out]; rfl, by rw [HR3.out]; exact HQ.out, HB.out⟩
      | false =>
        have HR3 : Hid (R = (F l, 0)) := by unfold Hid; rw [HR2.out, if_neg (by simp)]
        clear HR2 ch
        have B3 : Hid (Below w.heap.size w W2) := B2
        go_wp2_with fail
        rw [← hW2]
        clear hW2
        go_loopw [9, 10] (fun s qv wr => ∃ j : Nat, j ≤ n ∧ qv = .int .i64 j ∧ SE w wr w.heap.size s (F (l.take j)) ∧ Below w.heap.size w wr) (fun _ qv _ => n - (intOf qv).toNat)
        case atStart => exact ⟨0, by omega, rfl, by rw [List.take_zero, HF0.out]; exact SE.nil _ _ _, B3.out⟩
        case round =>
          obtain ⟨j, hj, rfl, se, bel⟩ := hrel
          have HB : Hid (Below w.heap.size w wr) := bel
          have HO : Hid (SE w wr w.heap.size u9 (F (l.take j))) := se
          obtain ⟨va, vc, rfl⟩ := se.shape
          obtain ⟨nv, hnv⟩ : ∃ nv, nv = (F (l.take j)).length := ⟨_, rfl⟩
          have HJ : Hid (nv = (F (l.take j)).length) := hnv
          have hj9 : nv ≤ 100 := by rw [hnv]; exact HFL.out j
          rw [← hnv] at HO ⊢
          clear bel se hnv
          by_cases hlt : j < n
          · have lt2 : (j : Int) < (n : Int) := by omega
            obtain ⟨b, off, ua, un, uc, rfl, d1, d2, d3, hun, hsl⟩ := HS.out.at j (by rw [← HN.out]; exact hlt)
            have c1 := (HB.out.cell (World.block_lt_of_cell? _ _ d1)).trans d1
            have c2 := (HB.out.cell (World.block_lt_of_cell? _ _ d2)).trans d2
            have c3 := (HB.out.cell (World.block_lt_of_cell? _ _ d3)).trans d3
            have q1 : IntKind.i64.wrap ((j : Int) + 1) = ((j + 1 : Nat) : Int) := by simp [IntKind.wrap, IntKind.bits, IntKind.signed]; omega
            have HT : Hid (F (l.take (j + 1)) = if decide ((atE l j).k = dl q) then F (l.take j) else F (l.take j) ++ [atE l j]) := HNXT.out j hlt
            have tq := HEQ.out j
            have SX : Hid (Sl w (.slice ua un uc) (atE l j).z) := hsl
            clear hun hsl d1 d2 d3
            generalize atE l j = x at *
            generalize decide (x.k = dl q) = rb at *
            generalize F (l.take j) = L at *
            cases rb with
            | true =>
              have ON : Hid (SE w wr w.heap.size (.slice va nv vc) (F (l.take (j + 1)))) := by unfold Hid; rw [HT.out]; exact HO.out
              clear HT
              go_wp2
              go_roundw
              case rel => exact ⟨j + 1, by omega, by go_num, ON.out, HB.out⟩
              case measure => simp [intOf]; omega
            | false =>
              have HT2 : Hid (F (l.take (j + 1)) = L ++ [x]) := HT.out
              clear HT
              go_wp2_with (at_builtin; refine wpList_append_se rfl _ _ rfl _ L rfl HO.out x _ SX.out rfl (by rw [← HJ.out]; omega) HB.out (Hid.out ?_))
              unfold Hid
              intro v4 w4 s4 b4
              have S4 : Hid (SE w w4 w.heap.size v4 (F (l.take (j + 1)))) := by unfold Hid; rw [HT2.out]; exact s4
              have B4 : Hid (Below w.heap.size w w4) := b4
              clear s4 b4 HO
              go_wp2
              go_roundw
              case rel => exact ⟨j + 1, by omega, by go_num, S4.out, B4.out⟩
              case measure => simp [intOf]; omega
          · obtain rfl : j = n := by omega
            have HQ : Hid (ES wr (.slice va nv vc) (F l)) := by
              have h1 := HO.out.es HB.out
              have h2 : l.take j = l := by rw [HN.out, List.take_length]
              rw [h2] at h1
              exact h1
            go_wp2
            go_ret2
            exact ⟨_, by rw [HR3.out]; rfl, by rw [HR3.out]; exact HQ.out, HB.out⟩
  · have HR1 : Hid (R = ([], e1)) := by unfold Hid; rw [HR.out, if_pos h1]
    have t0 : (e1 != 0) = true := by simp [h1]
    clear HR
    go_wp2
    go_ret2
    exact ⟨_, by rw [HR1.out]; rfl, by rw [HR1.out]; exact ES.nil _, B1.out⟩
end Go.Proofs.YtajcabfeabbknaaGreatDoor
