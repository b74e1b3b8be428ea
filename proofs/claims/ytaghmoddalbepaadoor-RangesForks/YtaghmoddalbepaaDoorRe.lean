/-
  What Remove answers.
-/
import Derived.Test.YtaghmoddalbepaaDoorAe
import Derived.Maps.AppendAt
namespace Go.Proofs.YtaghmoddalbepaaDoor
open Go.RowKit Go.Shelf
set_option maxRecDepth 100000

theorem below_grw {n : Nat} {w W W' : World} {o : Option Nat} (b : Below n w W) (hn : n ≤ w.heap.size) (g : W.grownBy W' o) (ho : ∀ k, o = some k → n ≤ k) : Below n w W' :=
  ⟨g.os.trans b.os, g.tape.trans b.tape, g.output.trans b.output, Nat.le_trans b.size g.size, fun k hk => (g.block k (by have := b.size; omega) (fun e => by have := ho k e.symm; omega)).trans (b.block k hk)⟩
theorem sr_of {W : World} {N g : Nat} {u : Value} {m : List Sp} (h : RSp W N u m) (hg : g < N) (h0 : m = [] → u = .slice none 0 0) : Sr W g u m.length (m.map spc).flatten := by
  refine ⟨flat_len m, spc_one m, ?_⟩
  rcases h.own.2 with ⟨rfl, hz⟩ | ⟨k, c, cur, rfl, hk, hh, hnc, hcm, hsz, htk⟩
  · exact .inl ⟨rfl, hz⟩
  · rcases Nat.eq_zero_or_pos m.length with hz | hp
    · have := h0 (List.length_eq_zero_iff.1 hz)
      cases this
    · refine .inr ⟨k, c, cur, rfl, hh, by omega, fun j y hj => ?_, by omega⟩
      rw [← htk, List.getElem?_take] at hj
      split at hj
      · rw [← Array.getElem?_toList]; exact hj
      · cases hj
theorem own_alloc9 {W : World} {B : Nat} {e : TypeId} {s n : Nat} {v : Value} {xs : List Value} (h : W.ownsRow B e s v n xs) (o : Obj) : (W.alloc o).ownsRow B e s v n xs := rs_keep h fun _ _ _ hc => blk_kept hc (al_below _ _) (blk_lt hc)
set_option maxHeartbeats 2000000 in
theorem rem_no (w : World) (B g : Nat) (v : Value) (l : List Sp) (f t : Int) (h : ST w B g v l) (hm : may f t = false ∨ cnt (clip l f t) = 0) :
    Calls Tryd.prog 15 #[.pointer (some ⟨g, 0, none⟩), .int .i64 f, .int .i64 t] w fun e w' => e = .returned (.int .i64 0) ∧ Below w.heap.size w w' := by
  have cm := mayBe_any f t w
  have HB : Hid (Below w.heap.size w w) := Below.refl _ _
  by_cases h1 : may f t = true
  · have hc : cnt (clip l f t) = 0 := hm.resolve_left (by rw [h1]; simp)
    have o := (may_iff f t).1 h1
    unfold Okk at o
    simp only at o
    obtain ⟨o1, o2, o3⟩ := o
    have cc := count_any w _ f t _ (h.sq (f := f) (t := t) o2)
    rw [h1] at cm
    rw [hc] at cc
    clear h hm h1 hc
    go_enter Tryd.func15, Tryd.ntmps15
    go_wp2_with fail
    refine cm.mono ?_
    rintro e w1 ⟨rfl, e1⟩
    rw [e1]
    clear cm e1 w1
    go_wp2_with fail
    refine cc.mono ?_
    rintro e w1 ⟨rfl, b1⟩
    have B1 : Hid (Below w.heap.size w w1) := b1
    clear cc b1 HB
    go_wp2
    go_ret
    exact ⟨rfl, B1.out⟩
  · have h1' : may f t = false := by simpa using h1
    rw [h1'] at cm
    clear h hm h1 h1'
    go_enter Tryd.func15, Tryd.ntmps15
    go_wp2_with fail
    refine cm.mono ?_
    rintro e w1 ⟨rfl, e1⟩
    rw [e1]
    clear cm e1 w1
    go_wp2
    go_ret
    exact ⟨rfl, HB.out⟩
set_option maxHeartbeats 8000000 in
theorem rem_yes (w : World) (B g : Nat) (v : Value) (l : List Sp) (f t : Int) (h : ST w B g v l) (hl : l.length ≤ 998) (hB : B ≤ w.heap.size) (hm : may f t = true) (hc : cnt (clip l f t) ≠ 0) :
    Calls Tryd.prog 15 #[.pointer (some ⟨g, 0, none⟩), .int .i64 f, .int .i64 t] w fun e w' => e = .returned (.int .i64 (cnt (clip l f t))) ∧ ∃ v', ST w' B g v' (remL l f t) ∧ SU w w' g v v' := by
  obtain ⟨i0, hi0, hz0, hzs, hzb⟩ := info_parts infoN
  have cm := mayBe_any f t w
  have ok := (may_iff f t).1 hm
  have rsp := rem_spec h.cn ok
  have o := ok
  unfold Okk at o
  simp only at o
  obtain ⟨o1, o2, o3⟩ := o
  have cc := count_any w _ f t _ (h.sq (f := f) (t := t) o2)
  rw [hm] at cm
  have hcne : clip l f t ≠ [] := fun e => hc ((cnt_pos (clip_canon h.cn o2)).2 e)
  have x0 : (cnt (clip l f t) == 0) = false := by simpa using hc
  have hlt : fE l f < bU l t := (clip_ne f t).1 hcne
  have hjl := bU_le l t
  have hln : (remL l f t).length ≤ 1000 := by have := remL_len l f t; omega
  have HEA : Hid (∀ W, Below w.heap.size w W → Calls Tryd.prog 35 #[.pointer (some ⟨g, 0, none⟩), .int .i64 f] W fun e w' => e = .returned (.int .i64 (fE l f : Nat)) ∧ Below W.heap.size W w') := fun W hb => ea_any W g v l _ (h.sb.kept hb) (h.rs.is.kept hb) h.cn (by omega)
  have HBU : Hid (∀ W, Below w.heap.size w W → Calls Tryd.prog 36 #[.pointer (some ⟨g, 0, none⟩), .int .i64 t] W fun e w' => e = .returned (.int .i64 (bU l t : Nat)) ∧ Below W.heap.size W w') := fun W hb => bu_any W g v l _ (h.sb.kept hb) (h.rs.is.kept hb) h.cn (by omega)
  have HRP : Hid (∀ W u m, m = rmV l f t → Below w.heap.size w W → RSp W w.heap.size u m → (m = [] → u = .slice none 0 0) → Calls Tryd.prog 37 #[v, .int .i64 (fE l f : Nat), .int .i64 (bU l t : Nat), u] W fun e w' => ∃ v', e = .returned v' ∧ (SB w' g v) ∧ ST (w'.setCell ⟨g, 0, none⟩ v') B g v' (remL l f t) ∧ SU w (w'.setCell ⟨g, 0, none⟩ v') g v v') := fun W u m hme hb hu h0 => by
    have hml : m.length ≤ 2 := by rw [hme]; exact rmV_len l f t
    refine (replace_own B v l.length (fE l f) (bU l t) m.length _ (m.map spc).flatten u W (h.rs.below hb).own hlt hjl (by omega) (by omega) (Nat.le_trans hB hb.size) (spc_one l) (fun k hk => sr_of hu (own_lt h.rs k hk) h0)).mono ?_
    rintro e w' ⟨v', rfl, r1, r2, r3⟩
    have e : l.take (fE l f) ++ m ++ l.drop (bU l t) = remL l f t := by unfold remL; rw [if_neg hcne, hme, List.append_assoc]
    have r1' := rsp_parts (m := m) (by rw [List.length_append, List.length_append, List.length_take, List.length_drop]; omega) r1
    rw [e] at r1'
    exact ⟨v', rfl, su_sb h hb r2, su_mk h hb r1' r2 r3 rsp.1 hln⟩
  obtain ⟨a, c, rfl, h2, h3, h4⟩ := h.rs.is.shape
  have cbd := cnt_nonneg (clip_canon h.cn o2)
  have cbd2 := cnt_le (clip_canon h.cn o2)
  have hclen := clip_len l f t
  generalize cnt (clip l f t) = q at *
  obtain ⟨bb, off, rfl, hr⟩ := h.rs.is.at (fE l f) (by omega)
  have HC : Hid (∀ W, Below w.heap.size w W → W.cell? ⟨g, 0, none⟩ = some (.slice (some ⟨bb, off, none⟩) l.length c) ∧ W.cell? ⟨bb, off + fE l f * 2, none⟩ = some (.int .i64 (atS l (fE l f)).1) ∧ W.cell? ⟨bb, off + (bU l t - 1) * 2 + 1, none⟩ = some (.int .i64 (atS l (bU l t - 1)).2)) := fun W hb => by
    refine ⟨(h.sb.kept hb).cell, ?_, ?_⟩
    · obtain ⟨b', o', e, q⟩ := (h.rs.is.kept hb).at (fE l f) (by omega)
      simp only [Option.some.injEq, Addr.mk.injEq] at e
      obtain ⟨rfl, rfl, -⟩ := e
      exact (spC q).1
    · obtain ⟨b', o', e, q⟩ := (h.rs.is.kept hb).at (bU l t - 1) (by omega)
      simp only [Option.some.injEq, Addr.mk.injEq] at e
      obtain ⟨rfl, rfl, -⟩ := e
      exact (spC q).2
  have HRV : Hid (rmV l f t = (if (atS l (fE l f)).1 < f then [((atS l (fE l f)).1, f - 1)] else []) ++ (if t < (atS l (bU l t - 1)).2 then [(t + 1, (atS l (bU l t - 1)).2)] else [])) := rfl
  clear h hr h4 rsp hln ok hm hc hcne
  generalize atS l (fE l f) = x at *
  generalize atS l (bU l t - 1) = y at *
  generalize remL l f t = l' at *
  generalize rmV l f t = mv at *
  generalize fE l f = i9 at *
  generalize bU l t = j9 at *
  generalize l.length = n9 at *
  generalize (clip l f t).length = z9 at *
  have x2 : (i9 : Int) < (n9 : Int) := by omega
  have x3 : IntKind.i64.wrap ((j9 : Int) - 1) = ((j9 - 1 : Nat) : Int) := by rw [IntKind.wrap_i64]; omega
  have x4 : (j9 : Int) - 1 = ((j9 - 1 : Nat) : Int) := by omega
  have x5 : ((j9 - 1 : Nat) : Int) < (n9 : Int) := by omega
  have HIN : Hid (i9 < j9 ∧ j9 ≤ n9) := ⟨hlt, hjl⟩
  clear hlt hjl
  by_cases hlo : x.1 < f
  · have d1 : decide (x.1 < f) = true := by simpa using hlo
    by_cases hhi : t < y.2
    · have d2 : decide (t < y.2) = true := by simpa using hhi
      have HMV : Hid ([(x.1, f - 1), (t + 1, y.2)] = mv) := by unfold Hid; rw [HRV.out, if_pos hlo, if_pos hhi]; rfl
      clear HRV
      go_enter Tryd.func15, Tryd.ntmps15
      go_wp2_with fail
      refine cm.mono ?_
      rintro e w1 ⟨rfl, e1⟩
      rw [e1]
      clear cm e1 w1
      go_wp2_with fail
      refine cc.mono ?_
      rintro e w2 ⟨rfl, b1⟩
      have B2 : Hid (Below w.heap.size w w2) := b1
      have ce := HEA.out w2 B2.out
      clear cc b1 HEA
      go_wp2_with fail
      refine ce.mono ?_
      rintro e w3 ⟨rfl, b3⟩
      have B3 : Hid (Below w.heap.size w w3) := B2.out.trans (b3.mono B2.out.size)
      have ce := HBU.out w3 B3.out
      clear b3 B2 HBU
      go_wp2_with fail
      refine ce.mono ?_
      rintro e w4 ⟨rfl, b4⟩
      have B4 : Hid (Below w.heap.size w w4) := B3.out.trans (b4.mono B3.out.size)
      obtain ⟨k0, k1, k2⟩ := HC.out w4 B4.out
      clear ce b4 B3
      have HOW : Hid ((w4.alloc (.cells #[.int .i64 x.1, .int .i64 (f - 1)] 58)).ownsRow w.heap.size 58 2 (.slice none 0 0) 0 []) := ⟨rfl, .inl ⟨rfl, rfl⟩⟩
      have HT2 : Hid (∀ j u, [Value.int .i64 x.1, .int .i64 (f - 1)][j]? = some u → (w4.alloc (.cells #[.int .i64 x.1, .int .i64 (f - 1)] 58)).cell? ((⟨w4.heap.size, 0, none⟩ : Addr).add j) = some u) := two_cells w4 _ _
      have HSZ : Hid (w.heap.size ≤ (w4.alloc (.cells #[.int .i64 x.1, .int .i64 (f - 1)] 58)).heap.size) := Nat.le_trans B4.out.size (al_below _ _).size
      go_wp2_with (at_builtin; refine wpList_append_own_at _ rfl _ _ 28 rfl w.heap.size 58 i0 (.agg #[.int .i64 0, .int .i64 0]) 2 16 Tryd.underlying28 hi0 hz0 hzs hzb rfl (by decide) _ 0 [] rfl HOW.out ⟨w4.heap.size, 0, none⟩ 1 1 [.int .i64 x.1, .int .i64 (f - 1)] rfl rfl HT2.out (by simp [Value.oneCell']) (by unfold maxLen; omega) (by omega) HSZ.out (Hid.out ?_))
      unfold Hid
      intro v5 w5 o5 g5 _ _
      obtain ⟨a5, c5, rfl⟩ := own_shape o5
      have B5 : Hid (Below w.heap.size w w5) := below_grw (B4.out.alloc B4.out.size _) (Nat.le_refl _) g5 (fun k hk => by cases hk)
      have R5 : Hid (w5.ownsRow w.heap.size 58 2 (.slice a5 1 c5) 1 ([.int .i64 x.1, .int .i64 (f - 1)])) := o5
      clear o5 g5 HOW HT2 HSZ
      obtain ⟨_, k1, k2⟩ := HC.out w5 B5.out
      have k0 := (HC.out w5 B5.out).1
      have HOW : Hid ((w5.alloc (.cells #[.int .i64 (t + 1), .int .i64 y.2] 58)).ownsRow w.heap.size 58 2 (.slice a5 1 c5) 1 [.int .i64 x.1, .int .i64 (f - 1)]) := own_alloc9 R5.out _
      have HT2 : Hid (∀ j u, [Value.int .i64 (t + 1), .int .i64 y.2][j]? = some u → (w5.alloc (.cells #[.int .i64 (t + 1), .int .i64 y.2] 58)).cell? ((⟨w5.heap.size, 0, none⟩ : Addr).add j) = some u) := two_cells w5 _ _
      have HSZ : Hid (w.heap.size ≤ (w5.alloc (.cells #[.int .i64 (t + 1), .int .i64 y.2] 58)).heap.size) := Nat.le_trans B5.out.size (al_below _ _).size
      go_wp2_with (at_builtin; refine wpList_append_own_at _ rfl _ _ 28 rfl w.heap.size 58 i0 (.agg #[.int .i64 0, .int .i64 0]) 2 16 Tryd.underlying28 hi0 hz0 hzs hzb rfl (by decide) _ 1 [.int .i64 x.1, .int .i64 (f - 1)] rfl HOW.out ⟨w5.heap.size, 0, none⟩ 1 1 [.int .i64 (t + 1), .int .i64 y.2] rfl rfl HT2.out (by simp [Value.oneCell']) (by unfold maxLen; omega) (by omega) HSZ.out (Hid.out ?_))
      unfold Hid
      intro v6 w6 o5 g5 _ _
      obtain ⟨a6, c6, rfl⟩ := own_shape o5
      have B6 : Hid (Below w.heap.size w w6) := below_grw (B5.out.alloc B5.out.size _) (Nat.le_refl _) g5 (fun k hk => own_base HOW.out k hk)
      have R6 : Hid (w6.ownsRow w.heap.size 58 2 (.slice a6 2 c6) 2 ([.int .i64 x.1, .int .i64 (f - 1), .int .i64 (t + 1), .int .i64 y.2])) := o5
      clear o5 g5 HOW HT2 HSZ
      have k0 := (HC.out w6 B6.out).1
      have cr := HRP.out w6 (.slice a6 2 c6) [(x.1, f - 1), (t + 1, y.2)] HMV.out B6.out (RSp.of R6.out) (fun e => by cases e)
      clear HRP HMV
      go_wp2_with fail
      refine cr.mono ?_
      rintro e w9 ⟨v9, rfl, s9, R9⟩
      obtain ⟨a9, c9, rfl, -, -, -⟩ := R9.1.rs.is.shape
      have R : Hid (ST (w9.setCell ⟨g, 0, none⟩ (.slice a9 l'.length c9)) B g (.slice a9 l'.length c9) l' ∧ SU w (w9.setCell ⟨g, 0, none⟩ (.slice a9 l'.length c9)) g (.slice (some ⟨bb, off, none⟩) n9 c) (.slice a9 l'.length c9)) := R9
      have k3 := s9.cell
      have k4 := s9.frz
      clear cr R9 s9
      generalize l'.length = n8 at *
      go_wp2
      go_ret
      exact ⟨rfl, _, R.out⟩
    · have d2 : decide (t < y.2) = false := by simpa using hhi
      have HMV : Hid ([(x.1, f - 1)] = mv) := by unfold Hid; rw [HRV.out, if_pos hlo, if_neg hhi]; rfl
      clear HRV
      go_enter Tryd.func15, Tryd.ntmps15
      go_wp2_with fail
      refine cm.mono ?_
      rintro e w1 ⟨rfl, e1⟩
      rw [e1]
      clear cm e1 w1
      go_wp2_with fail
      refine cc.mono ?_
      rintro e w2 ⟨rfl, b1⟩
      have B2 : Hid (Below w.heap.size w w2) := b1
      have ce := HEA.out w2 B2.out
      clear cc b1 HEA
      go_wp2_with fail
      refine ce.mono ?_
      rintro e w3 ⟨rfl, b3⟩
      have B3 : Hid (Below w.heap.size w w3) := B2.out.trans (b3.mono B2.out.size)
      have ce := HBU.out w3 B3.out
      clear b3 B2 HBU
      go_wp2_with fail
      refine ce.mono ?_
      rintro e w4 ⟨rfl, b4⟩
      have B4 : Hid (Below w.heap.size w w4) := B3.out.trans (b4.mono B3.out.size)
      obtain ⟨k0, k1, k2⟩ := HC.out w4 B4.out
      clear ce b4 B3
      have HOW : Hid ((w4.alloc (.cells #[.int .i64 x.1, .int .i64 (f - 1)] 58)).ownsRow w.heap.size 58 2 (.slice none 0 0) 0 []) := ⟨rfl, .inl ⟨rfl, rfl⟩⟩
      have HT2 : Hid (∀ j u, [Value.int .i64 x.1, .int .i64 (f - 1)][j]? = some u → (w4.alloc (.cells #[.int .i64 x.1, .int .i64 (f - 1)] 58)).cell? ((⟨w4.heap.size, 0, none⟩ : Addr).add j) = some u) := two_cells w4 _ _
      have HSZ : Hid (w.heap.size ≤ (w4.alloc (.cells #[.int .i64 x.1, .int .i64 (f - 1)] 58)).heap.size) := Nat.le_trans B4.out.size (al_below _ _).size
      go_wp2_with (at_builtin; refine wpList_append_own_at _ rfl _ _ 28 rfl w.heap.size 58 i0 (.agg #[.int .i64 0, .int .i64 0]) 2 16 Tryd.underlying28 hi0 hz0 hzs hzb rfl (by decide) _ 0 [] rfl HOW.out ⟨w4.heap.size, 0, none⟩ 1 1 [.int .i64 x.1, .int .i64 (f - 1)] rfl rfl HT2.out (by simp [Value.oneCell']) (by unfold maxLen; omega) (by omega) HSZ.out (Hid.out ?_))
      unfold Hid
      intro v5 w5 o5 g5 _ _
      obtain ⟨a5, c5, rfl⟩ := own_shape o5
      have B5 : Hid (Below w.heap.size w w5) := below_grw (B4.out.alloc B4.out.size _) (Nat.le_refl _) g5 (fun k hk => by cases hk)
      have R5 : Hid (w5.ownsRow w.heap.size 58 2 (.slice a5 1 c5) 1 ([.int .i64 x.1, .int .i64 (f - 1)])) := o5
      clear o5 g5 HOW HT2 HSZ
      obtain ⟨_, k1, k2⟩ := HC.out w5 B5.out
      have k0 := (HC.out w5 B5.out).1
      have cr := HRP.out w5 (.slice a5 1 c5) [(x.1, f - 1)] HMV.out B5.out (RSp.of R5.out) (fun e => by cases e)
      clear HRP HMV
      go_wp2_with fail
      refine cr.mono ?_
      rintro e w9 ⟨v9, rfl, s9, R9⟩
      obtain ⟨a9, c9, rfl, -, -, -⟩ := R9.1.rs.is.shape
      have R : Hid (ST (w9.setCell ⟨g, 0, none⟩ (.slice a9 l'.length c9)) B g (.slice a9 l'.length c9) l' ∧ SU w (w9.setCell ⟨g, 0, none⟩ (.slice a9 l'.length c9)) g (.slice (some ⟨bb, off, none⟩) n9 c) (.slice a9 l'.length c9)) := R9
      have k3 := s9.cell
      have k4 := s9.frz
      clear cr R9 s9
      generalize l'.length = n8 at *
      go_wp2
      go_ret
      exact ⟨rfl, _, R.out⟩
  · have d1 : decide (x.1 < f) = false := by simpa using hlo
    by_cases hhi : t < y.2
    · have d2 : decide (t < y.2) = true := by simpa using hhi
      have HMV : Hid ([(t + 1, y.2)] = mv) := by unfold Hid; rw [HRV.out, if_neg hlo, if_pos hhi]; rfl
      clear HRV
      go_enter Tryd.func15, Tryd.ntmps15
      go_wp2_with fail
      refine cm.mono ?_
      rintro e w1 ⟨rfl, e1⟩
      rw [e1]
      clear cm e1 w1
      go_wp2_with fail
      refine cc.mono ?_
      rintro e w2 ⟨rfl, b1⟩
      have B2 : Hid (Below w.heap.size w w2) := b1
      have ce := HEA.out w2 B2.out
      clear cc b1 HEA
      go_wp2_with fail
      refine ce.mono ?_
      rintro e w3 ⟨rfl, b3⟩
      have B3 : Hid (Below w.heap.size w w3) := B2.out.trans (b3.mono B2.out.size)
      have ce := HBU.out w3 B3.out
      clear b3 B2 HBU
      go_wp2_with fail
      refine ce.mono ?_
      rintro e w4 ⟨rfl, b4⟩
      have B4 : Hid (Below w.heap.size w w4) := B3.out.trans (b4.mono B3.out.size)
      obtain ⟨k0, k1, k2⟩ := HC.out w4 B4.out
      clear ce b4 B3
      have HOW : Hid ((w4.alloc (.cells #[.int .i64 (t + 1), .int .i64 y.2] 58)).ownsRow w.heap.size 58 2 (.slice none 0 0) 0 []) := ⟨rfl, .inl ⟨rfl, rfl⟩⟩
      have HT2 : Hid (∀ j u, [Value.int .i64 (t + 1), .int .i64 y.2][j]? = some u → (w4.alloc (.cells #[.int .i64 (t + 1), .int .i64 y.2] 58)).cell? ((⟨w4.heap.size, 0, none⟩ : Addr).add j) = some u) := two_cells w4 _ _
      have HSZ : Hid (w.heap.size ≤ (w4.alloc (.cells #[.int .i64 (t + 1), .int .i64 y.2] 58)).heap.size) := Nat.le_trans B4.out.size (al_below _ _).size
      go_wp2_with (at_builtin; refine wpList_append_own_at _ rfl _ _ 28 rfl w.heap.size 58 i0 (.agg #[.int .i64 0, .int .i64 0]) 2 16 Tryd.underlying28 hi0 hz0 hzs hzb rfl (by decide) _ 0 [] rfl HOW.out ⟨w4.heap.size, 0, none⟩ 1 1 [.int .i64 (t + 1), .int .i64 y.2] rfl rfl HT2.out (by simp [Value.oneCell']) (by unfold maxLen; omega) (by omega) HSZ.out (Hid.out ?_))
      unfold Hid
      intro v6 w6 o5 g5 _ _
      obtain ⟨a5, c5, rfl⟩ := own_shape o5
      have B6 : Hid (Below w.heap.size w w6) := below_grw (B4.out.alloc B4.out.size _) (Nat.le_refl _) g5 (fun k hk => by cases hk)
      have R6 : Hid (w6.ownsRow w.heap.size 58 2 (.slice a5 1 c5) 1 ([.int .i64 (t + 1), .int .i64 y.2])) := o5
      clear o5 g5 HOW HT2 HSZ
      have k0 := (HC.out w6 B6.out).1
      have cr := HRP.out w6 (.slice a5 1 c5) [(t + 1, y.2)] HMV.out B6.out (RSp.of R6.out) (fun e => by cases e)
      clear HRP HMV
      go_wp2_with fail
      refine cr.mono ?_
      rintro e w9 ⟨v9, rfl, s9, R9⟩
      obtain ⟨a9, c9, rfl, -, -, -⟩ := R9.1.rs.is.shape
      have R : Hid (ST (w9.setCell ⟨g, 0, none⟩ (.slice a9 l'.length c9)) B g (.slice a9 l'.length c9) l' ∧ SU w (w9.setCell ⟨g, 0, none⟩ (.slice a9 l'.length c9)) g (.slice (some ⟨bb, off, none⟩) n9 c) (.slice a9 l'.length c9)) := R9
      have k3 := s9.cell
      have k4 := s9.frz
      clear cr R9 s9
      generalize l'.length = n8 at *
      go_wp2
      go_ret
      exact ⟨rfl, _, R.out⟩
    · have d2 : decide (t < y.2) = false := by simpa using hhi
      have HMV : Hid ([] = mv) := by unfold Hid; rw [HRV.out, if_neg hlo, if_neg hhi]; rfl
      clear HRV
      go_enter Tryd.func15, Tryd.ntmps15
      go_wp2_with fail
      refine cm.mono ?_
      rintro e w1 ⟨rfl, e1⟩
      rw [e1]
      clear cm e1 w1
      go_wp2_with fail
      refine cc.mono ?_
      rintro e w2 ⟨rfl, b1⟩
      have B2 : Hid (Below w.heap.size w w2) := b1
      have ce := HEA.out w2 B2.out
      clear cc b1 HEA
      go_wp2_with fail
      refine ce.mono ?_
      rintro e w3 ⟨rfl, b3⟩
      have B3 : Hid (Below w.heap.size w w3) := B2.out.trans (b3.mono B2.out.size)
      have ce := HBU.out w3 B3.out
      clear b3 B2 HBU
      go_wp2_with fail
      refine ce.mono ?_
      rintro e w4 ⟨rfl, b4⟩
      have B4 : Hid (Below w.heap.size w w4) := B3.out.trans (b4.mono B3.out.size)
      obtain ⟨k0, k1, k2⟩ := HC.out w4 B4.out
      clear ce b4 B3
      have cr := HRP.out w4 (.slice none 0 0) [] HMV.out B4.out (RSp.nil _ _) (fun _ => rfl)
      clear HRP HMV
      go_wp2_with fail
      refine cr.mono ?_
      rintro e w9 ⟨v9, rfl, s9, R9⟩
      obtain ⟨a9, c9, rfl, -, -, -⟩ := R9.1.rs.is.shape
      have R : Hid (ST (w9.setCell ⟨g, 0, none⟩ (.slice a9 l'.length c9)) B g (.slice a9 l'.length c9) l' ∧ SU w (w9.setCell ⟨g, 0, none⟩ (.slice a9 l'.length c9)) g (.slice (some ⟨bb, off, none⟩) n9 c) (.slice a9 l'.length c9)) := R9
      have k3 := s9.cell
      have k4 := s9.frz
      clear cr R9 s9
      generalize l'.length = n8 at *
      go_wp2
      go_ret
      exact ⟨rfl, _, R.out⟩
theorem rem_any (w : World) (B g : Nat) (v : Value) (l : List Sp) (f t : Int) (h : ST w B g v l) (hl : l.length ≤ 998) (hB : B ≤ w.heap.size) :
    Calls Tryd.prog 15 #[.pointer (some ⟨g, 0, none⟩), .int .i64 f, .int .i64 t] w fun e w' => e = .returned (.int .i64 (rmN l f t)) ∧ ∃ v', ST w' B g v' (rmP l f t) ∧ SU w w' g v v' := by
  by_cases hm : may f t = true
  · have e1 : rmN l f t = cnt (clip l f t) := by unfold rmN; exact if_pos hm
    have e2 : rmP l f t = remL l f t := by unfold rmP; exact if_pos hm
    rw [e1, e2]
    by_cases hc : cnt (clip l f t) = 0
    · have ok := (may_iff f t).1 hm
      have hcl : clip l f t = [] := (cnt_pos (clip_canon h.cn ok.2.1)).1 hc
      have e3 : remL l f t = l := by unfold remL; exact if_pos hcl
      rw [hc, e3]
      refine (rem_no w B g v l f t h (.inr hc)).mono ?_
      rintro e w' ⟨rfl, b⟩
      exact ⟨rfl, v, h.below b, SU.of b⟩
    · exact rem_yes w B g v l f t h hl hB hm hc
  · have e1 : rmN l f t = 0 := by unfold rmN; exact if_neg hm
    have e2 : rmP l f t = l := by unfold rmP; exact if_neg hm
    rw [e1, e2]
    refine (rem_no w B g v l f t h (.inl (by simpa using hm))).mono ?_
    rintro e w' ⟨rfl, b⟩
    exact ⟨rfl, v, h.below b, SU.of b⟩
set_option maxHeartbeats 400000 in
theorem rem_nil (w : World) (f t : Int) : Calls Tryd.prog 15 #[.pointer none, .int .i64 f, .int .i64 t] w fun e w' => e = .returned (.int .i64 0) ∧ w' = w := by
  go_enter Tryd.func15, Tryd.ntmps15
  go_wp2
  go_ret
  exact ⟨rfl, rfl⟩
end Go.Proofs.YtaghmoddalbepaaDoor
