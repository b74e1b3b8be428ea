/-
  TreeBack: for every list of entries, every entry and every path: what was put is got, all else is as it was, and removed again the tree is as it was, if it was not there. No condition.
-/
import Derived.Test.YtdomknajkipmnaaDoorAw
import Derived.Test.YtdomknajkipmnaaDoorFr
namespace Go.Proofs.YtdomknajkipmnaaDoor.treeBack
open Go.ChangeShapes Go.WideShapes Go.ChangeAt Go.RowKit Go.Deep Go.ChangeMaps

/-- What was put is got, all else stays; removed again it is as it was. -/
theorem back_plain (l : List En) (x : En) (hl : l.length ≤ 60) (hs : ∀ y ∈ l, y.p.size ≤ 1000 ∧ y.z.length ≤ 20000) (hx : x.p.size ≤ 1000) (hz : x.z.length ≤ 20000) (h : (put l x).2 = 0) :
    ckT (put l x).1 = 0 ∧ gotB (put l x).1 x.k = true ∧ got (put l x).1 x.k = x ∧ (∀ q, q ≠ x.k → gotB (put l x).1 q = gotB l q ∧ got (put l x).1 q = got l q) ∧
      (gotB l x.k = true → (put l x).1.length = l.length) ∧ (gotB l x.k = false → rem (put l x).1 x.k = (l, 0)) ∧ Lt (put l x).1 := by
  obtain ⟨h1, h2, h3⟩ := put_ok h
  rw [h3]
  have hc := mad_chk h2
  have hf := has_fnd h1 hc
  refine ⟨h2, (mad_self h2).1, (mad_self h2).2, fun q hq => mad_got q hq, fun hw => ?_, fun hw => mad_rem h1 h2 hw, ?_, fun y hy => ?_⟩
  · rw [mad_len, hf, hw, if_pos rfl]
  · rw [mad_len]
    split <;> omega
  · unfold mad at hy
    rw [List.mem_append, List.mem_append, List.mem_singleton] at hy
    rcases hy with (hy | rfl) | hy
    · have := hs y (List.mem_of_mem_take hy)
      omega
    · omega
    · have := hs y (List.mem_of_mem_drop hy)
      omega
set_option maxHeartbeats 4000000 in
theorem walk (v : Value) (l : List En) (u : Value) (x : En) (p : ByteArray) (w : World) (hw : Mx w) (hes : ES w v l) (hev : EV w u x) (_wp : p.size ≤ maxLen) :
    Calls Tryd.prog 6 #[v, u, .string p] w fun e w' => e = .returned (.bool true) ∧ Below w.heap.size w w' := by
  obtain ⟨a, c, rfl, g2, g3, _⟩ := hes.shape
  obtain ⟨ua, un, uc, rfl, sl⟩ := hev
  have HM : Hid (Mx w) := hw
  have HS : Hid (ES w (.slice a l.length c) l) := hes
  have HSX : Hid (∀ W, Below w.heap.size w W → EV W (.agg #[.string x.p, .bool x.d, .slice ua un uc]) x) := fun W hb => ⟨ua, un, uc, rfl, sl.kept hb⟩
  obtain ⟨W1, hW1⟩ : ∃ W1, W1 = w.alloc (.cells #[.string x.p, .bool x.d, .slice ua un uc] 32) := ⟨_, rfl⟩
  have b1 : Below w.heap.size w W1 := by rw [hW1]; exact (Below.refl _ _).alloc (Nat.le_refl _) _
  have B1 : Hid (Below w.heap.size w W1) := b1
  have K1 : Hid (W1.heap[w.heap.size]? = some (.cells #[.string x.p, .bool x.d, .slice ua un uc] 32 (0, 0))) := by unfold Hid; rw [hW1]; exact heap_alloc_new _ _
  have HT : Hid (∀ W, Below W1.heap.size W1 W → W.heap[w.heap.size]? = some (.cells #[.string x.p, .bool x.d, .slice ua un uc] 32 (0, 0))) := fun W hb => (hb.block _ (lt_of_block K1.out)).trans K1.out
  have CL := light_any _ l 60 20000 W1 (HS.out.kept b1) (by omega) (by omega) (by unfold maxLen at g3; omega)
  have g9 : l.length ≤ 9223372036854775807 := by unfold maxLen at g3; omega
  obtain ⟨G1, hG1⟩ : ∃ G1 : Prop, G1 = (l.length ≤ 60 ∧ ∀ x ∈ l, x.p.size ≤ 1000 ∧ x.z.length ≤ 20000) := ⟨_, rfl⟩
  rw [← hG1] at CL
  have HG1 : Hid (G1 = (l.length ≤ 60 ∧ ∀ x ∈ l, x.p.size ≤ 1000 ∧ x.z.length ≤ 20000)) := hG1
  obtain ⟨n, hn'⟩ : ∃ n, n = l.length := ⟨_, rfl⟩
  have HN : Hid (n = l.length) := hn'
  rw [← hn'] at HS CL g2 g9 ⊢
  clear hw hes sl g3 hG1 hn' b1
  generalize hxp : x.p = xp at *
  generalize hxd : x.d = xd at *
  have HXP : Hid (x.p = xp) := hxp
  have HXD : Hid (x.d = xd) := hxd
  clear hxp hxd
  obtain ⟨p0, p1, p2, -, -, -⟩ := trio K1.out
  go_enter Tryd.func6, Tryd.ntmps6
  go_wp2_with fail
  rw [← hW1]
  clear hW1
  refine CL.mono ?_
  rintro e wq ⟨r, rfl, hq, hr⟩
  replace hq := hq.symm
  subst hq
  have HR : Hid (r = true → G1) := hr
  clear hr CL
  cases r with
  | false =>
    have aw := awake_any W1 (HM.out.kept B1.out)
    go_wp2_with (go_at_call 9; refine aw.mono ?_; rintro e w2 ⟨rfl, b2⟩)
    go_ret
    exact ⟨rfl, B1.out.trans (b2.mono B1.out.size)⟩
  | true =>
    have hG := HR.out rfl
    rw [HG1.out] at hG
    obtain ⟨hl60, hsz⟩ := hG
    have HSZ : Hid (∀ x ∈ l, x.p.size ≤ 1000 ∧ x.z.length ≤ 20000) := hsz
    have hn60 : n ≤ 60 := by rw [HN.out]; exact hl60
    have LL : Hid (Lt l) := ⟨by omega, fun y hy => by have := hsz y hy; omega⟩
    obtain ⟨W2, hW2⟩ : ∃ W2, W2 = W1.alloc (.cells #[.string xp, .bool xd, .slice ua un uc] 32) := ⟨_, rfl⟩
    have b2 : Below W1.heap.size W1 W2 := by rw [hW2]; exact (Below.refl _ _).alloc (Nat.le_refl _) _
    have D2 : Hid (Below W1.heap.size W1 W2) := b2
    have B2 : Hid (Below w.heap.size w W2) := B1.out.trans (b2.mono B1.out.size)
    have k2 : W2.heap[W1.heap.size]? = some (.cells #[.string xp, .bool xd, .slice ua un uc] 32 (0, 0)) := by rw [hW2]; exact heap_alloc_new _ _
    have es2 : ES W2 (.slice (some ⟨W1.heap.size, 0, none⟩) 1 1) [x] := by
      obtain ⟨ua', un', uc', e, sl⟩ := HSX.out W2 B2.out
      cases e
      refine ⟨fun _ => .slice ua un uc, _, 1, rfl, Nat.le_refl _, by unfold maxLen; omega, (fun e => by cases e), .inr ⟨_, 0, rfl, fun i hi => ?_⟩⟩
      obtain rfl : i = 0 := by simpa using hi
      obtain ⟨q0, q1, q2, -, -, -⟩ := trio k2
      rw [← HXP.out] at q0
      rw [← HXD.out] at q1
      exact ⟨q0, q1, q2, sl⟩
    have CL2 := light_any _ [x] 1 20000 W2 es2 (by omega) (by omega) (by simp)
    obtain ⟨G2, hG2⟩ : ∃ G2 : Prop, G2 = ([x].length ≤ 1 ∧ ∀ y ∈ [x], y.p.size ≤ 1000 ∧ y.z.length ≤ 20000) := ⟨_, rfl⟩
    rw [← hG2] at CL2
    have HG2 : Hid (G2 = ([x].length ≤ 1 ∧ ∀ y ∈ [x], y.p.size ≤ 1000 ∧ y.z.length ≤ 20000)) := hG2
    clear hG2 es2 k2 b2 HR HG1 hl60 hsz
    go_wp2_with fail
    rw [← hW2]
    clear hW2
    refine CL2.mono ?_
    rintro e wq ⟨r, rfl, hq, hr⟩
    replace hq := hq.symm
    subst hq
    have HR : Hid (r = true → G2) := hr
    clear hr CL2 p0 p1 p2
    have aw2 := awake_any W2 (HM.out.kept B2.out)
    cases r with
    | false =>
      go_wp2_with (go_at_call 9; refine aw2.mono ?_; rintro e w3 ⟨rfl, b3⟩)
      go_ret
      exact ⟨rfl, B2.out.trans (b3.mono B2.out.size)⟩
    | true =>
      have hG := HR.out rfl
      rw [HG2.out] at hG
      have hxs := hG.2 x (by simp)
      have HX : Hid (x.p.size ≤ 1000 ∧ x.z.length ≤ 20000) := hxs
      clear hG hxs HR HG2
      by_cases hps : 1000 < p.size
      · have hps2 : 1000 < (p.size : Int) := by omega
        go_wp2_with (go_at_call 9; refine aw2.mono ?_; rintro e w3 ⟨rfl, b3⟩)
        go_ret
        exact ⟨rfl, B2.out.trans (b3.mono B2.out.size)⟩
      have hps2 : ¬ 1000 < (p.size : Int) := by omega
      obtain ⟨p0, p1, p2, -, -, -⟩ := trio (HT.out W2 D2.out)
      have CG1 : Hid (Calls Tryd.prog 19 #[.slice a n c, .string xp] W2 fun e w' => ∃ u, e = .returned (.tuple #[u, .bool (gotB l x.k)]) ∧ EV w' u (got l x.k) ∧ Below W2.heap.size W2 w') := by
        have e := HXP.out
        subst e
        exact get_any _ l x.p W2 (HS.out.kept B2.out) LL.out
      have cg1 := CG1.out
      have CPU : Hid (∀ W, Below w.heap.size w W → Calls Tryd.prog 25 #[.slice a n c, .agg #[.string xp, .bool xd, .slice ua un uc]] W fun e w' => ∃ v', e = .returned (.tuple #[v', .int .i64 (put l x).2]) ∧ OE w' W.heap.size v' (put l x).1 ∧ Below W.heap.size W w') := fun W hb => put_any _ _ l x W (HS.out.kept hb) LL.out (HSX.out W hb) HX.out.1 (by have := HX.out.2; omega) (HM.out.kept hb)
      have HBAD : Hid ((put l x).2 ≠ 0 → (put l x).1 = []) := put_bad
      have HGOOD : Hid ((put l x).2 = 0 → ckT (put l x).1 = 0 ∧ gotB (put l x).1 x.k = true ∧ got (put l x).1 x.k = x ∧ (∀ q, q ≠ x.k → gotB (put l x).1 q = gotB l q ∧ got (put l x).1 q = got l q) ∧
          (gotB l x.k = true → (put l x).1.length = l.length) ∧ (gotB l x.k = false → rem (put l x).1 x.k = (l, 0)) ∧ Lt (put l x).1) := back_plain l x (by rw [← HN.out]; exact hn60) HSZ.out HX.out.1 HX.out.2
      have GL : Hid (∀ W, Below w.heap.size w W → Calls Tryd.prog 19 #[.slice a n c, .string p] W fun e w' => ∃ u, e = .returned (.tuple #[u, .bool (gotB l (dl p))]) ∧ EV w' u (got l (dl p)) ∧ Below W.heap.size W w') := fun W hb => get_any _ l p W (HS.out.kept hb) LL.out
      clear CG1 aw2
      generalize (put l x).2 = e1 at *
      generalize (put l x).1 = M at *
      generalize hwas : gotB l x.k = was at *
      have HWAS : Hid (gotB l x.k = was) := hwas
      clear hwas
      go_wp2_with fail
      refine cg1.mono ?_
      rintro e w3 ⟨u3, rfl, ⟨va, vn, vc, rfl, -⟩, b3⟩
      obtain ⟨W3, hW3⟩ : ∃ W3, W3 = w3.alloc (.cells #[.string (got l x.k).p, .bool (got l x.k).d, .slice va vn vc] 32) := ⟨_, rfl⟩
      have b3' : Below W2.heap.size W2 W3 := by rw [hW3]; exact b3.trans (((Below.refl _ _).alloc (Nat.le_refl _) _).mono b3.size)
      have D3 : Hid (Below W1.heap.size W1 W3) := D2.out.trans (b3'.mono D2.out.size)
      have B3 : Hid (Below w.heap.size w W3) := B2.out.trans (b3'.mono B2.out.size)
      have cpu := CPU.out W3 B3.out
      obtain ⟨q0, q1, q2, -, -, -⟩ := trio (HT.out W3 D3.out)
      generalize got l x.k = g1 at *
      rw [hW3] at q0 q1 q2
      clear b3 b3' cg1 p0 p1 p2 CPU
      go_wp2_with fail
      rw [← hW3]
      clear hW3 q0 q1 q2
      refine cpu.mono ?_
      rintro e w4 ⟨v4, rfl, o4, b4⟩
      have D4 : Hid (Below W1.heap.size W1 w4) := D3.out.trans (b4.mono D3.out.size)
      have B4 : Hid (Below w.heap.size w w4) := B3.out.trans (b4.mono B3.out.size)
      have E4 : Hid (ES w4 v4 M) := o4.es
      obtain ⟨a4, c4, rfl, -⟩ := o4.es.shape
      obtain ⟨p0, p1, p2, -, -, -⟩ := trio (HT.out w4 D4.out)
      clear b4 o4 cpu D3 B3
      by_cases he1 : e1 = 0
      · subst he1
        obtain ⟨f1, f2, f3, f4, f5, f6, f7⟩ := HGOOD.out rfl
        have LM : Hid (Lt M) := f7
        have HLEN : Hid (was = true → M.length = n) := fun h => by rw [HN.out]; exact f5 h
        have GX : Hid (∀ W, Below w4.heap.size w4 W → Calls Tryd.prog 19 #[.slice a4 M.length c4, .string xp] W fun e w' => ∃ u, e = .returned (.tuple #[u, .bool true]) ∧ EV w' u x ∧ Below W.heap.size W w') := fun W hb => by
          have e := HXP.out
          subst e
          have := get_any _ M x.p W (E4.out.kept hb) f7
          rw [f2, f3] at this
          exact this
        have GP : Hid (∀ W, Below w4.heap.size w4 W → Calls Tryd.prog 19 #[.slice a4 M.length c4, .string p] W fun e w' => ∃ u, e = .returned (.tuple #[u, .bool (gotB M (dl p))]) ∧ EV w' u (got M (dl p)) ∧ Below W.heap.size W w') := fun W hb => get_any _ M p W (E4.out.kept hb) f7
        have CK : Hid (∀ W, Below w4.heap.size w4 W → Calls Tryd.prog 10 #[.slice a4 M.length c4] W fun e w' => e = .returned (.int .i64 0) ∧ Below W.heap.size W w') := fun W hb => by
          have := checkT_any _ M W (E4.out.kept hb) f7 (HM.out.kept (B4.out.trans (hb.mono B4.out.size)))
          rw [f1] at this
          exact this
        have RX : Hid (was = false → ∀ W, Below w4.heap.size w4 W → Calls Tryd.prog 27 #[.slice a4 M.length c4, .string xp] W fun e w' => ∃ v', e = .returned (.tuple #[v', .int .i64 0]) ∧ OE w' W.heap.size v' l ∧ Below W.heap.size W w') := fun hw W hb => by
          have e := HXP.out
          subst e
          have := rem_any _ M x.p W (E4.out.kept hb) f7 (HM.out.kept (B4.out.trans (hb.mono B4.out.size)))
          rw [f6 hw] at this
          exact this
        have HPQ : Hid (p ≠ xp → gotB M (dl p) = gotB l (dl p) ∧ got M (dl p) = got l (dl p)) := fun hp => f4 _ (fun e => hp (by rw [← HXP.out]; exact dl_inj e))
        clear f1 f2 f3 f4 f5 f6 f7 HGOOD HBAD
        generalize gotB M (dl p) = bd at *
        generalize gotB l (dl p) = bb at *
        generalize got M (dl p) = ec at *
        generalize got l (dl p) = ea at *
        obtain ⟨nM, hnM⟩ : ∃ nM, nM = M.length := ⟨_, rfl⟩
        rw [← hnM] at GX GP CK RX E4 HLEN ⊢
        clear hnM
        have cx := GX.out w4 (Below.refl _ _)
        go_wp2_with fail
        refine cx.mono ?_
        rintro e w5 ⟨u5, rfl, ⟨ya, yn, yc, rfl, y5⟩, b5⟩
        obtain ⟨W5, hW5⟩ : ∃ W5, W5 = w5.alloc (.cells #[.string x.p, .bool x.d, .slice ya yn yc] 32) := ⟨_, rfl⟩
        have n5 : Below w5.heap.size w5 W5 := by rw [hW5]; exact (Below.refl _ _).alloc (Nat.le_refl _) _
        have k5 : W5.heap[w5.heap.size]? = some (.cells #[.string x.p, .bool x.d, .slice ya yn yc] 32 (0, 0)) := by rw [hW5]; exact heap_alloc_new _ _
        have HY : Hid (∀ W, Below W5.heap.size W5 W → W.heap[w5.heap.size]? = some (.cells #[.string x.p, .bool x.d, .slice ya yn yc] 32 (0, 0)) ∧ EV W (.agg #[.string x.p, .bool x.d, .slice ya yn yc]) x) := fun W hb => ⟨(hb.block _ (lt_of_block k5)).trans k5, ⟨ya, yn, yc, rfl, y5.kept (n5.trans (hb.mono n5.size))⟩⟩
        have A5 : Hid (Below w4.heap.size w4 W5) := b5.trans (n5.mono b5.size)
        have B5 : Hid (Below w.heap.size w W5) := B4.out.trans (A5.out.mono B4.out.size)
        have cl := GL.out W5 B5.out
        rw [HXP.out, HXD.out] at HY hW5
        rw [HXP.out, HXD.out]
        clear n5 k5 b5 y5 cx
        go_wp2_with fail
        rw [← hW5]
        clear hW5
        refine cl.mono ?_
        rintro e w6 ⟨u6, rfl, ⟨za, zn, zc, rfl, z6⟩, b6⟩
        obtain ⟨W6, hW6⟩ : ∃ W6, W6 = w6.alloc (.cells #[.string ea.p, .bool ea.d, .slice za zn zc] 32) := ⟨_, rfl⟩
        have n6 : Below w6.heap.size w6 W6 := by rw [hW6]; exact (Below.refl _ _).alloc (Nat.le_refl _) _
        have k6 : W6.heap[w6.heap.size]? = some (.cells #[.string ea.p, .bool ea.d, .slice za zn zc] 32 (0, 0)) := by rw [hW6]; exact heap_alloc_new _ _
        have HA : Hid (∀ W, Below W6.heap.size W6 W → W.heap[w6.heap.size]? = some (.cells #[.string ea.p, .bool ea.d, .slice za zn zc] 32 (0, 0)) ∧ EV W (.agg #[.string ea.p, .bool ea.d, .slice za zn zc]) ea) := fun W hb => ⟨(hb.block _ (lt_of_block k6)).trans k6, ⟨za, zn, zc, rfl, z6.kept (n6.trans (hb.mono n6.size))⟩⟩
        have Y6 : Hid (Below W5.heap.size W5 W6) := b6.trans (n6.mono b6.size)
        have A6 : Hid (Below w4.heap.size w4 W6) := A5.out.trans (Y6.out.mono A5.out.size)
        have cp := GP.out W6 A6.out
        clear n6 k6 b6 z6 cl GL GP GX
        go_wp2_with fail
        rw [← hW6]
        clear hW6
        refine cp.mono ?_
        rintro e w7 ⟨u7, rfl, ⟨ta, tn, tc, rfl, z7⟩, b7⟩
        obtain ⟨W7, hW7⟩ : ∃ W7, W7 = w7.alloc (.cells #[.string ec.p, .bool ec.d, .slice ta tn tc] 32) := ⟨_, rfl⟩
        have n7 : Below w7.heap.size w7 W7 := by rw [hW7]; exact (Below.refl _ _).alloc (Nat.le_refl _) _
        have k7 : W7.heap[w7.heap.size]? = some (.cells #[.string ec.p, .bool ec.d, .slice ta tn tc] 32 (0, 0)) := by rw [hW7]; exact heap_alloc_new _ _
        have HC : Hid (∀ W, Below W7.heap.size W7 W → W.heap[w7.heap.size]? = some (.cells #[.string ec.p, .bool ec.d, .slice ta tn tc] 32 (0, 0)) ∧ EV W (.agg #[.string ec.p, .bool ec.d, .slice ta tn tc]) ec) := fun W hb => ⟨(hb.block _ (lt_of_block k7)).trans k7, ⟨ta, tn, tc, rfl, z7.kept (n7.trans (hb.mono n7.size))⟩⟩
        have Z7 : Hid (Below W6.heap.size W6 W7) := b7.trans (n7.mono b7.size)
        have Y7 : Hid (Below W5.heap.size W5 W7) := Y6.out.trans (Z7.out.mono Y6.out.size)
        have A7 : Hid (Below w4.heap.size w4 W7) := A5.out.trans (Y7.out.mono A5.out.size)
        have D7 : Hid (Below W1.heap.size W1 W7) := D4.out.trans (A7.out.mono D4.out.size)
        have B7 : Hid (Below w.heap.size w W7) := B4.out.trans (A7.out.mono B4.out.size)
        obtain ⟨i0, i1, i2, -, -, -⟩ := trio (HT.out W7 D7.out)
        obtain ⟨j0, j1, j2, -, -, -⟩ := trio (HY.out W7 Y7.out).1
        have cs : Calls Tryd.prog 23 #[.agg #[.string xp, .bool xd, .slice ua un uc], .agg #[.string xp, .bool xd, .slice ya yn yc]] W7 fun e w' => e = .returned (.bool true) ∧ Below W7.heap.size W7 w' := by
          have := rsameEntry_any _ _ x x W7 (HSX.out W7 B7.out) (HY.out W7 Y7.out).2
          rwa [(samE_iff x x).2 rfl] at this
        rw [hW7] at i0 i1 i2 j0 j1 j2
        clear n7 k7 b7 z7 cp p0 p1 p2
        go_wp2_with fail
        rw [← hW7]
        clear hW7 i0 i1 i2 j0 j1 j2
        refine cs.mono ?_
        rintro e w8 ⟨rfl, b8⟩
        have V8 : Hid (Below W7.heap.size W7 w8) := b8
        have A8 : Hid (Below w4.heap.size w4 w8) := A7.out.trans (b8.mono A7.out.size)
        have ck := CK.out w8 A8.out
        clear b8 cs
        go_wp2_with fail
        refine ck.mono ?_
        rintro e w9 ⟨rfl, b9⟩
        have V9 : Hid (Below W7.heap.size W7 w9) := V8.out.trans (b9.mono V8.out.size)
        have A9 : Hid (Below w4.heap.size w4 w9) := A7.out.trans (V9.out.mono A7.out.size)
        have D9 : Hid (Below W1.heap.size W1 w9) := D4.out.trans (A9.out.mono D4.out.size)
        have B9 : Hid (Below w.heap.size w w9) := B4.out.trans (A9.out.mono B4.out.size)
        obtain ⟨i0, i1, i2, -, -, -⟩ := trio (HT.out w9 D9.out)
        have tq := tl_beq p xp
        clear b9 ck V8 A8 CK
        by_cases hpx : p = xp
        · rw [decide_eq_true hpx] at tq
          clear hpx HPQ
          cases was with
          | true =>
            have hlen := HLEN.out rfl
            subst hlen
            have aw := awake_any w9 (HM.out.kept B9.out)
            clear HLEN RX
            go_wp2_with (go_at_call 9; refine aw.mono ?_; rintro e w11 ⟨rfl, b11⟩)
            go_ret
            exact ⟨rfl, B9.out.trans (b11.mono B9.out.size)⟩
          | false =>
            have rx := RX.out rfl w9 A9.out
            clear HLEN RX
            go_wp2_with fail
            refine rx.mono ?_
            rintro e w11 ⟨v11, rfl, o11, b11⟩
            have B11 : Hid (Below w.heap.size w w11) := B9.out.trans (b11.mono B9.out.size)
            have sm := same_any v11 (.slice a n c) l l w11 o11.es (HS.out.kept B11.out) (by rw [← HN.out]; omega) (by rw [← HN.out]; omega)
            have hsm : sam l l = true := (sam_iff l l).2 rfl
            rw [hsm] at sm
            obtain ⟨a11, c11, rfl, -⟩ := o11.es.shape
            clear o11 b11 hsm rx
            go_wp2_with fail
            refine sm.mono ?_
            rintro e w12 ⟨rfl, b12⟩
            have B12 : Hid (Below w.heap.size w w12) := B11.out.trans (b12.mono B11.out.size)
            have aw := awake_any w12 (HM.out.kept B12.out)
            clear b12 sm
            go_wp2_with fail
            refine aw.mono ?_
            rintro e w13 ⟨rfl, b13⟩
            have B13 : Hid (Below w.heap.size w w13) := B12.out.trans (b13.mono B12.out.size)
            clear b13 aw
            go_wp2
            go_ret
            exact ⟨rfl, B13.out⟩
        · rw [decide_eq_false hpx] at tq
          obtain ⟨rfl, rfl⟩ := HPQ.out hpx
          clear hpx HPQ
          have Z9 : Hid (Below W6.heap.size W6 w9) := Z7.out.trans (V9.out.mono Z7.out.size)
          obtain ⟨m0, m1, m2, -, -, -⟩ := trio (HA.out w9 Z9.out).1
          obtain ⟨l0, l1, l2, -, -, -⟩ := trio (HC.out w9 V9.out).1
          have cs2 := rsameEntry_any _ _ _ _ w9 (HA.out w9 Z9.out).2 (HC.out w9 V9.out).2
          rw [(samE_iff _ _).2 rfl] at cs2
          go_wp2_with fail
          refine cs2.mono ?_
          rintro e w10 ⟨rfl, b10⟩
          clear m0 m1 m2 l0 l1 l2 i0 i1 i2 cs2
          have A10 : Hid (Below w4.heap.size w4 w10) := A9.out.trans (b10.mono A9.out.size)
          have D10 : Hid (Below W1.heap.size W1 w10) := D4.out.trans (A10.out.mono D4.out.size)
          have B10 : Hid (Below w.heap.size w w10) := B4.out.trans (A10.out.mono B4.out.size)
          obtain ⟨i0, i1, i2, -, -, -⟩ := trio (HT.out w10 D10.out)
          clear b10 A9 D9 B9 V9 Z9
          cases was with
          | true =>
            have hlen := HLEN.out rfl
            subst hlen
            have aw := awake_any w10 (HM.out.kept B10.out)
            clear HLEN RX
            go_wp2_with (go_at_call 9; refine aw.mono ?_; rintro e w11 ⟨rfl, b11⟩)
            go_ret
            exact ⟨rfl, B10.out.trans (b11.mono B10.out.size)⟩
          | false =>
            have rx := RX.out rfl w10 A10.out
            clear HLEN RX
            go_wp2_with fail
            refine rx.mono ?_
            rintro e w11 ⟨v11, rfl, o11, b11⟩
            have B11 : Hid (Below w.heap.size w w11) := B10.out.trans (b11.mono B10.out.size)
            have sm := same_any v11 (.slice a n c) l l w11 o11.es (HS.out.kept B11.out) (by rw [← HN.out]; omega) (by rw [← HN.out]; omega)
            have hsm : sam l l = true := (sam_iff l l).2 rfl
            rw [hsm] at sm
            obtain ⟨a11, c11, rfl, -⟩ := o11.es.shape
            clear o11 b11 hsm rx
            go_wp2_with fail
            refine sm.mono ?_
            rintro e w12 ⟨rfl, b12⟩
            have B12 : Hid (Below w.heap.size w w12) := B11.out.trans (b12.mono B11.out.size)
            have aw := awake_any w12 (HM.out.kept B12.out)
            clear b12 sm
            go_wp2_with fail
            refine aw.mono ?_
            rintro e w13 ⟨rfl, b13⟩
            have B13 : Hid (Below w.heap.size w w13) := B12.out.trans (b13.mono B12.out.size)
            clear b13 aw
            go_wp2
            go_ret
            exact ⟨rfl, B13.out⟩
      · have hM := HBAD.out he1
        subst hM
        have te : (e1 != 0) = true := by simp [he1]
        have aw4 := awake_any w4 (HM.out.kept B4.out)
        clear HGOOD HBAD
        go_wp2_with (go_at_call 9; refine aw4.mono ?_; rintro e w5 ⟨rfl, b5⟩)
        go_ret
        exact ⟨rfl, B4.out.trans (b5.mono B4.out.size)⟩

theorem contract (H : Type) (enc : TypeId × Value → H) (W : World) (base : Nat) (args : Array Value) (ds gs : List (DataW H)) (before : List MemPlace)
    (hval : ∀ (j : Nat) t v, Tryd.f6.params[j]? = some t → args[j]? = some v → Value.okWide Tryd.prog W .any base t v)
    (hW : DataW.Whole enc Tryd.prog Tryd.f6.params.toList Rows.treeBackSpec.vars false W args.toList ds gs before) (_hL : laidMetH Tryd.prog Rows.treeBackRow.laid W) (hsh : W.ShapedOpen Tryd.prog)
    (hsz0 : (DataW.weightsEach Tryd.prog (Tryd.f6.params.toList ++ Rows.treeBackSpec.plain.varTypes Tryd.prog) (ds ++ gs)).all (· ≤ reachBytes) = true) :
    Calls Tryd.prog 6 args W fun e W' => ∃ v, e = .returned v ∧ Rows.treeBackSpec.post enc Tryd.prog Tryd.f6 false true false false W args v W' := by
  have hW' := hW
  obtain ⟨p, q, hA0, hV, rfl, hfz, hnd⟩ := hW
  have hA : DataW.TrodAll enc Tryd.prog W 0 (fun _ => true) true Tryd.f6.params.toList args.toList ds p := hA0
  rw [Tryd.params6] at hA hval hsz0
  obtain ⟨v0, vs0, d0, ds0, p0, q0, hargs, rfl, rfl, h0, r0⟩ := trodAll_cons hA
  obtain ⟨v1, vs1, d1, ds1, p1, q1, rfl, rfl, rfl, h1, r1⟩ := trodAll_cons r0
  obtain ⟨v2, vs2, d2, ds2, p2, q2, rfl, rfl, rfl, h2, r2⟩ := trodAll_cons r1
  obtain ⟨rfl, rfl, rfl⟩ := trodAll_nil r2
  obtain rfl : args = #[v0, v1, v2] := by cases args; simp_all
  obtain ⟨rfl, rfl⟩ := trodVars_none hV
  have k0 := h0
  have lt0 : ∀ x ∈ p0, x.block < W.heap.size := by obtain ⟨m, hm⟩ := k0; exact DataW.trod_lt m _ _ _ hm
  obtain ⟨L0, w0⟩ := ents_in (hval 0 22 v0 rfl rfl) h0
  have k1 := h1
  have lt1 : ∀ x ∈ p1, x.block < W.heap.size := by obtain ⟨m, hm⟩ := k1; exact DataW.trod_lt m _ _ _ hm
  obtain ⟨L1, w1⟩ := ent_in (hval 1 32 v1 rfl rfl) h1
  obtain ⟨a2, rfl, rfl, rfl, w2⟩ := open_string Tryd.underlying9 (hval 2 9 v2 rfl rfl) h2
  clear hA0
  refine (walk v0 L0 v1 L1 a2 W (mx_of hsh) w0 w1 w2).mono fun e W' ⟨he, bel⟩ => ?_
  subst he
  exact ⟨_, rfl, _, _, _, [], _, [], hW', trodAll_mk1 (shut_bool Tryd.underlying4 _), (trodAll_cons_mk (Below.trod laidOut (by kernel_rfl) (of_decide_eq_true (by kernel_rfl)) k0 bel lt0) (trodAll_cons_mk (Below.trod laidOut (by kernel_rfl) (of_decide_eq_true (by kernel_rfl)) k1 bel lt1) (trodAll_cons_mk (shut_string Tryd.underlying9 w2) trodAll_mk0))), rfl, bel.frame _, fun h => by cases h⟩

theorem laid_met (os : Os) : laidMet Tryd.prog Rows.treeBackRow.laid (({ World.holding Tryd.prog os ⟨#[], #[], []⟩ with heap := ((((World.holding Tryd.prog os ⟨#[], #[], []⟩).heap.modify 0 (fun
      | .cells _ t frozen => .cells #[.int .i64 0] t frozen
      | o => o)).modify 1 (fun
      | .cells _ t frozen => .cells firstCells t frozen
      | o => o)).modify 2 (fun
      | .cells _ t frozen => .cells rangeCells t frozen
      | o => o)) } : World).forCall (fun _ _ => 0) ⟨#[], #[.slice none 0 0, .agg #[.string ⟨#[]⟩, .bool false, .slice none 0 0], .string ⟨#[]⟩], []⟩).memory :=
  laidMet_of_run' 8 (by kernel_rfl) (by kernel_rfl)
theorem reads (os : Os) {H : Type} (enc : TypeId × Value → H) : ∃ places, DataW.whole enc Tryd.prog (({ World.holding Tryd.prog os ⟨#[], #[], []⟩ with heap := ((((World.holding Tryd.prog os ⟨#[], #[], []⟩).heap.modify 0 (fun
      | .cells _ t frozen => .cells #[.int .i64 0] t frozen
      | o => o)).modify 1 (fun
      | .cells _ t frozen => .cells firstCells t frozen
      | o => o)).modify 2 (fun
      | .cells _ t frozen => .cells rangeCells t frozen
      | o => o)) } : World).forCall (fun _ _ => 0) ⟨#[], #[.slice none 0 0, .agg #[.string ⟨#[]⟩, .bool false, .slice none 0 0], .string ⟨#[]⟩], []⟩).memory Tryd.f6.params.toList Rows.treeBackSpec.vars false #[Value.slice none 0 0, .agg #[.string ⟨#[]⟩, .bool false, .slice none 0 0], .string ⟨#[]⟩].toList 8 = some ([.nil, .agg [.lit (.string []), .lit (.bool false), .nil], .lit (.string [])], [], places) :=
  ⟨[], by kernel_rfl⟩

set_option maxRecDepth 100000 in
theorem lifted (os : Os) (started : os.Started) (H : Type) (enc : TypeId × Value → H) (F : Stop.Interp) :
    ReturnsInHanded {} Tryd.checked os 6 .any ((OpenSpec.ofChange Rows.treeBackSpec).preRow enc Tryd.prog Tryd.f6 Rows.treeBackRow.domain false Rows.treeBackRow.laid) (((OpenSpec.ofChange Rows.treeBackSpec).at F).post enc Tryd.prog Tryd.f6 false true false false) := by
  obtain ⟨places, hx⟩ := reads os enc
  refine returnsInHanded_of_row (C := Tryd.checked) (s := OpenSpec.ofChange Rows.treeBackSpec) own started (by kernel_rfl) Tryd.func6
    (witness_row_at (enc := enc) (C := Tryd.checked) false ({ World.holding Tryd.prog os ⟨#[], #[], []⟩ with heap := ((((World.holding Tryd.prog os ⟨#[], #[], []⟩).heap.modify 0 (fun
      | .cells _ t frozen => .cells #[.int .i64 0] t frozen
      | o => o)).modify 1 (fun
      | .cells _ t frozen => .cells firstCells t frozen
      | o => o)).modify 2 (fun
      | .cells _ t frozen => .cells rangeCells t frozen
      | o => o)) } : World) #[.slice none 0 0, .agg #[.string ⟨#[]⟩, .bool false, .slice none 0 0], .string ⟨#[]⟩] rfl (by kernel_rfl) (by kernel_rfl) (by kernel_rfl)
      (OpenSpec.preRow_of_cond 8 hx (by kernel_rfl) (fun k hk => by cases hk) (by kernel_rfl) (laid_met os))) ?_
  intro W base args ds gs before hval hW _ _ hsz hL hsh _
  exact contract H enc W base args ds gs before hval hW hL hsh hsz

theorem said : Rows.TreeBackSaid :=
  OpenClaim.holds_of_cond 6 Tryd.f6 rfl rfl rfl rfl rfl rfl rfl ⟨rfl, rfl, rfl, rfl, rfl⟩ rfl rfl rfl rfl rfl (by kernel_rfl) Tryd.func6 (by kernel_rfl)
    (of_decide_eq_true (by kernel_rfl)) (by unfold Func.isWrapper; first | (rw [if_pos (by decide +kernel)]; kernel_rfl) | (rw [if_neg (by decide +kernel)]; exact ⟨rfl, rfl⟩))
    (fun os started H enc _ F => by rw [OpenClaim.pre_eq_preRow]; exact lifted os started H enc F)

theorem plain (f : FuncId) (fn : Func) (hf : Tryd.pinned.checked.prog.funcNamed "sumpter/sumpterlaw08.TreeBack" = some f) (hfn : Tryd.pinned.checked.prog.funcs[f]? = some fn) :
    false = Tryd.pinned.checked.prog.looks [] ∧ ∀ (j : Nat) t, fn.params[j]? = some t → Tryd.pinned.checked.prog.wantsStandIn t = false := by
  obtain rfl : f = 6 := Option.some.inj ((show Tryd.prog.funcNamed "sumpter/sumpterlaw08.TreeBack" = some 6 by kernel_rfl).symm.trans hf) |>.symm
  obtain rfl : fn = Tryd.f6 := (Option.some.inj (Tryd.func6.symm.trans hfn)).symm
  refine ⟨by kernel_rfl, fun j t ht => ?_⟩
  rw [Tryd.params6] at ht
  have hm : t ∈ [22, 32, 9] := by simpa using Array.mem_of_getElem? ht
  have hall : ([22, 32, 9].all fun u => !Tryd.prog.wantsStandIn u) = true := by kernel_rfl
  exact (show Tryd.prog.wantsStandIn t = false by simpa using List.all_eq_true.1 hall t hm)
end Go.Proofs.YtdomknajkipmnaaDoor.treeBack

namespace Go.Proofs.YtdomknajkipmnaaDoor
/-- The card of TreeBack. -/
theorem treeBack_card : Rows.TreeBackCardSaid :=
  Claim7.holds_tied_plain_at .later [] _ _ _ _ treeBack.said (fun _ h => by cases h) (by kernel_rfl) (fun _ h => by cases h) treeBack_row_tie rfl ⟨rfl, rfl⟩ (by kernel_rfl) rfl treeBack.plain (by kernel_rfl)
#print axioms treeBack_card
end Go.Proofs.YtdomknajkipmnaaDoor
