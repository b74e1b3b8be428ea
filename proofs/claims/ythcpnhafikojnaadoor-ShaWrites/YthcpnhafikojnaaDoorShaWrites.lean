/-
  ShaWrites answers true for all pieces, and nothing that was there is changed; the two package-level tables start as the program's text lays them (the card ties them).
-/
import Derived.Test.YthcpnhafikojnaaDoorMat
namespace Go.Proofs.YthcpnhafikojnaaDoor.shaWrites
open Go.ChangeShapes Go.WideShapes Go.ChangeAt Go.RowKit Go.Deep Go.ChangeMaps

theorem hsof_below {w w' : World} {g B : Nat} {l : List Int} (h : HsOf w g l) (hb : Below B w w') (hB : g < B) : HsOf w' g l := by
  obtain ⟨R, h1, h2⟩ := h
  exact ⟨R, h1.below hb hB, h2⟩
theorem own_lt {w : World} {base : Nat} {e : TypeId} {size : Nat} {v : Value} {n : Nat} {xs : List Value} (h : w.ownsRow base e size v n xs) {w' : World} (hk : ∀ g, base ≤ g → g < w.heap.size → w'.heap[g]? = w.heap[g]?) : w'.ownsRow base e size v n xs := by
  obtain ⟨h1, h2⟩ := h
  rcases h2 with h2 | ⟨g, cap, cur, hv, hg, hh, r⟩
  · exact ⟨h1, .inl h2⟩
  · exact ⟨h1, .inr ⟨g, cap, cur, hv, hg, (hk g hg (Array.getElem?_eq_some_iff.1 hh).1).trans hh, r⟩⟩
theorem own_kept {w w' : World} {base : Nat} {e : TypeId} {size : Nat} {v : Value} {n : Nat} {xs : List Value} (h : w.ownsRow base e size v n xs) (hb : Below w.heap.size w w') : w'.ownsRow base e size v n xs := own_lt h fun g _ hl => hb.block g hl
theorem own_but {w w' : World} {base G : Nat} {e : TypeId} {size : Nat} {v : Value} {n : Nat} {xs : List Value} (h : w.ownsRow base e size v n xs) (hb : But G w w') (hG : G < base) : w'.ownsRow base e size v n xs := own_lt h fun g hg hl => hb.block g hl (by omega)

theorem of1 (v1 : Value) (x1 : List Int) (w : World) (ht : Tab w) (s1 : Sl w v1 x1) (hbig : x1.length ≤ 100000) :
    Calls Tryd.prog 9 #[.slice (some ⟨w.heap.size, 0, none⟩) 1 1] (w.alloc (.cells #[v1] 22)) fun e w' => e = .returned (.agg (u8s (Pl.sha x1))) ∧ Below w.heap.size w w' := by
  have hb : Below w.heap.size w (w.alloc (.cells #[v1] 22)) := (Below.refl _ _).alloc (Nat.le_refl _) _
  have hr := heap_alloc_new w (.cells #[v1] 22)
  have hf : [x1].flatten = x1 := by simp
  have := of_any (some ⟨w.heap.size, 0, none⟩) 1 [x1] _ (ht.below hb ht.size) ⟨by simp, .inr ⟨w.heap.size, 0, rfl, fun i hi => by
    match i, hi with
    | 0, _ => exact ⟨v1, cell_of_row _ _ 0 _ _ _ hr, s1.kept hb⟩⟩⟩ (by rw [hf]; omega)
  rw [hf] at this
  refine this.mono ?_
  rintro e w' ⟨rfl, b⟩
  exact ⟨rfl, hb.trans (b.mono hb.size)⟩

set_option maxHeartbeats 4000000 in
set_option maxRecDepth 100000 in
theorem walk (a : Option Addr) (len cap : Nat) (ZZ : List (List Int)) (w : World) (hw : Tab w) (hr : RowsIn w a len cap ZZ) :
    Calls Tryd.prog 5 #[.slice a len cap] w fun e w' => e = .returned (.bool true) ∧ Below w.heap.size w w' := by
  have HT : Hid (Tab w) := hw
  have HA : Hid (∀ x, Below w.heap.size w x → Calls Tryd.prog 8 #[] x fun r w' => r = .returned (.bool true) ∧ Below w.heap.size w w') := fun x hx => by
    refine (awake_any x (hw.below hx hw.size)).mono ?_
    rintro e w' ⟨rfl, b⟩
    exact ⟨rfl, hx.trans (b.mono hx.size)⟩
  obtain ⟨k1, k2, k3, k4⟩ := hr
  have hm : len ≤ 9223372036854775807 := by unfold maxLen at k2; omega
  clear hw k2 k1
  by_cases h1 : 60 < len
  · have c := HA.out w (Below.refl _ _)
    clear k3 k4
    go_enter Tryd.func5, Tryd.ntmps5
    go_wp2_with (go_at_call 8; refine c.mono ?_; rintro e w' ⟨rfl, hbel⟩)
    go_ret
    exact ⟨rfl, by assumption⟩
  have q1 : ¬ (60 : Int) < (len : Int) := by omega
  have cn := new_any w HT.out
  obtain ⟨G, hG⟩ : ∃ G, G = w.heap.size := ⟨_, rfl⟩
  have HG : Hid (G = w.heap.size) := hG
  rw [← hG] at cn
  have hG2 : 2 ≤ G := by rw [hG]; exact HT.out.size
  have HE : Hid (∀ (A : List Int) (w' : World), (Op.equalIn 10000 26 (.agg (u8s (Pl.sha A))) (.agg (u8s (Pl.sha A)))).run Tryd.prog w' = .ok true w') := fun A w' => by
    rw [eq_u8s (Pl.sha A) (Pl.sha A) (sha_len _) (sha_len _) w']
    simp
  have K3 : Hid (ZZ.length = len) := k3
  have K4 : Hid (len = 0 ∨ ∃ b off, a = some ⟨b, off, none⟩ ∧ ∀ i, i < len → ∃ v, w.cell? ⟨b, off + i, none⟩ = some v ∧ Sl w v (ZZ.getD i [])) := k4
  clear k3 k4 hG h1
  go_enter Tryd.func5, Tryd.ntmps5
  go_wp2_with fail
  refine cn.mono ?_
  rintro e w1 ⟨rfl, n1, b1⟩
  have B1 : Below w.heap.size w w1 := by rw [← HG.out]; exact b1
  have HH1 : Hid (HsOf w1 G []) := hsof_nil n1
  have HB1 : Hid (Below w.heap.size w w1) := B1
  have g1 := n1.lt
  obtain ⟨Bs, hBs⟩ : ∃ Bs, Bs = w1.heap.size := ⟨_, rfl⟩
  have HBs : Hid (Bs = w1.heap.size) := hBs
  rw [← hBs] at g1
  clear cn n1 b1 B1 hBs
  go_wp2_with fail
  go_loopw [4, 5] (fun v i wr => ∃ j : Nat, j ≤ len ∧ i = .int .i64 j ∧ wr.ownsRow Bs 5 1 v (ZZ.take j).flatten.length ((ZZ.take j).flatten.map (Value.int .u8)) ∧ HsOf wr G (ZZ.take j).flatten ∧ Below w.heap.size w wr ∧ Bs ≤ wr.heap.size ∧ (ZZ.take j).flatten.length ≤ 4000 ∧ Pl.Byt (ZZ.take j).flatten) (fun _ i _ => len - (intOf i).toNat)
  case atStart => exact ⟨0, by omega, rfl, World.ownsRow_nil _ _ _ _, HH1.out, HB1.out, by rw [HBs.out]; exact Nat.le_refl _, by simp, byteList _ rfl⟩
  case round =>
    clear HH1 HB1
    obtain ⟨j, hj, rfl, own, hs, bel, hbs, hln, hby⟩ := hrel
    have HOW : Hid (wr.ownsRow Bs 5 1 u4 (ZZ.take j).flatten.length ((ZZ.take j).flatten.map (Value.int .u8))) := own
    have HHS : Hid (HsOf wr G (ZZ.take j).flatten) := hs
    have HBE : Hid (Below w.heap.size w wr) := bel
    have HBY : Hid (Pl.Byt (ZZ.take j).flatten) := hby
    obtain ⟨ad, cp, rfl, -⟩ := sl_owned own hby
    clear own hs bel hby
    by_cases hlt : j < len
    · have lt2 : (j : Int) < (len : Int) := by omega
      rcases K4.out with h0 | ⟨b, off, rfl, hp⟩
      · omega
      obtain ⟨v, c1, c2⟩ := hp j hlt
      have hfs := flat_succ ZZ j (by rw [K3.out]; exact hlt)
      have HFS : Hid ((ZZ.take (j + 1)).flatten = (ZZ.take j).flatten ++ ZZ.getD j []) := hfs
      have kc := (HBE.out.cell (p := ⟨b, off + j, none⟩) (World.block_lt_of_cell? _ _ c1)).trans c1
      have hbw : b < w.heap.size := World.block_lt_of_cell? _ _ c1
      have HSL : Hid (Sl w v (ZZ.getD j [])) := c2
      obtain ⟨ad2, cp2, rfl, -⟩ := c2
      obtain ⟨L, hL⟩ : ∃ L, L = (ZZ.take j).flatten.length := ⟨_, rfl⟩
      obtain ⟨M, hM⟩ : ∃ M, M = (ZZ.getD j []).length := ⟨_, rfl⟩
      have HL : Hid (L = (ZZ.take j).flatten.length) := hL
      have HM : Hid (M = (ZZ.getD j []).length) := hM
      rw [← hM] at kc HSL
      rw [← hL] at HOW hln ⊢
      clear hfs hp c1 hL hM
      obtain ⟨X, hX⟩ : ∃ X, X = (ZZ.take j).flatten := ⟨_, rfl⟩
      obtain ⟨Zj, hZj⟩ : ∃ Zj, Zj = ZZ.getD j [] := ⟨_, rfl⟩
      obtain ⟨Y, hY⟩ : ∃ Y, Y = (ZZ.take (j + 1)).flatten := ⟨_, rfl⟩
      have HYY : Hid (Y = (ZZ.take (j + 1)).flatten) := hY
      rw [← hX] at HOW HHS HBY HFS HL
      rw [← hZj] at HSL HFS HM
      rw [← hY] at HFS
      clear hX hZj hY
      have hMl : M ≤ 9223372036854775807 := by
        obtain ⟨x1, x2, x3, x4, x5, -⟩ := HSL.out
        unfold maxLen at x5
        have := HM.out
        omega
      by_cases h2 : 2000 < M
      · have r1 : (2000 : Int) < (M : Int) := by omega
        have c := HA.out wr HBE.out
        go_wp2_with (go_at_call 8; refine c.mono ?_; rintro e w' ⟨rfl, hbel⟩)
        go_ret
        exact ⟨rfl, by assumption⟩
      have r1 : ¬ (2000 : Int) < (M : Int) := by omega
      by_cases h3 : 2000 < L
      · have r2 : (2000 : Int) < (L : Int) := by omega
        have c := HA.out wr HBE.out
        go_wp2_with (go_at_call 8; refine c.mono ?_; rintro e w' ⟨rfl, hbel⟩)
        go_ret
        exact ⟨rfl, by assumption⟩
      have r2 : ¬ (2000 : Int) < (L : Int) := by omega
      go_wp2_with (at_builtin; refine wpList_append_sl rfl _ _ rfl Bs _ L _ rfl HOW.out _ Zj rfl (HSL.out.kept HBE.out) (by rw [← HM.out]; omega) hbs (Hid.out ?_))
      unfold Hid
      intro v2 w2 own2 hgrow
      have b2 : Below Bs wr w2 := (Below.refl _ wr).grown hgrow hbs (own_base HOW.out)
      have B2 : Below w.heap.size w w2 := HBE.out.trans (b2.mono (by rw [← HG.out]; omega))
      have HO2 : Hid (w2.ownsRow Bs 5 1 v2 Y.length (Y.map (Value.int .u8))) := by
        unfold Hid
        rw [HFS.out, List.map_append, List.length_append, ← HL.out]
        exact own2
      have HH2 : Hid (HsOf w2 G X) := hsof_below HHS.out b2 g1
      have HB2 : Hid (Below w.heap.size w w2) := B2
      have hs2 : Bs ≤ w2.heap.size := Nat.le_trans hbs b2.size
      have HY2 : Hid (Pl.Byt Y) := by
        unfold Hid
        rw [HFS.out]
        have := bytes_flat [X, Zj] (by
          intro Z hZ
          simp at hZ
          rcases hZ with rfl | rfl
          · exact HBY.out
          · exact HSL.out.bytes)
        intro i
        have := this i
        simpa using this
      have HN2 : Hid (Y.length ≤ 4000) := by
        unfold Hid
        rw [HFS.out, List.length_append, ← HL.out, ← HM.out]
        omega
      have kc2 := (b2.cell (p := ⟨b, off + j, none⟩) (show b < Bs by rw [← HG.out] at hbw; omega)).trans kc
      have cw := write_any G X _ _ w2 (HT.out.below B2 HT.out.size) HH2.out (HSL.out.kept B2) (HSL.out.apart (Nat.le_of_eq HG.out.symm)) hG2 (by rw [← HL.out, ← HM.out]; omega)
      rw [← HFS.out] at cw
      obtain ⟨ad3, cp3, hv3, -⟩ := sl_owned HO2.out HY2.out
      obtain ⟨N, hN⟩ : ∃ N, N = Y.length := ⟨_, rfl⟩
      have HN : Hid (N = Y.length) := hN
      rw [← hN] at HO2 HN2 hv3
      subst hv3
      clear hN own2 hgrow b2 B2 HFS HH2
      go_wp2_with fail
      refine cw.mono ?_
      rintro e w3 ⟨⟨u3, rfl⟩, h3, b3⟩
      have B3 : Below w.heap.size w w3 := HB2.out.trans (b3.below (Nat.le_of_eq HG.out.symm) HB2.out.size)
      have HO3 : Hid (w3.ownsRow Bs 5 1 (.slice ad3 N cp3) N (Y.map (Value.int .u8))) := own_but HO2.out b3 g1
      have HH3 : Hid (HsOf w3 G Y) := h3
      have HB3 : Hid (Below w.heap.size w w3) := B3
      have hs3 : Bs ≤ w3.heap.size := Nat.le_trans hs2 b3.size
      have c4 := sum_any G Y w3 (HT.out.below B3 HT.out.size) h3 (by rw [← HN.out]; have := HN2.out; omega)
      clear cw h3 b3 B3 HO2
      go_wp2_with fail
      refine c4.mono ?_
      rintro e w4 ⟨rfl, b4⟩
      have B4 : Below w.heap.size w w4 := HB3.out.trans (b4.mono HB3.out.size)
      have HO4 : Hid (w4.ownsRow Bs 5 1 (.slice ad3 N cp3) N (Y.map (Value.int .u8))) := own_kept HO3.out b4
      have HH4 : Hid (HsOf w4 G Y) := HH3.out.kept b4
      have HB4 : Hid (Below w.heap.size w w4) := B4
      have hs4 : Bs ≤ w4.heap.size := Nat.le_trans hs3 b4.size
      have c5 := of1 _ Y w4 (HT.out.below B4 HT.out.size) (sl_owned HO4.out HY2.out) (by rw [← HN.out]; have := HN2.out; omega)
      have e5 := HE.out Y
      obtain ⟨U, hU⟩ : ∃ U, U = u8s (Pl.sha Y) := ⟨_, rfl⟩
      have HU : Hid (U = u8s (Pl.sha Y)) := hU
      rw [← hU] at c5 e5 ⊢
      clear hU
      clear c4 b4 B4 HO3 HH3
      go_wp2_with fail
      refine c5.mono ?_
      rintro e w5 ⟨rfl, b5⟩
      have B5 : Below w.heap.size w w5 := HB4.out.trans (b5.mono HB4.out.size)
      have HO5 : Hid (w5.ownsRow Bs 5 1 (.slice ad3 N cp3) N (Y.map (Value.int .u8))) := own_kept HO4.out b5
      have HH5 : Hid (HsOf w5 G Y) := HH4.out.kept b5
      have HB5 : Hid (Below w.heap.size w w5) := B5
      have hs5 : Bs ≤ w5.heap.size := Nat.le_trans hs4 b5.size
      have c6 := sum_any G Y w5 (HT.out.below B5 HT.out.size) HH5.out (by rw [← HN.out]; have := HN2.out; omega)
      rw [← HU.out] at c6
      clear c5 b5 B5 HO4 HH4
      go_wp2_with fail
      refine c6.mono ?_
      rintro e w6 ⟨rfl, b6⟩
      have B6 : Below w.heap.size w w6 := HB5.out.trans (b6.mono HB5.out.size)
      have HO6 : Hid (w6.ownsRow Bs 5 1 (.slice ad3 N cp3) N (Y.map (Value.int .u8))) := own_kept HO5.out b6
      have HH6 : Hid (HsOf w6 G Y) := HH5.out.kept b6
      have HB6 : Hid (Below w.heap.size w w6) := B6
      have hs6 : Bs ≤ w6.heap.size := Nat.le_trans hs5 b6.size
      have c7 := of1 _ Y w6 (HT.out.below B6 HT.out.size) (sl_owned HO6.out HY2.out) (by rw [← HN.out]; have := HN2.out; omega)
      rw [← HU.out] at c7
      clear c6 b6 B6 HO5 HH5
      go_wp2_with fail
      refine c7.mono ?_
      rintro e w7 ⟨rfl, b7⟩
      have B7 : Below w.heap.size w w7 := HB6.out.trans (b7.mono HB6.out.size)
      have HO7 : Hid (w7.ownsRow Bs 5 1 (.slice ad3 N cp3) N (Y.map (Value.int .u8))) := own_kept HO6.out b7
      have HH7 : Hid (HsOf w7 G Y) := HH6.out.kept b7
      have HB7 : Hid (Below w.heap.size w w7) := B7
      have hs7 : Bs ≤ w7.heap.size := Nat.le_trans hs6 b7.size
      obtain ⟨R7, rr1, -, -⟩ := HH7.out
      have cl := len_any G _ R7 _ w7 rr1
      rw [← HN.out] at cl
      clear c7 b7 B7 HO6 HH6 rr1
      go_wp2_with fail
      refine cl.mono ?_
      rintro e w8 ⟨rfl, rfl⟩
      clear cl
      go_wp2
      go_roundw
      case rel => exact ⟨j + 1, by omega, by go_num, by rw [← HYY.out, ← HN.out]; exact HO7.out, by rw [← HYY.out]; exact HH7.out, HB7.out, hs7, by rw [← HYY.out, ← HN.out]; exact HN2.out, by rw [← HYY.out]; exact HY2.out⟩
      case measure => simp [intOf]; omega
    · obtain rfl : j = len := by omega
      have ge2 : ¬ (j : Int) < (j : Int) := by omega
      have c := HA.out wr HBE.out
      obtain ⟨L, hL⟩ : ∃ L, L = (ZZ.take j).flatten.length := ⟨_, rfl⟩
      rw [← hL] at HOW hln ⊢
      clear hL
      go_wp2_with (go_at_call 8; refine c.mono ?_; rintro e w' ⟨rfl, hbel⟩)
      go_ret
      exact ⟨rfl, by assumption⟩

theorem contract (H : Type) (enc : TypeId × Value → H) (W : World) (base : Nat) (args : Array Value) (ds gs : List (DataW H)) (before : List MemPlace)
    (hval : ∀ (j : Nat) t v, Tryd.f5.params[j]? = some t → args[j]? = some v → Value.okWide Tryd.prog W .any base t v)
    (hW : DataW.Whole enc Tryd.prog Tryd.f5.params.toList Rows.shaWritesSpec.vars false W args.toList ds gs before) (hL : laidMetH Tryd.prog Rows.shaWritesRow.laid W)
    (hsz0 : (DataW.weightsEach Tryd.prog (Tryd.f5.params.toList ++ Rows.shaWritesSpec.plain.varTypes Tryd.prog) (ds ++ gs)).all (· ≤ reachBytes) = true) :
    Calls Tryd.prog 5 args W fun e W' => ∃ v, e = .returned v ∧ Rows.shaWritesSpec.post enc Tryd.prog Tryd.f5 false true false false W args v W' := by
  have hW' := hW
  obtain ⟨p, q, hA0, hV, rfl, hfz, hnd⟩ := hW
  have hA : DataW.TrodAll enc Tryd.prog W 0 (fun _ => true) true Tryd.f5.params.toList args.toList ds p := hA0
  rw [Tryd.params5] at hA hval hsz0
  obtain ⟨v0, vs0, d0, ds0, p0, q0, hargs, rfl, rfl, h0, r0⟩ := trodAll_cons hA
  obtain ⟨rfl, rfl, rfl⟩ := trodAll_nil r0
  obtain rfl : args = #[v0] := by cases args; simp_all
  obtain ⟨rfl, rfl⟩ := trodVars_none hV
  have k0 := h0
  have lt0 : ∀ x ∈ p0, x.block < W.heap.size := by obtain ⟨m, hm⟩ := k0; exact DataW.trod_lt m _ _ _ hm
  obtain ⟨a0, len0, cap0, ZZ0, rfl, w0⟩ := rows_open (hval 0 38 v0 rfl rfl) h0
  clear hA0
  refine (walk a0 len0 cap0 ZZ0 W (tab_of hL) w0).mono fun e W' ⟨he, bel⟩ => ?_
  subst he
  exact ⟨_, rfl, _, _, _, [], _, [], hW', trodAll_mk1 (shut_bool Tryd.underlying4 _), (trodAll_cons_mk (Below.trod laidOut (by kernel_rfl) (of_decide_eq_true (by kernel_rfl)) k0 bel lt0) trodAll_mk0), rfl, bel.frame _, fun h => by cases h⟩

theorem laid_met (os : Os) : laidMet Tryd.prog Rows.shaWritesRow.laid (({ World.holding Tryd.prog os ⟨#[], #[], []⟩ with heap := (((World.holding Tryd.prog os ⟨#[], #[], []⟩).heap.modify 0 (fun
      | .cells _ t frozen => .cells #[.int .u32 1779033703, .int .u32 3144134277, .int .u32 1013904242, .int .u32 2773480762, .int .u32 1359893119, .int .u32 2600822924, .int .u32 528734635, .int .u32 1541459225] t frozen
      | o => o)).modify 1 (fun
      | .cells _ t frozen => .cells #[.int .u32 1116352408, .int .u32 1899447441, .int .u32 3049323471, .int .u32 3921009573, .int .u32 961987163, .int .u32 1508970993, .int .u32 2453635748, .int .u32 2870763221, .int .u32 3624381080, .int .u32 310598401, .int .u32 607225278, .int .u32 1426881987, .int .u32 1925078388, .int .u32 2162078206, .int .u32 2614888103, .int .u32 3248222580, .int .u32 3835390401, .int .u32 4022224774, .int .u32 264347078, .int .u32 604807628, .int .u32 770255983, .int .u32 1249150122, .int .u32 1555081692, .int .u32 1996064986, .int .u32 2554220882, .int .u32 2821834349, .int .u32 2952996808, .int .u32 3210313671, .int .u32 3336571891, .int .u32 3584528711, .int .u32 113926993, .int .u32 338241895, .int .u32 666307205, .int .u32 773529912, .int .u32 1294757372, .int .u32 1396182291, .int .u32 1695183700, .int .u32 1986661051, .int .u32 2177026350, .int .u32 2456956037, .int .u32 2730485921, .int .u32 2820302411, .int .u32 3259730800, .int .u32 3345764771, .int .u32 3516065817, .int .u32 3600352804, .int .u32 4094571909, .int .u32 275423344, .int .u32 430227734, .int .u32 506948616, .int .u32 659060556, .int .u32 883997877, .int .u32 958139571, .int .u32 1322822218, .int .u32 1537002063, .int .u32 1747873779, .int .u32 1955562222, .int .u32 2024104815, .int .u32 2227730452, .int .u32 2361852424, .int .u32 2428436474, .int .u32 2756734187, .int .u32 3204031479, .int .u32 3329325298] t frozen
      | o => o)) } : World).forCall (fun _ _ => 0) ⟨#[], #[.slice none 0 0], []⟩).memory :=
  laidMet_of_run' 8 (by kernel_rfl) (by kernel_rfl)
theorem reads (os : Os) {H : Type} (enc : TypeId × Value → H) : ∃ places, DataW.whole enc Tryd.prog (({ World.holding Tryd.prog os ⟨#[], #[], []⟩ with heap := (((World.holding Tryd.prog os ⟨#[], #[], []⟩).heap.modify 0 (fun
      | .cells _ t frozen => .cells #[.int .u32 1779033703, .int .u32 3144134277, .int .u32 1013904242, .int .u32 2773480762, .int .u32 1359893119, .int .u32 2600822924, .int .u32 528734635, .int .u32 1541459225] t frozen
      | o => o)).modify 1 (fun
      | .cells _ t frozen => .cells #[.int .u32 1116352408, .int .u32 1899447441, .int .u32 3049323471, .int .u32 3921009573, .int .u32 961987163, .int .u32 1508970993, .int .u32 2453635748, .int .u32 2870763221, .int .u32 3624381080, .int .u32 310598401, .int .u32 607225278, .int .u32 1426881987, .int .u32 1925078388, .int .u32 2162078206, .int .u32 2614888103, .int .u32 3248222580, .int .u32 3835390401, .int .u32 4022224774, .int .u32 264347078, .int .u32 604807628, .int .u32 770255983, .int .u32 1249150122, .int .u32 1555081692, .int .u32 1996064986, .int .u32 2554220882, .int .u32 2821834349, .int .u32 2952996808, .int .u32 3210313671, .int .u32 3336571891, .int .u32 3584528711, .int .u32 113926993, .int .u32 338241895, .int .u32 666307205, .int .u32 773529912, .int .u32 1294757372, .int .u32 1396182291, .int .u32 1695183700, .int .u32 1986661051, .int .u32 2177026350, .int .u32 2456956037, .int .u32 2730485921, .int .u32 2820302411, .int .u32 3259730800, .int .u32 3345764771, .int .u32 3516065817, .int .u32 3600352804, .int .u32 4094571909, .int .u32 275423344, .int .u32 430227734, .int .u32 506948616, .int .u32 659060556, .int .u32 883997877, .int .u32 958139571, .int .u32 1322822218, .int .u32 1537002063, .int .u32 1747873779, .int .u32 1955562222, .int .u32 2024104815, .int .u32 2227730452, .int .u32 2361852424, .int .u32 2428436474, .int .u32 2756734187, .int .u32 3204031479, .int .u32 3329325298] t frozen
      | o => o)) } : World).forCall (fun _ _ => 0) ⟨#[], #[.slice none 0 0], []⟩).memory Tryd.f5.params.toList Rows.shaWritesSpec.vars false #[Value.slice none 0 0].toList 8 = some ([.nil], [], places) :=
  ⟨[], by kernel_rfl⟩

set_option maxRecDepth 100000 in
theorem lifted (os : Os) (started : os.Started) (H : Type) (enc : TypeId × Value → H) (F : Stop.Interp) :
    ReturnsInHanded {} Tryd.checked os 5 .any ((OpenSpec.ofChange Rows.shaWritesSpec).preRow enc Tryd.prog Tryd.f5 Rows.shaWritesRow.domain false Rows.shaWritesRow.laid) (((OpenSpec.ofChange Rows.shaWritesSpec).at F).post enc Tryd.prog Tryd.f5 false true false false) := by
  obtain ⟨places, hx⟩ := reads os enc
  refine returnsInHanded_of_row (C := Tryd.checked) (s := OpenSpec.ofChange Rows.shaWritesSpec) own started (by kernel_rfl) Tryd.func5
    (witness_row_at (enc := enc) (C := Tryd.checked) false ({ World.holding Tryd.prog os ⟨#[], #[], []⟩ with heap := (((World.holding Tryd.prog os ⟨#[], #[], []⟩).heap.modify 0 (fun
      | .cells _ t frozen => .cells #[.int .u32 1779033703, .int .u32 3144134277, .int .u32 1013904242, .int .u32 2773480762, .int .u32 1359893119, .int .u32 2600822924, .int .u32 528734635, .int .u32 1541459225] t frozen
      | o => o)).modify 1 (fun
      | .cells _ t frozen => .cells #[.int .u32 1116352408, .int .u32 1899447441, .int .u32 3049323471, .int .u32 3921009573, .int .u32 961987163, .int .u32 1508970993, .int .u32 2453635748, .int .u32 2870763221, .int .u32 3624381080, .int .u32 310598401, .int .u32 607225278, .int .u32 1426881987, .int .u32 1925078388, .int .u32 2162078206, .int .u32 2614888103, .int .u32 3248222580, .int .u32 3835390401, .int .u32 4022224774, .int .u32 264347078, .int .u32 604807628, .int .u32 770255983, .int .u32 1249150122, .int .u32 1555081692, .int .u32 1996064986, .int .u32 2554220882, .int .u32 2821834349, .int .u32 2952996808, .int .u32 3210313671, .int .u32 3336571891, .int .u32 3584528711, .int .u32 113926993, .int .u32 338241895, .int .u32 666307205, .int .u32 773529912, .int .u32 1294757372, .int .u32 1396182291, .int .u32 1695183700, .int .u32 1986661051, .int .u32 2177026350, .int .u32 2456956037, .int .u32 2730485921, .int .u32 2820302411, .int .u32 3259730800, .int .u32 3345764771, .int .u32 3516065817, .int .u32 3600352804, .int .u32 4094571909, .int .u32 275423344, .int .u32 430227734, .int .u32 506948616, .int .u32 659060556, .int .u32 883997877, .int .u32 958139571, .int .u32 1322822218, .int .u32 1537002063, .int .u32 1747873779, .int .u32 1955562222, .int .u32 2024104815, .int .u32 2227730452, .int .u32 2361852424, .int .u32 2428436474, .int .u32 2756734187, .int .u32 3204031479, .int .u32 3329325298] t frozen
      | o => o)) } : World) #[.slice none 0 0] rfl (by kernel_rfl) (by kernel_rfl) (by kernel_rfl)
      (OpenSpec.preRow_of_cond 8 hx (by kernel_rfl) (fun k hk => by cases hk) (by kernel_rfl) (laid_met os))) ?_
  intro W base args ds gs before hval hW _ _ hsz hL _ _
  exact contract H enc W base args ds gs before hval hW hL hsz

theorem said : Rows.ShaWritesSaid :=
  OpenClaim.holds_of_cond 5 Tryd.f5 rfl rfl rfl rfl rfl rfl rfl ⟨rfl, rfl, rfl, rfl, rfl⟩ rfl rfl rfl rfl rfl (by kernel_rfl) Tryd.func5 (by kernel_rfl)
    (of_decide_eq_true (by kernel_rfl)) (by unfold Func.isWrapper; first | (rw [if_pos (by decide +kernel)]; kernel_rfl) | (rw [if_neg (by decide +kernel)]; exact ⟨rfl, rfl⟩))
    (fun os started H enc _ F => by rw [OpenClaim.pre_eq_preRow]; exact lifted os started H enc F)

theorem plain (f : FuncId) (fn : Func) (hf : Tryd.pinned.checked.prog.funcNamed "sumpter/sumpterlaw04.ShaWrites" = some f) (hfn : Tryd.pinned.checked.prog.funcs[f]? = some fn) :
    false = Tryd.pinned.checked.prog.looks [] ∧ ∀ (j : Nat) t, fn.params[j]? = some t → Tryd.pinned.checked.prog.wantsStandIn t = false := by
  obtain rfl : f = 5 := Option.some.inj ((show Tryd.prog.funcNamed "sumpter/sumpterlaw04.ShaWrites" = some 5 by kernel_rfl).symm.trans hf) |>.symm
  obtain rfl : fn = Tryd.f5 := (Option.some.inj (Tryd.func5.symm.trans hfn)).symm
  refine ⟨by kernel_rfl, fun j t ht => ?_⟩
  rw [Tryd.params5] at ht
  have hm : t ∈ [38] := by simpa using Array.mem_of_getElem? ht
  have hall : ([38].all fun u => !Tryd.prog.wantsStandIn u) = true := by kernel_rfl
  exact (show Tryd.prog.wantsStandIn t = false by simpa using List.all_eq_true.1 hall t hm)
end Go.Proofs.YthcpnhafikojnaaDoor.shaWrites

namespace Go.Proofs.YthcpnhafikojnaaDoor
/-- The card of ShaWrites. -/
theorem shaWrites_card : Rows.ShaWritesCardSaid :=
  Claim7.holds_tied_plain_at .later [] _ _ _ _ shaWrites.said (fun _ h => by cases h) (by kernel_rfl) (fun _ h => by cases h) shaWrites_row_tie rfl ⟨rfl, rfl⟩ (by kernel_rfl) rfl shaWrites.plain (by kernel_rfl)
#print axioms shaWrites_card
end Go.Proofs.YthcpnhafikojnaaDoor
