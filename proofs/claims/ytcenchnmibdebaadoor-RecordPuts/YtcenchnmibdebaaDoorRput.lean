/-
  What the document's Put answers.
-/
import Derived.Test.YtcenchnmibdebaaDoorRck
import Derived.Test.YtcenchnmibdebaaDoorTk
import Derived.Test.YtcenchnmibdebaaDoorPu
import Derived.Test.YtcenchnmibdebaaDoorFiRLay
import Derived.Test.YtcenchnmibdebaaDoorCrROpen
import Derived.Test.YtcenchnmibdebaaDoorOrd
import Derived.Deep.DeepCutAuto
namespace Go.Proofs.YtcenchnmibdebaaDoor
open Go.RowKit
set_option maxRecDepth 100000

theorem wp_append_sl {w : World} {o : Oper} {a : Act} {KK : Act → World → Prop} {Q : Exit → Act → World → Prop} (s x : Operand)
    (ho : o.op = .call { callee := .builtin .append, args := #[s, x], argTypes := #[27, 27] })
    (base : Nat) (v : Value) (n : Nat) (xs : List Value) (hs : a.eval s = v) (hown : w.ownsRow base 5 1 v n xs)
    (src : Value) (Z : List Int) (hx : a.eval x = src) (hsl : Sl w src Z) (hbig : n + Z.length ≤ 200000000000000) (hbase : base ≤ w.heap.size)
    (h : ∀ v' w', w'.ownsRow base 5 1 v' (n + Z.length) (xs ++ Z.map (Value.int .u8)) → w.grownBy w' v.ownBlock → KK (a.put o.dst v') w') : o.wp Tryd.prog a w KK Q := by
  obtain ⟨i0, hi, hz0, hz1, hz2⟩ := info_parts info5'
  obtain ⟨ad, cap, rfl, h1, h2, h3, h4⟩ := hsl
  cases ad with
  | none =>
    obtain rfl := h3 rfl
    obtain rfl : Z = [] := List.length_eq_zero_iff.1 (by omega)
    have hrun := run_append_owned_none (P := Tryd.prog) (w := w) base 27 o.type 5 i0 1 Tryd.underlying27 hi v n xs hown
    have hx' : a.eval x = .slice none 0 0 := hx
    unfold Oper.wp
    simp [execOp, ho, resolve, invoke, builtin, hs, hx', hrun, Result.andThen]
    exact h v w (by simpa using hown) ⟨rfl, rfl, rfl, Nat.le_refl _, fun _ _ _ => rfl⟩
  | some y =>
    exact wp_append_own_wide w s x 27 ho base 5 i0 (.int .u8 0) 1 1 Tryd.underlying27 hi hz0 hz1 hz2 rfl (by decide) v n xs hs hown y Z.length cap (Z.map (Value.int .u8)) hx (by rw [List.length_map, Nat.mul_one]) (news_row h4) (ints_one Z) (by unfold maxLen; omega) (by omega) hbase
      (fun v' w' ho' hg _ => h v' w' ho' hg)
theorem one_own (w : World) (z : Int) : (w.alloc (.cells #[.int .u8 z] 5)).ownsRow w.heap.size 5 1 (.slice (some ⟨w.heap.size, 0, none⟩) 1 1) 1 ([z].map (Value.int .u8)) :=
  ⟨by simp, .inr ⟨w.heap.size, 1, #[.int .u8 z], rfl, Nat.le_refl _, heap_alloc_new _ _, by simp, by unfold maxLen; omega, by simp, by simp⟩⟩
theorem numB_bytes (n : Int) : ∀ i, 0 ≤ (Fi.numB n).getD i 0 ∧ (Fi.numB n).getD i 0 < 256 := by
  unfold Fi.numB
  split
  · intro i; simp
  · next h =>
    obtain ⟨W, hW, hW0, hI, h1, h2, hn⟩ := Fi.pos_lim _ h
    rw [hW]
    exact Fi.pb_bytes n W hI h1 h2
theorem textB_bytes (s : ByteArray) : ∀ i, 0 ≤ (Fi.textB s).getD i 0 ∧ (Fi.textB s).getD i 0 < 256 := bytes_app (numB_bytes _) (Fi.sb_bytes s)
theorem dnum_any (n : Int) (w : World) : Calls Tryd.prog 23 #[.int .i64 n] w fun r w' => ∃ v, r = .returned v ∧ Sl w' v (Fi.numB n) ∧ Below w.heap.size w w' :=
  (Fi.rnumB_any n w).mono fun _ _ ⟨v, e, o, b⟩ => ⟨v, e, sl_owned o (numB_bytes n), b⟩
theorem dtext_any (s : ByteArray) (w : World) (hs : s.size ≤ 140737488351232) : Calls Tryd.prog 24 #[.string s] w fun r w' => ∃ v, r = .returned v ∧ Sl w' v (Fi.textB s) ∧ Below w.heap.size w w' :=
  (Fi.rtextB_any s w hs).mono fun _ _ ⟨v, e, o, b⟩ => ⟨v, e, sl_owned o (textB_bytes s), b⟩
theorem bodyB_bytes (r : Rc) (hr : r.ok) : ∀ i, 0 ≤ (bodyB r).getD i 0 ∧ (bodyB r).getD i 0 < 256 := by
  have hk : ∀ i, 0 ≤ [r.k].getD i 0 ∧ [r.k].getD i 0 < 256 := byteList _ (by have := hr.1; have := hr.2.1; simp; omega)
  unfold bodyB
  split
  · exact bytes_app (bytes_app hk (numB_bytes _)) (bytes_app (textB_bytes _) (bytes_app hr.2.2.2.1 (numB_bytes _)))
  · split
    · exact bytes_app (bytes_app hk (numB_bytes _)) (numB_bytes _)
    · exact bytes_app hk (numB_bytes _)
theorem new_h (w : World) : (w.alloc (.cells #[.int .u8 0, .int .u8 0, .int .u8 0, .int .u8 0, .int .u8 0, .int .u8 0, .int .u8 0, .int .u8 0, .int .u8 0, .int .u8 0, .int .u8 0, .int .u8 0, .int .u8 0, .int .u8 0, .int .u8 0, .int .u8 0, .int .u8 0, .int .u8 0, .int .u8 0, .int .u8 0, .int .u8 0, .int .u8 0, .int .u8 0, .int .u8 0, .int .u8 0, .int .u8 0, .int .u8 0, .int .u8 0, .int .u8 0, .int .u8 0, .int .u8 0, .int .u8 0] 23)).heap[w.heap.size]? = some (.cells (u8c z32) 23 (0, 0)) := heap_alloc_new _ _
theorem alloc_h (w : World) (cs : Array Value) : (w.alloc (.cells #[.int .u8 0, .int .u8 0, .int .u8 0, .int .u8 0, .int .u8 0, .int .u8 0, .int .u8 0, .int .u8 0, .int .u8 0, .int .u8 0, .int .u8 0, .int .u8 0, .int .u8 0, .int .u8 0, .int .u8 0, .int .u8 0, .int .u8 0, .int .u8 0, .int .u8 0, .int .u8 0, .int .u8 0, .int .u8 0, .int .u8 0, .int .u8 0, .int .u8 0, .int .u8 0, .int .u8 0, .int .u8 0, .int .u8 0, .int .u8 0, .int .u8 0, .int .u8 0] 23)).setRow w.heap.size cs = w.alloc (.cells cs 23) := World.setRow_alloc_new _ _ _ _
set_option maxHeartbeats 4000000 in
theorem dput_any (r : Rc) (w : World) (hr : r.ok) (hp : r.x.p.size ≤ 1000) :
    Calls Tryd.prog 8 #[r.val] w fun e w' => ∃ v, e = .returned (.tuple #[v, .int .i64 (rck r)]) ∧ Sl w' v (putB r) ∧ Below w.heap.size w w' := by
  obtain ⟨W1, hW1⟩ : ∃ W1, W1 = w.alloc (.cells r.cells.toArray 25) := ⟨_, rfl⟩
  have b1 : Below w.heap.size w W1 := by rw [hW1]; exact al_below _ _
  have r1 : W1.rangeAt w.heap.size 0 r.cells := by rw [hW1]; exact rq_new w r
  have hml : r.x.p.size ≤ maxLen := by unfold maxLen; omega
  have B1 : Hid (Below w.heap.size w W1) := b1
  have hW1' : w.alloc (.cells r.cells.toArray 25) = W1 := hW1.symm
  have C1 : Hid (Calls Tryd.prog 22 #[.agg r.cells.toArray] W1 fun e w' => e = .returned (.int .i64 (rck r)) ∧ Below W1.heap.size W1 w') := rchk_any r W1 hr hml
  have FK : Hid (∀ W, From W1 W → W.cell? ⟨w.heap.size, 0, none⟩ = some (.int .u8 r.k) ∧ W.cell? ⟨w.heap.size, 1, none⟩ = some (.int .i64 r.x.i) ∧ W.cell? ⟨w.heap.size, 2, none⟩ = some (.string r.x.p) ∧ W.cell? ⟨w.heap.size, 35, none⟩ = some (.int .i64 r.x.n) ∧ W.cell? ⟨w.heap.size, 36, none⟩ = some (.int .i64 r.x.o) ∧ W.rangeAt w.heap.size 3 (r.x.s.map (Value.int .u8))) := fun W hb => by
    obtain ⟨c0, c1, c2, c3, c4, c5⟩ := rcC (range_kept r1 hb) hr
    simp only [Nat.zero_add] at c0 c1 c2 c3 c4 c5
    exact ⟨c0, c1, c2, c4, c5, c3⟩
  have CI : Hid (∀ W, Calls Tryd.prog 23 #[.int .i64 r.x.i] W fun r' w' => ∃ v, r' = .returned v ∧ Sl w' v (Fi.numB r.x.i) ∧ Below W.heap.size W w') := fun W => dnum_any _ W
  have CN : Hid (∀ W, Calls Tryd.prog 23 #[.int .i64 r.x.n] W fun r' w' => ∃ v, r' = .returned v ∧ Sl w' v (Fi.numB r.x.n) ∧ Below W.heap.size W w') := fun W => dnum_any _ W
  have CO : Hid (∀ W, Calls Tryd.prog 23 #[.int .i64 r.x.o] W fun r' w' => ∃ v, r' = .returned v ∧ Sl w' v (Fi.numB r.x.o) ∧ Below W.heap.size W w') := fun W => dnum_any _ W
  have CT : Hid (∀ W, Calls Tryd.prog 24 #[.string r.x.p] W fun r' w' => ∃ v, r' = .returned v ∧ Sl w' v (Fi.textB r.x.p) ∧ Below W.heap.size W w') := fun W => dtext_any _ W (by omega)
  have C3 : Hid (∀ W u, Sl W u (bodyB r) → Calls Tryd.prog 25 #[u] W fun e w' => ∃ v, e = .returned v ∧ Sl w' v (sealB r) ∧ Below W.heap.size W w') := fun W u hs => Cr.rseal_any u (bodyB r) W hs (by have := bodyB_len r hr; omega)
  have C4 : Hid (∀ W, Calls Tryd.prog 24 #[.string (strB (sealB r))] W fun e w' => ∃ v, e = .returned v ∧ Sl w' v (Fi.textB (strB (sealB r))) ∧ Below W.heap.size W w') := fun W => dtext_any (strB (sealB r)) W (by
    have := sealB_len r hr
    have e : (strB (sealB r)).size = (sealB r).length := Fi.strB_size _
    omega)
  have RN : Hid (W1.rangeAt w.heap.size 0 r.cells) := r1
  have ZR : Hid ((Tryd.prog.info? 25).map (·.size) = some r.cells.length) := by unfold Hid; rw [Rc.len hr]; kernel_rfl
  have HP : Hid (putB r = if rck r = 0 then Fi.textB (strB (sealB r)) else []) := rfl
  have HYB : Hid (∀ i, 0 ≤ (bodyB r).getD i 0 ∧ (bodyB r).getD i 0 < 256) := bodyB_bytes r hr
  have HBY : Hid (bodyB r = if r.k = 0 then ([r.k] ++ Fi.numB r.x.i) ++ (Fi.textB r.x.p ++ (r.x.s ++ Fi.numB r.x.n)) else if r.k = 1 then ([r.k] ++ Fi.numB r.x.i) ++ Fi.numB r.x.o else [r.k] ++ Fi.numB r.x.i) := rfl
  have HL : Hid ((Fi.numB r.x.i).length ≤ 8 ∧ (Fi.numB r.x.n).length ≤ 8 ∧ (Fi.numB r.x.o).length ≤ 8 ∧ (Fi.textB r.x.p).length ≤ 1008 ∧ r.x.s.length = 32) := ⟨numB_len8 _, numB_len8 _, numB_len8 _, by have := textB_len9 r.x.p; omega, hr.2.2.1⟩
  have HSB : Hid (∀ k, 0 ≤ r.x.s.getD k 0 ∧ r.x.s.getD k 0 < 256) := hr.2.2.2.1
  have HKB : Hid (0 ≤ r.k ∧ r.k < 256) := ⟨hr.1, hr.2.1⟩
  have hk0 := (FK.out W1 (Below.refl _ _)).1
  unfold Rc.val
  clear hr hp b1 r1 hW1 hml
  generalize putB r = R at *
  generalize rck r = c at *
  generalize bodyB r = Y at *
  generalize sealB r = Z at *
  generalize r.cells = cs at *
  generalize r.k = k at *
  generalize Fi.numB r.x.i = IB at *
  generalize Fi.textB r.x.p = PB at *
  generalize r.x.s = sm at *
  generalize r.x.i = ii at *
  generalize r.x.o = oo at *
  generalize r.x.n = nn at *
  generalize r.x.p = pp at *
  have c1 := C1.out
  clear C1
  go_enter Tryd.func8, Tryd.ntmps8
  go_wp2_with (refine wpList_load_mid rfl 25 _ rfl w.heap.size 0 rfl cs _ RN.out Tryd.underlying25 rfl ZR.out ?_)
  refine c1.mono ?_
  rintro e w2 ⟨rfl, b2⟩
  have B2 : Hid (Below w.heap.size w w2) := B1.out.trans (b2.mono B1.out.size)
  have FK2 : Hid (∀ W, From w2 W → W.cell? ⟨w.heap.size, 0, none⟩ = some (.int .u8 k) ∧ W.cell? ⟨w.heap.size, 1, none⟩ = some (.int .i64 ii) ∧ W.cell? ⟨w.heap.size, 2, none⟩ = some (.string pp) ∧ W.cell? ⟨w.heap.size, 35, none⟩ = some (.int .i64 nn) ∧ W.cell? ⟨w.heap.size, 36, none⟩ = some (.int .i64 oo) ∧ W.rangeAt w.heap.size 3 (sm.map (Value.int .u8))) := fun W hb => FK.out W (b2.trans (Below.mono hb b2.size))
  clear c1 b2 hW1' B1 FK RN ZR hk0
  by_cases hc : c = 0
  · subst hc
    have HR : Hid (R = Fi.textB (strB Z)) := by unfold Hid; have := HP.out; simpa using this
    clear HP
    obtain ⟨K0, hK0⟩ : ∃ K0, K0 = [k] ++ IB := ⟨_, rfl⟩
    have HK0 : Hid (K0 = [k] ++ IB) := hK0
    have HK0L : Hid (K0.length ≤ 9) := by unfold Hid; rw [hK0]; have := HL.out.1; simp; omega
    clear hK0
    go_wp2_with fail
    go_cut [5] (fun s5 wx => wx.ownsRow w2.heap.size 5 1 s5 K0.length (K0.map (Value.int .u8)) ∧ From w2 wx)
    case first =>
      refine wp_region_held_drew (S := From w2) (by kernel_rfl) (Below.drew (Below.refl _ _)) (fun _ => ?_)
      refine wpAnyH_name (fun u0 hu0 => ?_)
      have bu0 : Below w2.heap.size w2 u0 := by rw [hu0.out]; exact Below.drew (Below.refl _ _)
      refine wpAnyH_take (i := 0) (oi := { dst := some 12, op := Op.fieldAddr 25 (Operand.tmp 1) 0, type := 0, pos := "ref.go:91", after := #[], guard := none }) (v := ?vk1) rfl (by kernel_rfl) (by kernel_rfl) (by kernel_rfl) (fun _ _ _ h => h) (Or.inl ⟨by rfl, ?yk1⟩) bu0 ?rk1
      case yk1 => (intro w hSw; go_simp; try with_reducible rfl)
      try simp only [Act.put, List.setIfInBounds_toArray, List.set_cons_zero, List.set_cons_succ]
      refine wpAnyH_take (i := 1) (oi := { dst := some 13, op := Op.load 5 (Operand.tmp 12), type := 5, pos := "ref.go:91", after := #[{ on := 0, ground := Ground.data }], guard := none }) (v := .int .u8 k) rfl (by kernel_rfl) (by kernel_rfl) (by kernel_rfl) (fun _ _ _ h => h) (Or.inl ⟨by rfl, ?yk2⟩) bu0 ?rk2
      case yk2 => (intro w hSw; obtain ⟨t0, -, -, -, -, -⟩ := FK2.out w hSw; go_simp; try with_reducible rfl)
      try simp only [Act.put, List.setIfInBounds_toArray, List.set_cons_zero, List.set_cons_succ]
      refine wpAnyH_take (i := 3) (oi := { dst := some 15, op := Op.fieldAddr 25 (Operand.tmp 1) 1, type := 0, pos := "ref.go:91", after := #[], guard := none }) (v := ?vk3) rfl (by kernel_rfl) (by kernel_rfl) (by kernel_rfl) (fun _ _ _ h => h) (Or.inl ⟨by rfl, ?yk3⟩) bu0 ?rk3
      case yk3 => (intro w hSw; go_simp; try with_reducible rfl)
      try simp only [Act.put, List.setIfInBounds_toArray, List.set_cons_zero, List.set_cons_succ]
      refine wpAnyH_take (i := 4) (oi := { dst := some 16, op := Op.load 3 (Operand.tmp 15), type := 3, pos := "ref.go:91", after := #[{ on := 3, ground := Ground.data }], guard := none }) (v := .int .i64 ii) rfl (by kernel_rfl) (by kernel_rfl) (by kernel_rfl) (fun _ _ _ h => h) (Or.inl ⟨by rfl, ?yk4⟩) bu0 ?rk4
      case yk4 => (intro w hSw; obtain ⟨-, t1, -, -, -, -⟩ := FK2.out w hSw; go_simp; try with_reducible rfl)
      try simp only [Act.put, List.setIfInBounds_toArray, List.set_cons_zero, List.set_cons_succ]
      refine wpAnyH_ready (rs := [2, 5]) (by kernel_rfl) (by simp) ?_
      refine AllReadyH.cons (o := { dst := some 14, op := Op.buildSlice 27 1 #[(0, Operand.tmp 13)], type := 27, pos := "ref.go:91", after := #[{ on := 1, ground := Ground.data }], guard := none }) rfl (fun KK hKK => ?_) ?_
      · go_simp
        refine hKK.out _ _ (bu0.trans ((al_below _ _).mono bu0.size)) (fun _ => ?_)
        clear hKK KK
        try simp only [Act.put, List.setIfInBounds_toArray, List.set_cons_zero, List.set_cons_succ]
        refine wpAnyH_name (fun u5 hu5 => ?_)
        have bu5 : Below w2.heap.size w2 u5 := by rw [hu5.out]; exact (bu0.trans ((al_below _ _).mono bu0.size))
        have Ou5 : u5.ownsRow w2.heap.size 5 1 (.slice (some ⟨u0.heap.size, 0, none⟩) 1 1) 1 ([k].map (Value.int .u8)) := by rw [hu5.out]; exact own_mono (one_own u0 k) bu0.size
        try have Su5 : Sl u5 (.slice na IB.length nc) IB := by rw [hu5.out]; exact Su0.kept (al_below _ _)
        refine wpAnyH_ready (rs := [5]) (by kernel_rfl) (by simp) ?_
        refine AllReadyH.cons (o := { dst := some 17, op := Op.call { callee := Callee.value (Operand.func 23), args := #[Operand.tmp 16], argTypes := #[3] }, type := 27, pos := "ref.go:91", after := #[{ on := 4, ground := Ground.data }], guard := none }) rfl (fun KK hKK => ?_) ?_
        · go_simp
          refine (CI.out _).mono ?_
          rintro e u6' ⟨v9, rfl, su6, bu6'⟩
          obtain ⟨na, nc, rfl, _⟩ := id su6
          (try go_wp2_with fail)
          refine hKK.out _ _ (bu5.trans (Below.mono (bu6') bu5.size)) (fun _ => ?_)
          clear hKK KK
          try simp only [Act.put, List.setIfInBounds_toArray, List.set_cons_zero, List.set_cons_succ]
          refine wpAnyH_name (fun u6 hu6 => ?_)
          have bu6 : Below w2.heap.size w2 u6 := by rw [hu6.out]; exact (bu5.trans (Below.mono (bu6') bu5.size))
          have Su6 : Sl u6 (.slice na IB.length nc) IB := by rw [hu6.out]; exact su6
          try have Ou6 := own_below Ou5 bu6'
          try rw [← hu6.out] at Ou6
          refine wpAnyH_ready (rs := [6]) (by kernel_rfl) (by simp) ?_
          refine AllReadyH.cons (o := { dst := some 18, op := Op.call { callee := Callee.builtin Builtin.append, args := #[Operand.tmp 14, Operand.tmp 17], argTypes := #[27, 27] }, type := 27, pos := "ref.go:91", after := #[{ on := 2, ground := Ground.data }, { on := 5, ground := Ground.data }, { on := 5, ground := Ground.chain }], guard := none }) rfl (fun KK hKK => ?_) ?_
          · refine wp_append_sl _ _ rfl w2.heap.size _ _ _ rfl Ou6 _ IB rfl Su6 (by have := HL.out.1; omega) bu6.size ?_
            intro v8 u7' o8 g8
            refine hKK.out _ _ (bu6.grown g8 bu6.size (own_base Ou6)) (fun _ => ?_)
            clear hKK KK
            try simp only [Act.put, List.setIfInBounds_toArray, List.set_cons_zero, List.set_cons_succ]
            refine wpAnyH_name (fun u7 hu7 => ?_)
            have bu7 : Below w2.heap.size w2 u7 := by rw [hu7.out]; exact (bu6.grown g8 bu6.size (own_base Ou6))
            have Pu7 : u7.ownsRow w2.heap.size 5 1 v8 K0.length (K0.map (Value.int .u8)) := by rw [hu7.out, HK0.out, List.length_append, List.map_append]; exact o8
            clear o8 g8
            obtain ⟨ea, ec, rfl⟩ := own_shape Pu7
            refine wpAnyH_take (i := 7) (oi := { dst := some 5, op := Op.assign (Operand.tmp 18), type := 27, pos := "ref.go:91", after := #[{ on := 6, ground := Ground.data }, { on := 6, ground := Ground.chain }, { on := 0, ground := Ground.phase }, { on := 1, ground := Ground.phase }, { on := 2, ground := Ground.phase }, { on := 3, ground := Ground.phase }, { on := 4, ground := Ground.phase }, { on := 5, ground := Ground.phase }, { on := 6, ground := Ground.phase }], guard := none }) (v := ?vk8) rfl (by kernel_rfl) (by kernel_rfl) (by kernel_rfl) (fun _ _ _ h => h) (Or.inl ⟨by rfl, ?yk8⟩) bu7 ?rk8
            case yk8 => (intro w hSw; go_simp; try with_reducible rfl)
            try simp only [Act.put, List.setIfInBounds_toArray, List.set_cons_zero, List.set_cons_succ]
            refine wpAnyH_done (by kernel_rfl) ?_ _
            have HZ : Hid (u7.ownsRow w2.heap.size 5 1 (.slice ea K0.length ec) K0.length (K0.map (Value.int .u8)) ∧ From w2 u7) := ⟨Pu7, bu7⟩
            clear FK2 CI CN CO CT C3 C4
            go_wp2_with fail
            go_meet
            exact HZ.out
          exact AllReadyH.nil
        exact AllReadyH.nil
      refine AllReadyH.cons (o := { dst := some 17, op := Op.call { callee := Callee.value (Operand.func 23), args := #[Operand.tmp 16], argTypes := #[3] }, type := 27, pos := "ref.go:91", after := #[{ on := 4, ground := Ground.data }], guard := none }) rfl (fun KK hKK => ?_) ?_
      · go_simp
        refine (CI.out _).mono ?_
        rintro e u9' ⟨v9, rfl, su9, bu9'⟩
        obtain ⟨na, nc, rfl, _⟩ := id su9
        (try go_wp2_with fail)
        refine hKK.out _ _ (bu0.trans (Below.mono (bu9') bu0.size)) (fun _ => ?_)
        clear hKK KK
        try simp only [Act.put, List.setIfInBounds_toArray, List.set_cons_zero, List.set_cons_succ]
        refine wpAnyH_name (fun u9 hu9 => ?_)
        have bu9 : Below w2.heap.size w2 u9 := by rw [hu9.out]; exact (bu0.trans (Below.mono (bu9') bu0.size))
        have Su9 : Sl u9 (.slice na IB.length nc) IB := by rw [hu9.out]; exact su9
        try have Ou9 := own_below Ou0 bu9'
        try rw [← hu9.out] at Ou9
        refine wpAnyH_ready (rs := [2]) (by kernel_rfl) (by simp) ?_
        refine AllReadyH.cons (o := { dst := some 14, op := Op.buildSlice 27 1 #[(0, Operand.tmp 13)], type := 27, pos := "ref.go:91", after := #[{ on := 1, ground := Ground.data }], guard := none }) rfl (fun KK hKK => ?_) ?_
        · go_simp
          refine hKK.out _ _ (bu9.trans ((al_below _ _).mono bu9.size)) (fun _ => ?_)
          clear hKK KK
          try simp only [Act.put, List.setIfInBounds_toArray, List.set_cons_zero, List.set_cons_succ]
          refine wpAnyH_name (fun u10 hu10 => ?_)
          have bu10 : Below w2.heap.size w2 u10 := by rw [hu10.out]; exact (bu9.trans ((al_below _ _).mono bu9.size))
          have Ou10 : u10.ownsRow w2.heap.size 5 1 (.slice (some ⟨u9.heap.size, 0, none⟩) 1 1) 1 ([k].map (Value.int .u8)) := by rw [hu10.out]; exact own_mono (one_own u9 k) bu9.size
          try have Su10 : Sl u10 (.slice na IB.length nc) IB := by rw [hu10.out]; exact Su9.kept (al_below _ _)
          refine wpAnyH_ready (rs := [6]) (by kernel_rfl) (by simp) ?_
          refine AllReadyH.cons (o := { dst := some 18, op := Op.call { callee := Callee.builtin Builtin.append, args := #[Operand.tmp 14, Operand.tmp 17], argTypes := #[27, 27] }, type := 27, pos := "ref.go:91", after := #[{ on := 2, ground := Ground.data }, { on := 5, ground := Ground.data }, { on := 5, ground := Ground.chain }], guard := none }) rfl (fun KK hKK => ?_) ?_
          · refine wp_append_sl _ _ rfl w2.heap.size _ _ _ rfl Ou10 _ IB rfl Su10 (by have := HL.out.1; omega) bu10.size ?_
            intro v8 u11' o8 g8
            refine hKK.out _ _ (bu10.grown g8 bu10.size (own_base Ou10)) (fun _ => ?_)
            clear hKK KK
            try simp only [Act.put, List.setIfInBounds_toArray, List.set_cons_zero, List.set_cons_succ]
            refine wpAnyH_name (fun u11 hu11 => ?_)
            have bu11 : Below w2.heap.size w2 u11 := by rw [hu11.out]; exact (bu10.grown g8 bu10.size (own_base Ou10))
            have Pu11 : u11.ownsRow w2.heap.size 5 1 v8 K0.length (K0.map (Value.int .u8)) := by rw [hu11.out, HK0.out, List.length_append, List.map_append]; exact o8
            clear o8 g8
            obtain ⟨ea, ec, rfl⟩ := own_shape Pu11
            refine wpAnyH_take (i := 7) (oi := { dst := some 5, op := Op.assign (Operand.tmp 18), type := 27, pos := "ref.go:91", after := #[{ on := 6, ground := Ground.data }, { on := 6, ground := Ground.chain }, { on := 0, ground := Ground.phase }, { on := 1, ground := Ground.phase }, { on := 2, ground := Ground.phase }, { on := 3, ground := Ground.phase }, { on := 4, ground := Ground.phase }, { on := 5, ground := Ground.phase }, { on := 6, ground := Ground.phase }], guard := none }) (v := ?vk12) rfl (by kernel_rfl) (by kernel_rfl) (by kernel_rfl) (fun _ _ _ h => h) (Or.inl ⟨by rfl, ?yk12⟩) bu11 ?rk12
            case yk12 => (intro w hSw; go_simp; try with_reducible rfl)
            try simp only [Act.put, List.setIfInBounds_toArray, List.set_cons_zero, List.set_cons_succ]
            refine wpAnyH_done (by kernel_rfl) ?_ _
            have HZ : Hid (u11.ownsRow w2.heap.size 5 1 (.slice ea K0.length ec) K0.length (K0.map (Value.int .u8)) ∧ From w2 u11) := ⟨Pu11, bu11⟩
            clear FK2 CI CN CO CT C3 C4
            go_wp2_with fail
            go_meet
            exact HZ.out
          exact AllReadyH.nil
        exact AllReadyH.nil
      exact AllReadyH.nil
    case rest =>
      obtain ⟨oc, bc⟩ := hcut
      have OC : Hid (wc.ownsRow w2.heap.size 5 1 u5 K0.length (K0.map (Value.int .u8))) := oc
      have BC : Hid (From w2 wc) := bc
      obtain ⟨q0, -, -, -, -, -⟩ := FK2.out wc bc
      clear oc bc
      by_cases hk : k = 0
      · have HY : Hid (Y = (K0 ++ PB ++ sm) ++ Fi.numB nn) := by unfold Hid; rw [HBY.out, if_pos hk, HK0.out]; simp
        have dk : (k == 0) = true := by simpa using hk
        have HLN : Hid (IB.length ≤ 8 ∧ PB.length ≤ 1008 ∧ sm.length = 32 ∧ (Fi.numB nn).length ≤ 8) := ⟨HL.out.1, HL.out.2.2.2.1, HL.out.2.2.2.2, HL.out.2.1⟩
        obtain ⟨K1, hK1⟩ : ∃ K1, K1 = K0 ++ PB ++ sm := ⟨_, rfl⟩
        have HK1 : Hid (K1 = K0 ++ PB ++ sm) := hK1
        rw [← hK1] at HY
        have HK1L : Hid (K1.length ≤ 1060) := by unfold Hid; rw [hK1]; have x1 := HK0L.out; have x2 := HL.out; simp; omega
        clear hK1
        have RH : Hid (wc.rangeAt w.heap.size 3 (sm.map (Value.int .u8))) := (FK2.out wc BC.out).2.2.2.2.2
        have ZH : Hid ((Tryd.prog.info? 23).map (·.size) = some (sm.map (Value.int .u8)).length) := by unfold Hid; rw [sizeHs, List.length_map, HL.out.2.2.2.2]
        have ZHA : Hid ((Tryd.prog.info? 23).map (·.size) = some (u8c sm).size) := by unfold Hid; rw [sizeHs]; simp [u8c, HL.out.2.2.2.2]
        have ZHS : Hid ((u8c z32).size = (u8c sm).size) := by unfold Hid; simp [u8c, HL.out.2.2.2.2, z32_len]
        have ZH1 : Hid ((u8c sm).all (·.oneCell') = true) := by unfold Hid; simp [u8c, Value.oneCell']
        obtain ⟨W4, hW4⟩ : ∃ W4, W4 = wc.alloc (.cells (u8c sm) 23) := ⟨_, rfl⟩
        have b4 : Below wc.heap.size wc W4 := by rw [hW4]; exact al_below _ _
        have e4 := alloc_h wc (u8c sm)
        rw [← hW4] at e4
        have HE4 : Hid ((wc.alloc (.cells #[.int .u8 0, .int .u8 0, .int .u8 0, .int .u8 0, .int .u8 0, .int .u8 0, .int .u8 0, .int .u8 0, .int .u8 0, .int .u8 0, .int .u8 0, .int .u8 0, .int .u8 0, .int .u8 0, .int .u8 0, .int .u8 0, .int .u8 0, .int .u8 0, .int .u8 0, .int .u8 0, .int .u8 0, .int .u8 0, .int .u8 0, .int .u8 0, .int .u8 0, .int .u8 0, .int .u8 0, .int .u8 0, .int .u8 0, .int .u8 0, .int .u8 0, .int .u8 0] 23)).setRow wc.heap.size (u8c sm) = W4) := e4
        have G4 : Hid (W4.heap[wc.heap.size]? = some (.cells (u8c sm) 23 (0, 0))) := by unfold Hid; rw [hW4]; exact heap_alloc_new _ _
        have B4 : Hid (From w2 W4) := BC.out.trans (b4.mono BC.out.size)
        have O4 : Hid (W4.ownsRow w2.heap.size 5 1 u5 K0.length (K0.map (Value.int .u8))) := own_below OC.out b4
        obtain ⟨a5, n5, rfl⟩ := own_shape OC.out
        clear HBY hk CI CO b4 hW4 e4
        generalize hNB : Fi.numB nn = NB at *
        clear hNB
        go_wp2_with (first
          | refine wpList_load_mid rfl 23 _ rfl w.heap.size 3 rfl (sm.map (Value.int .u8)) _ RH.out Tryd.underlying23 rfl ZH.out ?_
          | refine wpList_store_row rfl 23 _ _ rfl wc.heap.size (u8c sm) rfl rfl 23 (u8c z32) (new_h wc) ZHA.out ZHS.out ZH1.out (Hid.out ?_))
        unfold Hid
        rw [HE4.out]
        have SH : Hid (∀ W : World, W.heap[wc.heap.size]? = some (.cells (u8c sm) 23 (0, 0)) → Sl W (.slice (some ⟨wc.heap.size, 0, none⟩) 32 32) sm) := fun W g => by
          exact sl_range (blk_range (cs := sm.map (Value.int .u8)) g) HSB.out HL.out.2.2.2.2.symm (Nat.le_refl _) (by unfold maxLen; omega)
        clear HE4 OC BC RH ZH ZHA ZHS ZH1 q0
        go_wp2_with fail
        go_cut [5] (fun s5 wx => wx.ownsRow w2.heap.size 5 1 s5 K1.length (K1.map (Value.int .u8)) ∧ From w2 wx)
        case first =>
          refine wp_region_held_drew (S := fun W : World => From w2 W ∧ W.heap[wc.heap.size]? = some (.cells (u8c sm) 23 (0, 0))) (by kernel_rfl) (⟨B4.out.drew, G4.out⟩) (fun _ => ?_)
          refine wpAnyH_name (fun u0 hu0 => ?_)
          have su0 : (fun W : World => From w2 W ∧ W.heap[wc.heap.size]? = some (.cells (u8c sm) 23 (0, 0))) u0 := by rw [hu0.out]; exact (⟨B4.out.drew, G4.out⟩)
          have Ou0 : u0.ownsRow w2.heap.size 5 1 (.slice a5 K0.length n5) K0.length (K0.map (Value.int .u8)) := by rw [hu0.out]; exact own_below O4.out (Below.refl _ _).drew
          refine wpAnyH_take (i := 0) (oi := { dst := some 25, op := Op.move (Operand.tmp 5), type := 27, pos := "ref.go:95", after := #[], guard := none }) (v := ?vt1) rfl (by kernel_rfl) (by kernel_rfl) (by kernel_rfl) (fun _ _ _ h => h) (Or.inl ⟨by rfl, ?yt1⟩) su0 ?rt1
          case yt1 => (intro w hSw; go_simp; try with_reducible rfl)
          try simp only [Act.put, List.setIfInBounds_toArray, List.set_cons_zero, List.set_cons_succ]
          refine wpAnyH_take (i := 1) (oi := { dst := some 26, op := Op.fieldAddr 25 (Operand.tmp 1) 2, type := 0, pos := "ref.go:95", after := #[], guard := none }) (v := ?vt2) rfl (by kernel_rfl) (by kernel_rfl) (by kernel_rfl) (fun _ _ _ h => h) (Or.inl ⟨by rfl, ?yt2⟩) su0 ?rt2
          case yt2 => (intro w hSw; go_simp; try with_reducible rfl)
          try simp only [Act.put, List.setIfInBounds_toArray, List.set_cons_zero, List.set_cons_succ]
          refine wpAnyH_take (i := 2) (oi := { dst := some 27, op := Op.load 9 (Operand.tmp 26), type := 9, pos := "ref.go:95", after := #[{ on := 1, ground := Ground.data }], guard := none }) (v := .string pp) rfl (by kernel_rfl) (by kernel_rfl) (by kernel_rfl) (fun _ _ _ h => h) (Or.inl ⟨by rfl, ?yt3⟩) su0 ?rt3
          case yt3 => (intro w hSw; have t0 := (FK2.out w hSw.1).2.2.1; go_simp; try with_reducible rfl)
          try simp only [Act.put, List.setIfInBounds_toArray, List.set_cons_zero, List.set_cons_succ]
          refine wpAnyH_take (i := 5) (oi := { dst := some 30, op := Op.slice 23 (Operand.tmp 6) none none none, type := 27, pos := "ref.go:95", after := #[], guard := none }) (v := .slice (some ⟨wc.heap.size, 0, none⟩) 32 32) rfl (by kernel_rfl) (by kernel_rfl) (by kernel_rfl) (fun _ _ _ h => h) (Or.inl ⟨by rfl, ?yt4⟩) su0 ?rt4
          case yt4 => (intro w hSw; go_simp; try with_reducible rfl)
          try simp only [Act.put, List.setIfInBounds_toArray, List.set_cons_zero, List.set_cons_succ]
          refine wpAnyH_ready (rs := [3]) (by kernel_rfl) (by simp) ?_
          refine AllReadyH.cons (o := { dst := some 28, op := Op.call { callee := Callee.value (Operand.func 24), args := #[Operand.tmp 27], argTypes := #[9] }, type := 27, pos := "ref.go:95", after := #[{ on := 2, ground := Ground.data }], guard := none }) rfl (fun KK hKK => ?_) ?_
          · go_simp
            refine (CT.out _).mono ?_
            rintro e u5' ⟨v9, rfl, su5', bu5'⟩
            obtain ⟨na, nc, rfl, _⟩ := id su5'
            (try go_wp2_with fail)
            refine hKK.out _ _ (⟨su0.1.trans (bu5'.mono su0.1.size), blk_kept su0.2 bu5' (blk_lt su0.2)⟩) (fun _ => ?_)
            clear hKK KK
            try simp only [Act.put, List.setIfInBounds_toArray, List.set_cons_zero, List.set_cons_succ]
            refine wpAnyH_name (fun u5 hu5 => ?_)
            have su5 : (fun W : World => From w2 W ∧ W.heap[wc.heap.size]? = some (.cells (u8c sm) 23 (0, 0))) u5 := by rw [hu5.out]; exact (⟨su0.1.trans (bu5'.mono su0.1.size), blk_kept su0.2 bu5' (blk_lt su0.2)⟩)
            have Su5 : Sl u5 (.slice na PB.length nc) PB := by rw [hu5.out]; exact su5'
            have Ou5 := own_below Ou0 bu5'
            rw [← hu5.out] at Ou5
            refine wpAnyH_ready (rs := [4]) (by kernel_rfl) (by simp) ?_
            refine AllReadyH.cons (o := { dst := some 29, op := Op.call { callee := Callee.builtin Builtin.append, args := #[Operand.tmp 25, Operand.tmp 28], argTypes := #[27, 27] }, type := 27, pos := "ref.go:95", after := #[{ on := 0, ground := Ground.data }, { on := 3, ground := Ground.data }, { on := 3, ground := Ground.chain }], guard := none }) rfl (fun KK hKK => ?_) ?_
            · refine wp_append_sl _ _ rfl w2.heap.size _ _ _ rfl Ou5 _ PB rfl Su5 (by have x1 := HLN.out; have x2 := HK0L.out; omega) su5.1.size ?_
              intro v8 u6' o8 g8
              refine hKK.out _ _ (⟨su5.1.grown g8 su5.1.size (own_base Ou5), (g8.block _ (blk_lt su5.2) (fun e => own_ne Ou5 su5.2 (by decide) e.symm)).trans su5.2⟩) (fun _ => ?_)
              clear hKK KK
              try simp only [Act.put, List.setIfInBounds_toArray, List.set_cons_zero, List.set_cons_succ]
              refine wpAnyH_name (fun u6 hu6 => ?_)
              have su6 : (fun W : World => From w2 W ∧ W.heap[wc.heap.size]? = some (.cells (u8c sm) 23 (0, 0))) u6 := by rw [hu6.out]; exact (⟨su5.1.grown g8 su5.1.size (own_base Ou5), (g8.block _ (blk_lt su5.2) (fun e => own_ne Ou5 su5.2 (by decide) e.symm)).trans su5.2⟩)
              have Pu6 : u6.ownsRow w2.heap.size 5 1 v8 (K0 ++ PB).length ((K0 ++ PB).map (Value.int .u8)) := by rw [hu6.out, List.length_append, List.map_append]; exact o8
              clear o8 g8
              obtain ⟨ea, ec, rfl⟩ := own_shape Pu6
              refine wpAnyH_ready (rs := [6]) (by kernel_rfl) (by simp) ?_
              refine AllReadyH.cons (o := { dst := some 31, op := Op.call { callee := Callee.builtin Builtin.append, args := #[Operand.tmp 29, Operand.tmp 30], argTypes := #[27, 27] }, type := 27, pos := "ref.go:95", after := #[{ on := 4, ground := Ground.data }, { on := 5, ground := Ground.data }, { on := 4, ground := Ground.chain }], guard := none }) rfl (fun KK hKK => ?_) ?_
              · refine wp_append_sl _ _ rfl w2.heap.size _ _ _ rfl Pu6 _ sm rfl (SH.out _ su6.2) (by have x1 := HLN.out; have x2 := HK0L.out; rw [List.length_append]; omega) su6.1.size ?_
                intro v7 u7' o7 g7
                refine hKK.out _ _ (⟨su6.1.grown g7 su6.1.size (own_base Pu6), (g7.block _ (blk_lt su6.2) (fun e => own_ne Pu6 su6.2 (by decide) e.symm)).trans su6.2⟩) (fun _ => ?_)
                clear hKK KK
                try simp only [Act.put, List.setIfInBounds_toArray, List.set_cons_zero, List.set_cons_succ]
                refine wpAnyH_name (fun u7 hu7 => ?_)
                have su7 : (fun W : World => From w2 W ∧ W.heap[wc.heap.size]? = some (.cells (u8c sm) 23 (0, 0))) u7 := by rw [hu7.out]; exact (⟨su6.1.grown g7 su6.1.size (own_base Pu6), (g7.block _ (blk_lt su6.2) (fun e => own_ne Pu6 su6.2 (by decide) e.symm)).trans su6.2⟩)
                have Qu7 : u7.ownsRow w2.heap.size 5 1 v7 K1.length (K1.map (Value.int .u8)) := by rw [hu7.out, HK1.out, List.length_append (bs := sm), List.map_append (l₂ := sm)]; exact o7
                clear o7 g7
                obtain ⟨fa, fc, rfl⟩ := own_shape Qu7
                refine wpAnyH_take (i := 7) (oi := { dst := some 5, op := Op.assign (Operand.tmp 31), type := 27, pos := "ref.go:95", after := #[{ on := 6, ground := Ground.data }, { on := 6, ground := Ground.chain }, { on := 0, ground := Ground.phase }, { on := 1, ground := Ground.phase }, { on := 2, ground := Ground.phase }, { on := 3, ground := Ground.phase }, { on := 4, ground := Ground.phase }, { on := 5, ground := Ground.phase }, { on := 6, ground := Ground.phase }], guard := none }) (v := ?vt8) rfl (by kernel_rfl) (by kernel_rfl) (by kernel_rfl) (fun _ _ _ h => h) (Or.inl ⟨by rfl, ?yt8⟩) su7 ?rt8
                case yt8 => (intro w hSw; go_simp; try with_reducible rfl)
                try simp only [Act.put, List.setIfInBounds_toArray, List.set_cons_zero, List.set_cons_succ]
                refine wpAnyH_done (by kernel_rfl) ?_ _
                have HZ : Hid (u7.ownsRow w2.heap.size 5 1 (.slice fa K1.length fc) K1.length (K1.map (Value.int .u8)) ∧ From w2 u7) := ⟨Qu7, su7.1⟩
                clear FK2 CN CT C3 C4 SH
                go_wp2_with fail
                go_meet
                exact HZ.out
              exact AllReadyH.nil
            exact AllReadyH.nil
          exact AllReadyH.nil
        case rest =>
          obtain ⟨oc, bc⟩ := hcut
          have OC : Hid (wc.ownsRow w2.heap.size 5 1 u5 K1.length (K1.map (Value.int .u8))) := oc
          have BC : Hid (From w2 wc) := bc
          have HKL : Hid (K1.length ≤ 1060) := HK1L.out
          clear oc bc SH CT O4 B4 HSB HKB HL G4
          obtain ⟨q0, -, -, q3, -, -⟩ := FK2.out wc BC.out
          have cn := CN.out wc
          obtain ⟨a5, n5, rfl⟩ := own_shape OC.out
          clear CN
          go_wp2_with fail
          refine cn.mono ?_
          rintro e w5 ⟨u5, rfl, s5, b5⟩
          have B5 : Hid (From w2 w5) := BC.out.trans (b5.mono BC.out.size)
          have O5 : Hid (w5.ownsRow w2.heap.size 5 1 (.slice a5 (K1).length n5) (K1).length ((K1).map (Value.int .u8))) := own_below OC.out b5
          have S5 : Hid (Sl w5 u5 NB) := s5
          obtain ⟨a6, n6, rfl, _⟩ := id s5
          clear cn s5 b5 BC OC
          go_wp2_with (at_builtin; refine wpList_append_sl rfl _ _ rfl w2.heap.size _ _ _ rfl O5.out _ NB rfl S5.out (by have x1 := HLN.out; have x2 := HKL.out; omega) B5.out.size (Hid.out ?_))
          unfold Hid
          intro v5 w6 o6 g6
          have BE : Hid (From w2 w6) := B5.out.grown g6 B5.out.size (own_base O5.out)
          have OE : Hid (w6.ownsRow w2.heap.size 5 1 v5 Y.length (Y.map (Value.int .u8))) := by unfold Hid; rw [HY.out, List.map_append, List.length_append]; exact o6
          clear o6 g6 O5 S5 B5
          clear q3 q0
          have sb : Sl w6 v5 Y := sl_owned OE.out HYB.out
          have c3 := C3.out w6 v5 sb
          obtain ⟨a3, n3, rfl, _⟩ := id sb
          clear sb OE HYB
          go_wp2_with fail
          refine c3.mono ?_
          rintro e w7 ⟨u7, rfl, s7, b7⟩
          have B7 : Hid (From w2 w7) := BE.out.trans (b7.mono BE.out.size)
          have c4 := C4.out w7
          obtain ⟨a7, n7, rfl, _⟩ := id s7
          have cv := s7.conv
          clear c3 C3 C4 s7 b7 BE
          generalize Z.length = zl at *
          generalize strB Z = SZ at *
          go_wp2_with fail
          refine c4.mono ?_
          rintro e w8 ⟨u8, rfl, s8, b8⟩
          have B8 : Hid (Below w.heap.size w w8) := B2.out.trans ((B7.out.trans (b8.mono B7.out.size)).mono B2.out.size)
          have S8 : Hid (Sl w8 u8 R) := by unfold Hid; rw [HR.out]; exact s8
          obtain ⟨a8, n8, rfl, _⟩ := id s8
          clear c4 cv s8 b8 B7 HR
          go_wp2
          exact bodyPost_ret (results_tmp2 rfl _ _ _) rfl ⟨_, rfl, S8.out, B8.out⟩
      · have dk : (k == 0) = false := by simpa using hk
        by_cases hk1 : k = 1
        · have HY : Hid (Y = K0 ++ Fi.numB oo) := by unfold Hid; rw [HBY.out, if_neg hk, if_pos hk1, HK0.out]
          have dk1 : (k == 1) = true := by simpa using hk1
          have HLN : Hid (IB.length ≤ 8 ∧ (Fi.numB oo).length ≤ 8) := ⟨HL.out.1, HL.out.2.2.1⟩
          have HKL : Hid (K0.length ≤ 1060) := by unfold Hid; have := HK0L.out; omega
          clear HBY hk hk1 CI CN CT HL HSB HKB q0
          generalize hNB : Fi.numB oo = NB at *
          clear hNB
          obtain ⟨q0, -, -, -, q4, -⟩ := FK2.out wc BC.out
          have cn := CO.out wc
          obtain ⟨a5, n5, rfl⟩ := own_shape OC.out
          clear CO
          go_wp2_with fail
          refine cn.mono ?_
          rintro e w5 ⟨u5, rfl, s5, b5⟩
          have B5 : Hid (From w2 w5) := BC.out.trans (b5.mono BC.out.size)
          have O5 : Hid (w5.ownsRow w2.heap.size 5 1 (.slice a5 (K0).length n5) (K0).length ((K0).map (Value.int .u8))) := own_below OC.out b5
          have S5 : Hid (Sl w5 u5 NB) := s5
          obtain ⟨a6, n6, rfl, _⟩ := id s5
          clear cn s5 b5 BC OC
          go_wp2_with (at_builtin; refine wpList_append_sl rfl _ _ rfl w2.heap.size _ _ _ rfl O5.out _ NB rfl S5.out (by have x1 := HLN.out; have x2 := HKL.out; omega) B5.out.size (Hid.out ?_))
          unfold Hid
          intro v5 w6 o6 g6
          have BE : Hid (From w2 w6) := B5.out.grown g6 B5.out.size (own_base O5.out)
          have OE : Hid (w6.ownsRow w2.heap.size 5 1 v5 Y.length (Y.map (Value.int .u8))) := by unfold Hid; rw [HY.out, List.map_append, List.length_append]; exact o6
          clear o6 g6 O5 S5 B5
          clear q4 q0
          have sb : Sl w6 v5 Y := sl_owned OE.out HYB.out
          have c3 := C3.out w6 v5 sb
          obtain ⟨a3, n3, rfl, _⟩ := id sb
          clear sb OE HYB
          go_wp2_with fail
          refine c3.mono ?_
          rintro e w7 ⟨u7, rfl, s7, b7⟩
          have B7 : Hid (From w2 w7) := BE.out.trans (b7.mono BE.out.size)
          have c4 := C4.out w7
          obtain ⟨a7, n7, rfl, _⟩ := id s7
          have cv := s7.conv
          clear c3 C3 C4 s7 b7 BE
          generalize Z.length = zl at *
          generalize strB Z = SZ at *
          go_wp2_with fail
          refine c4.mono ?_
          rintro e w8 ⟨u8, rfl, s8, b8⟩
          have B8 : Hid (Below w.heap.size w w8) := B2.out.trans ((B7.out.trans (b8.mono B7.out.size)).mono B2.out.size)
          have S8 : Hid (Sl w8 u8 R) := by unfold Hid; rw [HR.out]; exact s8
          obtain ⟨a8, n8, rfl, _⟩ := id s8
          clear c4 cv s8 b8 B7 HR
          go_wp2
          exact bodyPost_ret (results_tmp2 rfl _ _ _) rfl ⟨_, rfl, S8.out, B8.out⟩
        · have HY : Hid (Y = K0) := by unfold Hid; rw [HBY.out, if_neg hk, if_neg hk1, HK0.out]
          have dk1 : (k == 1) = false := by simpa using hk1
          obtain ⟨v5, hv5⟩ : ∃ v5, v5 = u5 := ⟨_, rfl⟩
          have OE : Hid (wc.ownsRow w2.heap.size 5 1 v5 Y.length (Y.map (Value.int .u8))) := by unfold Hid; rw [HY.out, hv5]; exact OC.out
          have BE : Hid (From w2 wc) := BC.out
          rw [← hv5]
          clear HBY hk hk1 CI CN CT CO HL HSB HKB OC BC hv5 HY
          have sb : Sl wc v5 Y := sl_owned OE.out HYB.out
          have c3 := C3.out wc v5 sb
          obtain ⟨a3, n3, rfl, _⟩ := id sb
          clear sb OE HYB
          go_wp2_with fail
          refine c3.mono ?_
          rintro e w7 ⟨u7, rfl, s7, b7⟩
          have B7 : Hid (From w2 w7) := BE.out.trans (b7.mono BE.out.size)
          have c4 := C4.out w7
          obtain ⟨a7, n7, rfl, _⟩ := id s7
          have cv := s7.conv
          clear c3 C3 C4 s7 b7 BE
          generalize Z.length = zl at *
          generalize strB Z = SZ at *
          go_wp2_with fail
          refine c4.mono ?_
          rintro e w8 ⟨u8, rfl, s8, b8⟩
          have B8 : Hid (Below w.heap.size w w8) := B2.out.trans ((B7.out.trans (b8.mono B7.out.size)).mono B2.out.size)
          have S8 : Hid (Sl w8 u8 R) := by unfold Hid; rw [HR.out]; exact s8
          obtain ⟨a8, n8, rfl, _⟩ := id s8
          clear c4 cv s8 b8 B7 HR
          go_wp2
          exact bodyPost_ret (results_tmp2 rfl _ _ _) rfl ⟨_, rfl, S8.out, B8.out⟩
  · have HR : Hid (R = []) := by unfold Hid; have := HP.out; rwa [if_neg hc] at this
    have hc2 : (c != 0) = true := by simpa using hc
    clear HP C3 C4
    go_wp2
    exact bodyPost_ret (results_tmp2 rfl _ _ _) rfl ⟨_, rfl, by rw [HR.out]; exact Sl.none _, B2.out⟩
end Go.Proofs.YtcenchnmibdebaaDoor
