/-
  What the document's Put of items answers.
-/
import Derived.Test.YtdnbiibijoggoaaGreatDoorIg
import Derived.Test.YtdnbiibijoggoaaGreatDoorRck
import Derived.Test.YtdnbiibijoggoaaGreatDoorFiRLay
namespace Go.Proofs.YtdnbiibijoggoaaGreatDoor
open Go.RowKit
set_option maxRecDepth 100000

theorem wp_append_ow {w : World} {o : Oper} {a : Act} {KK : Act → World → Prop} {Q : Exit → Act → World → Prop} (s x : Operand)
    (ho : o.op = .call { callee := .builtin .append, args := #[s, x], argTypes := #[34, 34] })
    (B : Nat) (v : Value) (X : List Int) (hs : a.eval s = v) (hown : Ow w B v X)
    (src : Value) (Z : List Int) (hx : a.eval x = src) (hsl : Sl w src Z) (hbig : X.length + Z.length ≤ 200000000000000) (hbase : B ≤ w.heap.size)
    (h : ∀ v' w', Ow w' B v' (X ++ Z) → Below B w w' → KK (a.put o.dst v') w') : o.wp Tryz.prog a w KK Q := by
  have hzb := hsl.bytes
  have hXZ : ∀ k, 0 ≤ (X ++ Z).getD k 0 ∧ (X ++ Z).getD k 0 < 256 := fun k => by
    rcases Nat.lt_or_ge k X.length with h | h
    · have : (X ++ Z).getD k 0 = X.getD k 0 := by simp [List.getD, List.getElem?_append_left h]
      rw [this]; exact hown.2 k
    · have : (X ++ Z).getD k 0 = Z.getD (k - X.length) 0 := by simp [List.getD, List.getElem?_append_right h]
      rw [this]; exact hzb _
  obtain ⟨i0, hi, hz0, hz1, hz2⟩ := info_parts info5'
  obtain ⟨ad, cap, rfl, h1, h2, h3, h4⟩ := hsl
  cases ad with
  | none =>
    obtain rfl := h3 rfl
    obtain rfl : Z = [] := List.length_eq_zero_iff.1 (by omega)
    have hrun := run_append_owned_none (P := Tryz.prog) (w := w) B 34 o.type 5 i0 1 Tryz.underlying34 hi v X.length _ hown.1
    have hx' : a.eval x = .slice none 0 0 := hx
    unfold Oper.wp
    simp [execOp, ho, resolve, invoke, builtin, hs, hx', hrun, Result.andThen]
    exact h v w (by rw [List.append_nil]; exact hown) (Below.refl _ _)
  | some y =>
    refine wp_append_own_wide w s x 34 ho B 5 i0 (.int .u8 0) 1 1 Tryz.underlying34 hi hz0 hz1 hz2 rfl (by decide) v X.length _ hs hown.1 y Z.length cap (Z.map (Value.int .u8)) hx (by rw [List.length_map, Nat.mul_one]) (news_row h4) (ints_one Z) (by unfold maxLen; omega) (by omega) hbase
      (fun v' w' ho' hg _ => h v' w' ⟨by rw [List.length_append, List.map_append]; exact ho', hXZ⟩ ((Below.refl B w).grown hg hbase (own_base hown.1)))
theorem wpList_append_ow {w : World} {ops : Array Oper} {rest : List Oper} {o : Oper} {a : Act} {Q : Exit → Act → World → Prop} (hgd : o.guard = none) (s x : Operand)
    (ho : o.op = .call { callee := .builtin .append, args := #[s, x], argTypes := #[34, 34] })
    (B : Nat) (v : Value) (X : List Int) (hs : a.eval s = v) (hown : Ow w B v X)
    (src : Value) (Z : List Int) (hx : a.eval x = src) (hsl : Sl w src Z) (hbig : X.length + Z.length ≤ 200000000000000) (hbase : B ≤ w.heap.size)
    (h : ∀ v' w', Ow w' B v' (X ++ Z) → Below B w w' → wpList Tryz.prog ops Q rest (a.put o.dst v') w') : wpList Tryz.prog ops Q (o :: rest) a w :=
  wpList_plain hgd fun _ hK => wp_append_ow s x ho B v X hs hown src Z hx hsl hbig hbase fun v' w' h1 h2 => hK _ _ (h v' w' h1 h2)
theorem numB_bt (n : Int) : ∀ k, 0 ≤ (Fi.numB n).getD k 0 ∧ (Fi.numB n).getD k 0 < 256 := by
  unfold Fi.numB
  split
  · intro k; simp
  · rename_i h0
    obtain ⟨W, hW, _, hI, h1, h2, hn⟩ := Fi.pos_lim n h0
    rw [hW, Int.toNat_natCast]
    exact Fi.pb_bytes n W hI h1 h2
theorem textB_bt (s : ByteArray) : ∀ k, 0 ≤ (Fi.textB s).getD k 0 ∧ (Fi.textB s).getD k 0 < 256 := by
  have := bytes_flat [Fi.numB s.size, Fi.sb s] (fun X hX => by
    simp only [List.mem_cons, List.not_mem_nil, or_false] at hX
    rcases hX with rfl | rfl
    · exact numB_bt _
    · exact Fi.sb_bytes s)
  unfold Fi.textB
  simpa using this
theorem layL_take (l : List It) (j : Nat) (hj : j < l.length) : ((l.take (j + 1)).map layI).flatten = ((l.take j).map layI).flatten ++ layI (atI l j) := by
  rw [takeI_at l j hj]; simp
set_option maxHeartbeats 8000000 in
theorem rput_any (v : Value) (l : List It) (w : World) (h : IS w v l) (hl : l.length ≤ 100) (hp : ∀ x ∈ l, x.p.size ≤ 1000) :
    Calls Tryz.prog 13 #[v] w fun e w' => ∃ v', e = .returned (.tuple #[v', .int .i64 (mput l).2]) ∧ Ow w' w.heap.size v' (mput l).1 ∧ Below w.heap.size w w' := by
  have CK := rcheckI_any v l w h hl hp
  obtain ⟨a, c, rfl, h2, h3, h4⟩ := h.shape
  have HS : Hid (IS w (.slice a l.length c) l) := h
  have HOK : Hid (∀ x ∈ l, x.ok) := h.ok
  have HP : Hid (∀ j, (atI l j).p.size ≤ 1000) := fun j => by
    by_cases hi : j < l.length
    · exact hp _ (atI_mem l j hi)
    · have e : atI l j = it0 := by simp [atI, List.getD, List.getElem?_eq_none (show l.length ≤ j by omega)]
      rw [e]; decide
  have HBG : Hid (∀ j, (Fi.numB l.length ++ ((l.take j).map layI).flatten).length ≤ 300000) := fun j => by
    have h1 := lays_len (l.take j) (fun x hx => h.ok x (List.mem_of_mem_take hx)) (fun x hx => hp x (List.mem_of_mem_take hx))
    have h2 := numB_len8 (l.length : Int)
    have h3 : (l.take j).length ≤ 100 := by rw [List.length_take]; omega
    rw [List.length_append]
    omega
  have HM : Hid (mput l = if mck l ≠ 0 then ([], mck l) else (layL l, 0)) := rfl
  have HY : Hid (layL l = Fi.numB l.length ++ ((l.take l.length).map layI).flatten) := by unfold Hid layL; rw [List.take_length]
  have hn := hl
  obtain ⟨n, hn'⟩ : ∃ n, n = l.length := ⟨_, rfl⟩
  have HN : Hid (n = l.length) := hn'
  have CN : Hid (∀ (k : Int) (W : World), Calls Tryz.prog 33 #[.int .i64 k] W fun r w' => ∃ v, r = .returned v ∧ Ow w' W.heap.size v (Fi.numB k) ∧ Below W.heap.size W w') := fun k W => (Fi.rnumB_any k W).mono fun _ _ ⟨v, e, o, b⟩ => ⟨v, e, ⟨o, numB_bt k⟩, b⟩
  have CT : Hid (∀ (s : ByteArray) (W : World), s.size ≤ 1000 → Calls Tryz.prog 34 #[.string s] W fun r w' => ∃ v, r = .returned v ∧ Ow w' W.heap.size v (Fi.textB s) ∧ Below W.heap.size W w') := fun s W hs => (Fi.rtextB_any s W (by omega)).mono fun _ _ ⟨v, e, o, b⟩ => ⟨v, e, ⟨o, textB_bt s⟩, b⟩
  rw [← hn'] at HS h2 hn CK HY HBG ⊢
  clear h hl h3 h4 hn' hp
  generalize mput l = R at *
  generalize mck l = k at *
  generalize layL l = Y at *
  go_enter Tryz.func13, Tryz.ntmps13
  go_wp2_with fail
  refine CK.mono ?_
  rintro e w1 ⟨rfl, b1⟩
  clear CK
  have B1 : Hid (Below w.heap.size w w1) := b1
  clear b1
  by_cases hk : k = 0
  · subst hk
    obtain rfl : R = (Y, 0) := by have := HM.out; simpa using this
    clear HM
    have cn := CN.out (n : Int) w1
    go_wp2_with fail
    refine cn.mono ?_
    rintro e w2 ⟨v2, rfl, o2, b2⟩
    clear cn
    have B2 : Hid (Below w.heap.size w w2) := B1.out.trans (b2.mono B1.out.size)
    have O2 : Hid (Ow w2 w.heap.size v2 (Fi.numB n ++ ((l.take 0).map layI).flatten)) := by
      unfold Hid
      have e : Fi.numB (n : Int) ++ ((l.take 0).map layI).flatten = Fi.numB n := by simp
      rw [e]
      exact o2.mono B1.out.size
    obtain ⟨na, nc, rfl⟩ := o2.shape
    clear o2 b2 B1
    go_wp2_with fail
    go_loopw [5, 6] (fun s q wr => ∃ j : Nat, j ≤ n ∧ q = .int .i64 j ∧ Ow wr w.heap.size s (Fi.numB n ++ ((l.take j).map layI).flatten) ∧ Below w.heap.size w wr) (fun _ q _ => n - (intOf q).toNat)
    case atStart => exact ⟨0, by omega, rfl, O2.out, B2.out⟩
    case round =>
      clear O2 B2
      obtain ⟨j, hj, rfl, oe, bel⟩ := hrel
      have HB : Hid (Below w.heap.size w wr) := bel
      have HO : Hid (Ow wr w.heap.size u5 (Fi.numB n ++ ((l.take j).map layI).flatten)) := oe
      obtain ⟨va, vc, rfl⟩ := oe.shape
      clear bel oe
      by_cases hlt : j < n
      · have lt2 : (j : Int) < (n : Int) := by omega
        have lt3 : (0 : Int) ≤ (j : Int) := by omega
        have hlt' : j < l.length := by rw [← HN.out]; exact hlt
        have FR : ∀ W, Below w.heap.size w W → ∃ b off, a = some ⟨b, off, none⟩ ∧ W.rangeAt b (off + j * 35) (atI l j).cells := fun W hb => (HS.out.kept hb).at j hlt'
        obtain ⟨b, off, ha, -⟩ := FR w (Below.refl _ _)
        subst ha
        have FT : Hid (∀ W, From w W → W.cell? ⟨b, off + j * 35, none⟩ = some (.string (atI l j).p) ∧ W.cell? ⟨b, off + j * 35 + 1, none⟩ = some (.bool (atI l j).d) ∧ W.cell? ⟨b, off + j * 35 + 2, none⟩ = some (.int .i64 (atI l j).n)) := fun W hb => by
          obtain ⟨b', off', e, hr⟩ := FR W hb
          cases e
          exact range_head hr
        have FS : Hid (∀ W, From w W → W.rangeAt b (off + j * 35 + 3) ((atI l j).s.map (Value.int .u8))) := fun W hb => by
          obtain ⟨b', off', e, hr⟩ := FR W hb
          cases e
          exact range_sum hr
        have hx : (atI l j).ok := It.at l HOK.out j
        have hxp := HP.out j
        have HLY : Hid (layI (atI l j) = if (atI l j).d = true then Fi.textB (atI l j).p ++ [1] else Fi.textB (atI l j).p ++ ([0] ++ (Fi.numB (atI l j).n ++ (atI l j).s))) := rfl
        have HT : Hid (Fi.numB n ++ ((l.take (j + 1)).map layI).flatten = (Fi.numB n ++ ((l.take j).map layI).flatten) ++ layI (atI l j)) := by unfold Hid; rw [layL_take l j hlt', List.append_assoc]
        have hb0 := HBG.out j
        have ct := CT.out (atI l j).p wr hxp
        have l9 := textB_len9 (atI l j).p
        have l8 := numB_len8 (atI l j).n
        have HSL : Hid ((atI l j).s.length = 32) := hx.1
        have HSB : Hid (∀ k, 0 ≤ (atI l j).s.getD k 0 ∧ (atI l j).s.getD k 0 < 256) := hx.2.1
        obtain ⟨k0, k1, k2⟩ := FT.out wr HB.out
        clear FR hx k2
        generalize layI (atI l j) = LY at *
        generalize Fi.numB n ++ ((l.take j).map layI).flatten = X at *
        have cnn := CN.out (atI l j).n
        have CNN : Hid (∀ (W : World), Calls Tryz.prog 33 #[.int .i64 (atI l j).n] W fun r w' => ∃ v, r = .returned v ∧ Ow w' W.heap.size v (Fi.numB (atI l j).n) ∧ Below W.heap.size W w') := cnn
        clear cnn
        generalize Fi.numB (atI l j).n = NB at *
        generalize (atI l j).n = xn at *
        generalize (atI l j).s = S at *
        obtain ⟨TT, hTT⟩ : ∃ TT, TT = Fi.textB (atI l j).p := ⟨_, rfl⟩
        rw [← hTT] at ct l9 HLY
        clear hTT
        have LX : Hid (X.length ≤ 300000 ∧ TT.length ≤ 1008 ∧ NB.length ≤ 8) := ⟨hb0, by omega, l8⟩
        clear l9 l8 hb0 hxp
        generalize (atI l j).p = xp at *
        generalize (atI l j).d = xd at *
        obtain ⟨nx, hnx⟩ : ∃ nx, nx = X.length := ⟨_, rfl⟩
        have HNX : Hid (nx = X.length) := hnx
        rw [← hnx] at HO ⊢
        clear hnx
        go_wp2_with fail
        refine ct.mono ?_
        rintro e w3 ⟨v3, rfl, o3, b3⟩
        clear ct
        have B3 : Hid (Below w.heap.size w w3) := HB.out.trans (b3.mono HB.out.size)
        have O3 : Hid (Ow w3 w.heap.size (.slice va nx vc) X) := HO.out.below b3
        have S3 : Hid (Sl w3 v3 TT) := o3.sl
        obtain ⟨ta, tc, rfl⟩ := o3.shape
        clear o3 b3 HO k0 k1
        obtain ⟨nt, hnt⟩ : ∃ nt, nt = TT.length := ⟨_, rfl⟩
        rw [← hnt] at S3 ⊢
        clear hnt
        go_wp2_with (at_builtin; refine wpList_append_ow rfl _ _ rfl w.heap.size _ X rfl O3.out _ TT rfl S3.out (by have := LX.out; omega) B3.out.size (Hid.out ?_))
        unfold Hid
        intro v4 w4 o4 b4
        have B4 : Hid (Below w.heap.size w w4) := B3.out.trans b4
        have O4 : Hid (Ow w4 w.heap.size v4 (X ++ TT)) := o4
        obtain ⟨a4, c4, rfl⟩ := o4.shape
        obtain ⟨-, k1, -⟩ := FT.out w4 B4.out
        have L4 : Hid ((X ++ TT).length ≤ 301008) := by unfold Hid; rw [List.length_append]; have := LX.out; omega
        clear o4 b4 O3 S3 B3 HB
        obtain ⟨X4, hX4⟩ : ∃ X4, X4 = X ++ TT := ⟨_, rfl⟩
        rw [← hX4] at O4 L4 ⊢
        have HX4 : Hid (X4 = X ++ TT) := hX4
        clear hX4
        obtain ⟨n4, hn4⟩ : ∃ n4, n4 = X4.length := ⟨_, rfl⟩
        rw [← hn4] at O4 ⊢
        clear hn4
        cases xd
        · have HLY2 : Hid (LY = TT ++ ([0] ++ (NB ++ S))) := by unfold Hid; have := HLY.out; simpa using this
          clear HLY
          go_wp2_with fail
          clear k1
          refine wp_region_held_drew (S := From w) (by kernel_rfl) (Below.drew (B4.out)) (fun _ => ?_)
          refine wpAnyH_name (fun u0 hu0 => ?_)
          have bu0 : Below w.heap.size w u0 := by rw [hu0.out]; exact Below.drew (B4.out)
          have Ou0 : Ow u0 w.heap.size (.slice a4 n4 c4) X4 := by rw [hu0.out]; exact O4.out
          refine wpAnyH_take (i := 0) (oi := { dst := some 38, op := Op.move (Operand.tmp 5), type := 34, pos := "ref.go:82", after := #[], guard := none }) (v := ?vr1) rfl (by kernel_rfl) (by kernel_rfl) (by kernel_rfl) (fun _ _ _ h => h) (Or.inl ⟨by rfl, ?yr1⟩) bu0 ?rr1
          case yr1 => (intro w hSw; go_simp; try with_reducible rfl)
          try simp only [Act.put, List.setIfInBounds_toArray, List.set_cons_zero, List.set_cons_succ]
          refine wpAnyH_take (i := 3) (oi := { dst := some 41, op := Op.move (Operand.tmp 0), type := 25, pos := "ref.go:82", after := #[], guard := none }) (v := ?vr2) rfl (by kernel_rfl) (by kernel_rfl) (by kernel_rfl) (fun _ _ _ h => h) (Or.inl ⟨by rfl, ?yr2⟩) bu0 ?rr2
          case yr2 => (intro w hSw; go_simp; try with_reducible rfl)
          try simp only [Act.put, List.setIfInBounds_toArray, List.set_cons_zero, List.set_cons_succ]
          refine wpAnyH_take (i := 4) (oi := { dst := some 42, op := Op.move (Operand.tmp 6), type := 3, pos := "ref.go:82", after := #[], guard := none }) (v := ?vr3) rfl (by kernel_rfl) (by kernel_rfl) (by kernel_rfl) (fun _ _ _ h => h) (Or.inl ⟨by rfl, ?yr3⟩) bu0 ?rr3
          case yr3 => (intro w hSw; go_simp; try with_reducible rfl)
          try simp only [Act.put, List.setIfInBounds_toArray, List.set_cons_zero, List.set_cons_succ]
          refine wpAnyH_take (i := 5) (oi := { dst := some 43, op := Op.indexAddr 25 (Operand.tmp 41) (Operand.tmp 42), type := 0, pos := "ref.go:82", after := #[{ on := 3, ground := Ground.data }, { on := 4, ground := Ground.data }], guard := none }) (v := ?vr4) rfl (by kernel_rfl) (by kernel_rfl) (by kernel_rfl) (fun _ _ _ h => h) (Or.inl ⟨by rfl, ?yr4⟩) bu0 ?rr4
          case yr4 => (intro w hSw; go_simp; try with_reducible rfl)
          try simp only [Act.put, List.setIfInBounds_toArray, List.set_cons_zero, List.set_cons_succ]
          refine wpAnyH_take (i := 6) (oi := { dst := some 44, op := Op.fieldAddr 42 (Operand.tmp 43) 2, type := 0, pos := "ref.go:82", after := #[{ on := 5, ground := Ground.data }], guard := none }) (v := ?vr5) rfl (by kernel_rfl) (by kernel_rfl) (by kernel_rfl) (fun _ _ _ h => h) (Or.inl ⟨by rfl, ?yr5⟩) bu0 ?rr5
          case yr5 => (intro w hSw; go_simp; try with_reducible rfl)
          try simp only [Act.put, List.setIfInBounds_toArray, List.set_cons_zero, List.set_cons_succ]
          refine wpAnyH_take (i := 7) (oi := { dst := some 45, op := Op.load 3 (Operand.tmp 44), type := 3, pos := "ref.go:82", after := #[{ on := 6, ground := Ground.data }], guard := none }) (v := ?vr6) rfl (by kernel_rfl) (by kernel_rfl) (by kernel_rfl) (fun _ _ _ h => h) (Or.inl ⟨by rfl, ?yr6⟩) bu0 ?rr6
          case yr6 => (intro w hSw; obtain ⟨t0, t1, t2⟩ := FT.out w hSw; go_simp; try with_reducible rfl)
          try simp only [Act.put, List.setIfInBounds_toArray, List.set_cons_zero, List.set_cons_succ]
          refine wpAnyH_ready (rs := [1]) (by kernel_rfl) (by simp) ?_
          refine AllReadyH.cons (o := { dst := some 39, op := Op.buildSlice 34 1 #[(0, Operand.const (Value.int IntKind.u8 0))], type := 34, pos := "ref.go:82", after := #[], guard := none }) rfl (fun KK hKK => ?_) ?_
          · have su7 := sl_lit (w := u0) 0 (by omega) (by omega)
            go_simp
            refine hKK.out _ _ (bu0.trans (Below.mono (al_below _ _) bu0.size)) (fun _ => ?_)
            clear hKK KK
            try simp only [Act.put, List.setIfInBounds_toArray, List.set_cons_zero, List.set_cons_succ]
            refine wpAnyH_name (fun u7 hu7 => ?_)
            have bu7 : Below w.heap.size w u7 := by rw [hu7.out]; exact (bu0.trans (Below.mono (al_below _ _) bu0.size))
            rw [← hu7.out] at su7
            have qu7 : Below u0.heap.size u0 u7 := by rw [hu7.out]; exact al_below _ _
            have Ou7 := Ou0.below qu7
            refine wpAnyH_ready (rs := [2]) (by kernel_rfl) (by simp) ?_
            refine AllReadyH.cons (o := { dst := some 40, op := Op.call { callee := Callee.builtin Builtin.append, args := #[Operand.tmp 38, Operand.tmp 39], argTypes := #[34, 34] }, type := 34, pos := "ref.go:82", after := #[{ on := 0, ground := Ground.data }, { on := 1, ground := Ground.data }], guard := none }) rfl (fun KK hKK => ?_) ?_
            · refine wp_append_ow _ _ rfl w.heap.size _ X4 rfl Ou7 _ [0] rfl su7 (by show _ + 1 ≤ _; have := L4.out; omega) bu7.size (fun vu8 u8' ou8 bbu8 => ?_)
              obtain ⟨X5, hX5⟩ : ∃ X5, X5 = X4 ++ [0] := ⟨_, rfl⟩
              rw [← hX5] at ou8
              have HX5 : Hid (X5 = X4 ++ [0]) := hX5
              clear hX5
              obtain ⟨a5, c5, rfl⟩ := ou8.shape
              refine hKK.out _ _ (bu7.trans bbu8) (fun _ => ?_)
              clear hKK KK
              try simp only [Act.put, List.setIfInBounds_toArray, List.set_cons_zero, List.set_cons_succ]
              refine wpAnyH_name (fun u8 hu8 => ?_)
              have bu8 : Below w.heap.size w u8 := by rw [hu8.out]; exact (bu7.trans bbu8)
              rw [← hu8.out] at ou8
              refine wpAnyH_ready (rs := [8]) (by kernel_rfl) (by simp) ?_
              refine AllReadyH.cons (o := { dst := some 46, op := Op.call { callee := Callee.value (Operand.func 33), args := #[Operand.tmp 45], argTypes := #[3] }, type := 34, pos := "ref.go:82", after := #[{ on := 7, ground := Ground.data }, { on := 2, ground := Ground.chain }], guard := none }) rfl (fun KK hKK => ?_) ?_
              · go_simp
                refine (CNN.out _).mono ?_
                rintro e u9' ⟨vu9, rfl, ou9, bu9'⟩
                obtain ⟨na, nc, rfl⟩ := ou9.shape
                (try go_wp2_with fail)
                refine hKK.out _ _ (bu8.trans (Below.mono (bu9') bu8.size)) (fun _ => ?_)
                clear hKK KK
                try simp only [Act.put, List.setIfInBounds_toArray, List.set_cons_zero, List.set_cons_succ]
                refine wpAnyH_name (fun u9 hu9 => ?_)
                have bu9 : Below w.heap.size w u9 := by rw [hu9.out]; exact (bu8.trans (Below.mono (bu9') bu8.size))
                have qu9 : Below u8.heap.size u8 u9 := by rw [hu9.out]; exact bu9'
                have su9 : Sl u9 (.slice na NB.length nc) NB := by rw [hu9.out]; exact ou9.sl
                have Pu9 := ou8.below qu9
                refine wpAnyH_ready (rs := [9]) (by kernel_rfl) (by simp) ?_
                refine AllReadyH.cons (o := { dst := some 47, op := Op.call { callee := Callee.builtin Builtin.append, args := #[Operand.tmp 40, Operand.tmp 46], argTypes := #[34, 34] }, type := 34, pos := "ref.go:82", after := #[{ on := 2, ground := Ground.data }, { on := 8, ground := Ground.data }, { on := 8, ground := Ground.chain }], guard := none }) rfl (fun KK hKK => ?_) ?_
                · refine wp_append_ow _ _ rfl w.heap.size _ X5 rfl Pu9 _ NB rfl su9 (by rw [HX5.out, List.length_append]; show _ + 1 + _ ≤ _; have := L4.out; have := LX.out; omega) bu9.size (fun vu10 u10' ou10 bbu10 => ?_)
                  obtain ⟨X6, hX6⟩ : ∃ X6, X6 = X5 ++ NB := ⟨_, rfl⟩
                  rw [← hX6] at ou10
                  have HX6 : Hid (X6 = X5 ++ NB) := hX6
                  clear hX6
                  obtain ⟨a6, c6, rfl⟩ := ou10.shape
                  refine hKK.out _ _ (bu9.trans bbu10) (fun _ => ?_)
                  clear hKK KK
                  try simp only [Act.put, List.setIfInBounds_toArray, List.set_cons_zero, List.set_cons_succ]
                  refine wpAnyH_name (fun u10 hu10 => ?_)
                  have bu10 : Below w.heap.size w u10 := by rw [hu10.out]; exact (bu9.trans bbu10)
                  rw [← hu10.out] at ou10
                  refine wpAnyH_take (i := 10) (oi := { dst := some 5, op := Op.assign (Operand.tmp 47), type := 34, pos := "ref.go:82", after := #[{ on := 9, ground := Ground.data }, { on := 9, ground := Ground.chain }, { on := 0, ground := Ground.phase }, { on := 1, ground := Ground.phase }, { on := 2, ground := Ground.phase }, { on := 3, ground := Ground.phase }, { on := 4, ground := Ground.phase }, { on := 5, ground := Ground.phase }, { on := 6, ground := Ground.phase }, { on := 7, ground := Ground.phase }, { on := 8, ground := Ground.phase }, { on := 9, ground := Ground.phase }], guard := none }) (v := ?vr11) rfl (by kernel_rfl) (by kernel_rfl) (by kernel_rfl) (fun _ _ _ h => h) (Or.inl ⟨by rfl, ?yr11⟩) bu10 ?rr11
                  case yr11 => (intro w hSw; go_simp; try with_reducible rfl)
                  try simp only [Act.put, List.setIfInBounds_toArray, List.set_cons_zero, List.set_cons_succ]
                  refine wpAnyH_done (by kernel_rfl) ?_ _
                  obtain ⟨w6, hw6⟩ : ∃ w6, w6 = u10 := ⟨_, rfl⟩
                  have B6 : Hid (Below w.heap.size w u10) := bu10
                  have O6 : Hid (Ow u10 w.heap.size (.slice a6 X6.length c6) X6) := ou10
                  rw [← hw6] at B6 O6 ⊢
                  clear hw6
                  have L6 : Hid (X6.length ≤ 302000) := by
                    unfold Hid
                    rw [HX6.out, HX5.out, List.length_append, List.length_append]
                    show _ + 1 + _ ≤ _
                    have := L4.out
                    have := LX.out
                    omega
                  obtain ⟨n6, hn6⟩ : ∃ n6, n6 = X6.length := ⟨_, rfl⟩
                  rw [← hn6] at O6 ⊢
                  clear hn6
                  have RN : Hid (w6.rangeAt b (off + j * 35 + 3) (S.map (Value.int .u8))) := FS.out w6 B6.out
                  go_wp2_with (refine wpList_load_mid rfl 40 _ rfl b (off + j * 35 + 3) rfl (S.map (Value.int .u8)) _ RN.out Tryz.underlying40 rfl (infoHl _ HSL.out) (Hid.out ?_))
                  unfold Hid
                  obtain ⟨W7, hW7⟩ : ∃ W7, W7 = w6.alloc (.cells (u8c S) 40) := ⟨_, rfl⟩
                  have e7 := alloc_h w6 S
                  rw [← hW7] at e7
                  have HE7 : Hid ((w6.alloc (.cells #[.int .u8 0, .int .u8 0, .int .u8 0, .int .u8 0, .int .u8 0, .int .u8 0, .int .u8 0, .int .u8 0, .int .u8 0, .int .u8 0, .int .u8 0, .int .u8 0, .int .u8 0, .int .u8 0, .int .u8 0, .int .u8 0, .int .u8 0, .int .u8 0, .int .u8 0, .int .u8 0, .int .u8 0, .int .u8 0, .int .u8 0, .int .u8 0, .int .u8 0, .int .u8 0, .int .u8 0, .int .u8 0, .int .u8 0, .int .u8 0, .int .u8 0, .int .u8 0] 40)).setRow w6.heap.size (u8c S) = W7) := e7
                  clear e7
                  go_wp2_with (refine wpList_store_row rfl 40 _ _ rfl w6.heap.size (u8c S) rfl rfl 40 hzc (new_h w6) (infoH _ HSL.out) (by rw [hzc_size, u8c_size, HSL.out]) (u8c_ones _) (Hid.out ?_))
                  unfold Hid
                  rw [HE7.out]
                  have b7 : Below w6.heap.size w6 W7 := by rw [hW7]; exact al_below _ _
                  have S7 : Hid (Sl W7 (.slice (some ⟨w6.heap.size, 0, none⟩) 32 32) S) := sl_u8c (by rw [hW7]; exact heap_alloc_new _ _) HSL.out HSB.out
                  have O7 : Hid (Ow W7 w.heap.size (.slice a6 n6 c6) X6) := O6.out.below b7
                  have B7 : Hid (Below w.heap.size w W7) := B6.out.trans (b7.mono B6.out.size)
                  clear b7 HE7 hW7 O6 B6 RN
                  go_wp2_with (at_builtin; refine wpList_append_ow rfl _ _ rfl w.heap.size _ X6 rfl O7.out _ S rfl S7.out (by rw [HSL.out]; have := L6.out; omega) B7.out.size (Hid.out ?_))
                  unfold Hid
                  intro v8 w8 o8 b8
                  have B8 : Hid (Below w.heap.size w w8) := B7.out.trans b8
                  have O8 : Hid (Ow w8 w.heap.size v8 (Fi.numB n ++ ((l.take (j + 1)).map layI).flatten)) := by
                    unfold Hid
                    have e : X ++ (TT ++ ([0] ++ (NB ++ S))) = X6 ++ S := by rw [HX6.out, HX5.out, HX4.out]; simp
                    rw [HT.out, HLY2.out, e]
                    exact o8
                  clear o8 b8 O7 S7 B7
                  go_wp2
                  go_roundw
                  case rel => exact ⟨j + 1, by omega, by go_num, O8.out, B8.out⟩
                  case measure => simp [intOf]; omega
                exact AllReadyH.nil
              exact AllReadyH.nil
            exact AllReadyH.nil
          exact AllReadyH.nil
        · have HLY2 : Hid (LY = TT ++ [1]) := by unfold Hid; have := HLY.out; simpa using this
          clear HLY
          have S5 : Hid (Sl (w4.alloc (.cells #[.int .u8 1] 5)) (.slice (some ⟨w4.heap.size, 0, none⟩) 1 1) [1]) := sl_lit 1 (by omega) (by omega)
          have O5 : Hid (Ow (w4.alloc (.cells #[.int .u8 1] 5)) w.heap.size (.slice a4 n4 c4) X4) := O4.out.below (al_below _ _)
          have B5 : Hid (Below w.heap.size w (w4.alloc (.cells #[.int .u8 1] 5))) := B4.out.trans ((al_below _ _).mono B4.out.size)
          go_wp2_with (at_builtin; refine wpList_append_ow rfl _ _ rfl w.heap.size _ X4 rfl O5.out _ [1] rfl S5.out (by show _ + 1 ≤ _; have := L4.out; omega) B5.out.size (Hid.out ?_))
          unfold Hid
          intro v6 w6 o6 b6
          have B6 : Hid (Below w.heap.size w w6) := B5.out.trans b6
          have O6 : Hid (Ow w6 w.heap.size v6 (Fi.numB n ++ ((l.take (j + 1)).map layI).flatten)) := by unfold Hid; rw [HT.out, HLY2.out, ← List.append_assoc, ← HX4.out]; exact o6
          clear o6 b6 O5 S5 B5 O4 B4 k1
          go_wp2
          go_roundw
          case rel => exact ⟨j + 1, by omega, by go_num, O6.out, B6.out⟩
          case measure => simp [intOf]; omega
      · obtain rfl : j = n := by omega
        have OZ : Hid (Ow wr w.heap.size (.slice va (Fi.numB j ++ ((l.take j).map layI).flatten).length vc) Y) := by unfold Hid; rw [HY.out]; exact HO.out
        clear HO
        generalize (Fi.numB j ++ ((l.take j).map layI).flatten).length = nx at *
        go_wp2
        go_ret2
        exact ⟨_, rfl, OZ.out, HB.out⟩
  · obtain rfl : R = ([], k) := by have := HM.out; rwa [if_pos hk] at this
    have hk2 : (k != 0) = true := by simpa using hk
    go_wp2
    go_ret2
    exact ⟨_, rfl, ⟨World.ownsRow_nil _ _ _ _, fun k => by simp⟩, B1.out⟩
end Go.Proofs.YtdnbiibijoggoaaGreatDoor
