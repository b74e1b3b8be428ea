/-
  What back answers: a state of the program's as one of the document's.
-/
import Derived.Test.YtcenchnmibdebaaDoorRsa
import Derived.Test.YtcenchnmibdebaaDoorStp
namespace Go.Proofs.YtcenchnmibdebaaDoor
open Go.RowKit
set_option maxRecDepth 100000

theorem infoPq : (Tryd.prog.info? 61).map (fun i => (i.zero, i.size, i.bytes)) = some (some pa0.val, 36, 72) := by kernel_rfl
theorem sizeTq : (Tryd.prog.info? 46).map (·.size) = some 2 := by kernel_rfl
theorem bTn (m : Int) : Tryd.prog.built 46 [(1, .int .i64 m)] = some #[.slice none 0 0, .int .i64 m] := by kernel_rfl
theorem pa_newq (w : World) (x : Pa) : (w.alloc (.cells x.cells.toArray 61)).rangeAt w.heap.size 0 x.cells := blk_range (heap_alloc_new _ _)
abbrev RPq := RPt 61
/-- A state at block g, its parts in a row of the call's own. -/
def SVq (w : World) (B g : Nat) (v : Value) (s : Ste) : Prop := w.heap[g]? = some (.cells #[v, .int .i64 s.n] 46 (0, 0)) ∧ RPq w B v s.l
theorem SVq.cells {w : World} {B g : Nat} {v : Value} {s : Ste} (h : SVq w B g v s) : w.cell? ⟨g, 0, none⟩ = some v ∧ w.cell? ⟨g, 1, none⟩ = some (.int .i64 s.n) ∧ (∀ i, w.frozen? ⟨g, i, none⟩ = false) := by
  have h1 := h.1
  refine ⟨by simp [World.cell?, h1], by simp [World.cell?, h1], fun i => by simp [World.frozen?, h1]⟩
theorem SVq.kept {w w' : World} {B g : Nat} {v : Value} {s : Ste} (h : SVq w B g v s) (hb : Below w.heap.size w w') : SVq w' B g v s := ⟨blk_kept h.1 hb (blk_lt h.1), h.2.below hb⟩
theorem SVq.lt {w : World} {B g : Nat} {v : Value} {s : Ste} (h : SVq w B g v s) : g < w.heap.size := blk_lt h.1
/-- The parts are turned. -/
theorem SVq.parts {w w' : World} {B g : Nat} {v v' : Value} {s : Ste} {l : List Pa} (h : SVq w B g v s) (hg : w.grownBy w' v.ownBlock) (h' : RPq w' B v' l) : SVq (w'.setCell ⟨g, 0, none⟩ v') B g v' ⟨l, s.n⟩ := by
  have hne : v.ownBlock ≠ some g := own_ne h.2.1.1 h.1 (by decide)
  have h1 : w'.heap[g]? = some (.cells #[v, .int .i64 s.n] 46 (0, 0)) := (hg.block g h.lt (fun e => hne e.symm)).trans h.1
  refine ⟨?_, ⟨own_set h'.1.1 (own_ne h'.1.1 h1 (by decide)), h'.1.2⟩, h'.2⟩
  rw [heap_setCell_same _ _ _ _ _ _ h1]
  rfl
theorem wp_bsPq {o : Oper} {a : Act} {w : World} {K : Act → World → Prop} {Q : Exit → Act → World → Prop} (x : Operand) (ho : o.op = .buildSlice 44 1 #[(0, x)]) (y : Pa) (hy : y.ok) (hx : a.eval x = .agg y.cells.toArray)
    (h : K (a.put o.dst (.slice (some ⟨w.heap.size, 0, none⟩) 1 1)) (w.alloc (.cells y.cells.toArray 61))) : o.wp Tryd.prog a w K Q := by
  obtain ⟨ie, hi, hz0, hz1, hz2⟩ := info_parts infoPq
  refine wp_buildSlice 44 61 1 #[(0, x)] ho y.cells.toArray ie pa0.val Tryd.underlying44 hi hz0 (by rw [hz1]; decide) (by rw [hz1]; decide) ?_ h
  have e : ((#[(0, x)] : Array (Nat × Operand)).map fun (i, x) => (i, a.eval x)).toList = [(0, .agg y.cells.toArray)] := by simp [hx]
  rw [e, hz1]
  have := fillP' y.i y.n y.o y.p (fun i => y.s.getD i 0)
  rwa [map_range y.s 32 hy.1] at this
theorem wp_append_paq {o : Oper} {a : Act} {w : World} {K : Act → World → Prop} {Q : Exit → Act → World → Prop} (s x : Operand) (ho : o.op = .call { callee := .builtin .append, args := #[s, x], argTypes := #[44, 44] })
    (B : Nat) (v : Value) (l : List Pa) (hs : a.eval s = v) (hown : RPq w B v l) (g : Nat) (y : Pa) (cap : Nat) (hy : y.ok)
    (hx : a.eval x = .slice (some ⟨g, 0, none⟩) 1 cap) (hc : w.rangeAt g 0 y.cells) (hbig : l.length ≤ 100000) (hbase : B ≤ w.heap.size)
    (h : ∀ v' w', RPq w' B v' (l ++ [y]) → w.grownBy w' v.ownBlock → K (a.put o.dst v') w') : o.wp Tryd.prog a w K Q := by
  obtain ⟨i0, hi, hz0, hz1, hz2⟩ := info_parts infoPq
  refine wp_append_own_wide w s x 44 ho B 61 i0 pa0.val 36 72 Tryd.underlying44 hi hz0 hz1 hz2 (by simp [Pa.val, Value.cells, Pa.len pa0_ok]) (by decide) v l.length (l.map Pa.cells).flatten hs hown.own ⟨g, 0, none⟩ 1 cap y.cells hx (by rw [Pa.len hy]) ?_ y.one (by unfold maxLen; omega) (by omega) hbase ?_
  · intro j u hj
    rw [Addr.add_lit]
    exact hc j u hj
  · intro v' w' ho' hg _
    refine h v' w' (hown.one hy ⟨?_, hown.1.2.app (CL.one (Pa.len hy) y.one)⟩) hg
    rw [List.length_append, List.flatten_append, List.flatten_cons, List.flatten_nil, List.append_nil, List.length_map]
    exact ho'
set_option maxHeartbeats 2000000 in
theorem back_any (v : Value) (l : List Pa) (m : Int) (w : World) (h : PS w v l) (hl : l.length ≤ 1000) :
    Calls Tryd.prog 13 #[.agg #[v, .int .i64 m]] w fun e w' => ∃ v', e = .returned (.agg #[v', .int .i64 m]) ∧ RPq w' w.heap.size v' l ∧ Below w.heap.size w w' := by
  obtain ⟨a, c, rfl, h2, h3, h4⟩ := h.shape
  obtain ⟨W0, hW0⟩ : ∃ W0, W0 = w.alloc (.cells #[.slice a l.length c, .int .i64 m] 43) := ⟨_, rfl⟩
  have b0 : Below w.heap.size w W0 := by rw [hW0]; exact al_below _ _
  have z0 : W0.heap.size = w.heap.size + 1 := by rw [hW0]; simp
  have g0 : W0.heap[w.heap.size]? = some (.cells #[.slice a l.length c, .int .i64 m] 43 (0, 0)) := by rw [hW0]; exact heap_alloc_new _ _
  obtain ⟨W1, hW1⟩ : ∃ W1, W1 = W0.alloc (.cells #[.slice none 0 0, .int .i64 0] 46) := ⟨_, rfl⟩
  have b1 : Below W0.heap.size W0 W1 := by rw [hW1]; exact al_below _ _
  have z1 : W1.heap.size = W0.heap.size + 1 := by rw [hW1]; simp
  have g1 : W1.heap[W0.heap.size]? = some (.cells #[.slice none 0 0, .int .i64 0] 46 (0, 0)) := by rw [hW1]; exact heap_alloc_new _ _
  obtain ⟨W2, hW2⟩ : ∃ W2, W2 = W1.alloc (.cells #[.slice none 0 0, .int .i64 m] 46) := ⟨_, rfl⟩
  have b2 : Below W1.heap.size W1 W2 := by rw [hW2]; exact al_below _ _
  have g2 : W2.heap[W1.heap.size]? = some (.cells #[.slice none 0 0, .int .i64 m] 46 (0, 0)) := by rw [hW2]; exact heap_alloc_new _ _
  have g0' := blk_kept g0 b1 (by omega)
  have b01 : Below w.heap.size w W1 := b0.trans (b1.mono b0.size)
  have x1 : W1.cell? ⟨w.heap.size, 1, none⟩ = some (.int .i64 m) := by simp [World.cell?, g0']
  have x0 : W1.cell? ⟨w.heap.size, 0, none⟩ = some (.slice a l.length c) := by simp [World.cell?, g0']
  have KK : Hid (∀ W, Below W1.heap.size W1 W → W.cell? ⟨w.heap.size, 0, none⟩ = some (.slice a l.length c)) := fun W h => (h.cell (World.block_lt_of_cell? _ _ x0)).trans x0
  have HS0 : Hid (SVq W2 W1.heap.size W1.heap.size (.slice none 0 0) ⟨[], m⟩) := ⟨g2, RPt.nil _ _ _⟩
  have HB0 : Hid (Below W1.heap.size W1 W2) := b2
  have HG1 : Hid (∀ W, Below W1.heap.size W1 W → W.heap[W0.heap.size]? = some (.cells #[.slice none 0 0, .int .i64 0] 46 (0, 0)) ∧ Below w.heap.size w W) := fun W h => ⟨blk_kept g1 h (by omega), b01.trans (h.mono b01.size)⟩
  have HSZ : Hid (w.heap.size ≤ W0.heap.size ∧ w.heap.size ≤ W1.heap.size) := ⟨by omega, by omega⟩
  have HS : Hid (PS W1 (.slice a l.length c) l) := h.kept b01
  have HOK : Hid (∀ x ∈ l, x.ok) := h.2
  have E2 : Hid ((W1.alloc (.cells #[.slice none 0 0, .int .i64 0] 46)).setRow W1.heap.size #[.slice none 0 0, .int .i64 m] = W2) := by unfold Hid; rw [World.setRow_alloc_new, hW2]
  have hw0 := hW0.symm
  have hw1 := hW1.symm
  obtain ⟨n, hn'⟩ : ∃ n, n = l.length := ⟨_, rfl⟩
  have HN : Hid (n = l.length) := hn'
  rw [← hn'] at HS hl KK hw0 x0 ⊢
  clear h h2 h3 h4 hn' hW0 b0 z0 g0 hW1 b1 z1 g1 hW2 b2 g2 g0' b01
  go_enter Tryd.func13, Tryd.ntmps13
  go_wp2_with (first
    | refine wpList_built rfl 46 [(1, _)] rfl [(1, .int .i64 m)] rfl #[.slice none 0 0, .int .i64 m] (bTn m) ?_
    | refine wpList_store_row rfl 46 _ _ rfl W1.heap.size #[.slice none 0 0, .int .i64 m] rfl rfl 46 #[.slice none 0 0, .int .i64 0] (heap_alloc_new _ _) sizeTq rfl (st_ones _ _ _ _) ?_)
  try rw [E2.out]
  try clear hw1
  try clear hw0
  clear x0 x1
  go_loopw [4] (fun z wr => ∃ (j : Nat) (va : Option Addr) (vc : Nat), j ≤ n ∧ z = .int .i64 j ∧ SVq wr W1.heap.size W1.heap.size (.slice va j vc) ⟨l.take j, m⟩ ∧ Below W1.heap.size W1 wr) (fun z _ => n - (intOf z).toNat)
  case atStart => exact ⟨0, none, 0, by omega, rfl, HS0.out, HB0.out⟩
  case round =>
    obtain ⟨j, va, vc, hj, rfl, sn, bel⟩ := hrel
    have SN : Hid (SVq wr W1.heap.size W1.heap.size (.slice va j vc) ⟨l.take j, m⟩) := sn
    have HB : Hid (Below W1.heap.size W1 wr) := bel
    have c0 := KK.out wr bel
    clear sn HS0 HB0 E2
    by_cases hlt : j < n
    · have lt2 : (j : Int) < (n : Int) := by omega
      have lt3 : (0 : Int) ≤ (j : Int) := by omega
      obtain ⟨b, off, rfl, r1⟩ := HS.out.at j (by rw [← HN.out]; exact hlt)
      have hx := Pa.at l HOK.out j
      have HTK : Hid (l.take j ++ [atP l j] = l.take (j + 1)) := by
        unfold Hid
        rw [atP_eq l j (by rw [← HN.out]; exact hlt), List.take_append_getElem]
      have HLT : Hid ((l.take (j + 1)).length = j + 1) := by unfold Hid; rw [List.length_take, ← HN.out]; omega
      have HLJ : Hid ((l.take j).length ≤ 100000) := by unfold Hid; rw [List.length_take, ← HN.out]; omega
      generalize atP l j = x at *
      have FX : Hid (∀ W, Below W1.heap.size W1 W → W.rangeAt b (off + j * 36) x.cells) := fun W h => range_kept r1 h
      have HX : Hid x.ok := hx
      have ZX : Hid ((Tryd.prog.info? 58).map (·.size) = some x.cells.length) := Pa.infoL x hx
      clear r1 hx bel
      go_wp2_with fail
      refine wp_region_held_drew (S := fun W : World => Below W1.heap.size W1 W) (by kernel_rfl) (HB.out.drew) (fun _ => ?_)
      refine wpAnyH_name (fun u0 hu0 => ?_)
      have su0 : (fun W : World => Below W1.heap.size W1 W) u0 := by rw [hu0.out]; exact (HB.out.drew)
      have Su0 : SVq u0 W1.heap.size W1.heap.size (.slice va j vc) ⟨l.take j, m⟩ := by rw [hu0.out]; exact SN.out.kept ((Below.refl _ _).drew)
      refine wpAnyH_take (i := 0) (oi := { dst := some 15, op := Op.fieldAddr 46 (Operand.tmp 3) 0, type := 0, pos := "law.go:41", after := #[], guard := none }) (v := ?vq1) rfl (by kernel_rfl) (by kernel_rfl) (by kernel_rfl) (fun _ _ _ h => h) (Or.inl ⟨by rfl, ?yq1⟩) su0 ?rq1
      case yq1 => (intro w hSw; go_simp; try with_reducible rfl)
      try simp only [Act.put, List.setIfInBounds_toArray, List.set_cons_zero, List.set_cons_succ]
      refine wpAnyH_take (i := 2) (oi := { dst := some 17, op := Op.fieldAddr 43 (Operand.tmp 1) 0, type := 0, pos := "law.go:41", after := #[], guard := none }) (v := ?vq2) rfl (by kernel_rfl) (by kernel_rfl) (by kernel_rfl) (fun _ _ _ h => h) (Or.inl ⟨by rfl, ?yq2⟩) su0 ?rq2
      case yq2 => (intro w hSw; go_simp; try with_reducible rfl)
      try simp only [Act.put, List.setIfInBounds_toArray, List.set_cons_zero, List.set_cons_succ]
      refine wpAnyH_take (i := 3) (oi := { dst := some 18, op := Op.load 41 (Operand.tmp 17), type := 41, pos := "law.go:41", after := #[{ on := 2, ground := Ground.data }], guard := none }) (v := ?vq3) rfl (by kernel_rfl) (by kernel_rfl) (by kernel_rfl) (fun _ _ _ h => h) (Or.inl ⟨by rfl, ?yq3⟩) su0 ?rq3
      case yq3 => (intro w hSw; have t0 := KK.out w hSw; go_simp; try with_reducible rfl)
      try simp only [Act.put, List.setIfInBounds_toArray, List.set_cons_zero, List.set_cons_succ]
      refine wpAnyH_take (i := 4) (oi := { dst := some 19, op := Op.move (Operand.tmp 4), type := 3, pos := "law.go:41", after := #[], guard := none }) (v := ?vq4) rfl (by kernel_rfl) (by kernel_rfl) (by kernel_rfl) (fun _ _ _ h => h) (Or.inl ⟨by rfl, ?yq4⟩) su0 ?rq4
      case yq4 => (intro w hSw; go_simp; try with_reducible rfl)
      try simp only [Act.put, List.setIfInBounds_toArray, List.set_cons_zero, List.set_cons_succ]
      refine wpAnyH_take (i := 5) (oi := { dst := some 20, op := Op.indexAddr 41 (Operand.tmp 18) (Operand.tmp 19), type := 0, pos := "law.go:41", after := #[{ on := 3, ground := Ground.data }, { on := 4, ground := Ground.data }], guard := none }) (v := ?vq5) rfl (by kernel_rfl) (by kernel_rfl) (by kernel_rfl) (fun _ _ _ h => h) (Or.inl ⟨by rfl, ?yq5⟩) su0 ?rq5
      case yq5 => (intro w hSw; go_simp; try with_reducible rfl)
      try simp only [Act.put, List.setIfInBounds_toArray, List.set_cons_zero, List.set_cons_succ]
      refine wpAnyH_take (i := 6) (oi := { dst := some 21, op := Op.load 58 (Operand.tmp 20), type := 58, pos := "law.go:41", after := #[{ on := 5, ground := Ground.data }], guard := none }) (v := .agg x.cells.toArray) rfl (by kernel_rfl) (by kernel_rfl) (by kernel_rfl) (fun _ _ _ h => h) (yieldsIf_load_mid (by rfl) 58 _ rfl b (off + j * 36) rfl x.cells _ (fun w hw => FX.out w hw) Tryd.underlying58 rfl ZX.out) su0 ?_
      try simp only [Act.put, List.setIfInBounds_toArray, List.set_cons_zero, List.set_cons_succ]
      refine wpAnyH_ready (rs := [1, 7]) (by kernel_rfl) (by simp) ?_
      refine AllReadyH.cons (o := { dst := some 16, op := Op.load 44 (Operand.tmp 15), type := 44, pos := "law.go:41", after := #[{ on := 0, ground := Ground.data }], guard := none }) rfl (fun KK hKK => ?_) ?_
      · have k4 := Su0.cells.1
        go_simp
        refine hKK.out _ _ (su0) (fun _ => ?_)
        clear hKK KK
        try simp only [Act.put, List.setIfInBounds_toArray, List.set_cons_zero, List.set_cons_succ]
        refine wpAnyH_name (fun u7 hu7 => ?_)
        have su7 : (fun W : World => Below W1.heap.size W1 W) u7 := by rw [hu7.out]; exact (su0)
        have Su7 := Su0
        rw [← hu7.out] at Su7
        try have Ku7 := Ku0
        try rw [← hu7.out] at Ku7
        refine wpAnyH_ready (rs := [7]) (by kernel_rfl) (by simp) ?_
        refine AllReadyH.cons (o := { dst := some 22, op := Op.buildSlice 44 1 #[(0, Operand.tmp 21)], type := 44, pos := "law.go:41", after := #[{ on := 6, ground := Ground.data }], guard := none }) rfl (fun KK hKK => ?_) ?_
        · refine wp_bsPq _ rfl x HX.out rfl ?_
          refine hKK.out _ _ (su7.trans ((al_below _ _).mono su7.size)) (fun _ => ?_)
          clear hKK KK
          try simp only [Act.put, List.setIfInBounds_toArray, List.set_cons_zero, List.set_cons_succ]
          refine wpAnyH_name (fun u8 hu8 => ?_)
          have su8 : (fun W : World => Below W1.heap.size W1 W) u8 := by rw [hu8.out]; exact (su7.trans ((al_below _ _).mono su7.size))
          have Su8 : SVq u8 W1.heap.size W1.heap.size (.slice va j vc) ⟨l.take j, m⟩ := by rw [hu8.out]; exact Su7.kept (al_below _ _)
          have Ku8 : u8.rangeAt u7.heap.size 0 x.cells := by rw [hu8.out]; exact pa_newq u7 x
          refine wpAnyH_ready (rs := [8]) (by kernel_rfl) (by simp) ?_
          refine AllReadyH.cons (o := { dst := some 23, op := Op.call { callee := Callee.builtin Builtin.append, args := #[Operand.tmp 16, Operand.tmp 22], argTypes := #[44, 44] }, type := 44, pos := "law.go:41", after := #[{ on := 1, ground := Ground.data }, { on := 7, ground := Ground.data }], guard := none }) rfl (fun KK hKK => ?_) ?_
          · refine wp_append_paq _ _ rfl W1.heap.size _ (l.take j) rfl Su8.2 u7.heap.size x 1 HX.out rfl Ku8 HLJ.out su8.size ?_
            intro v9 u9' r9 g9
            refine hKK.out _ _ (su8.trans ((Below.refl _ u8).grown g9 su8.size (own_base Su8.2.1.1))) (fun _ => ?_)
            clear hKK KK
            try simp only [Act.put, List.setIfInBounds_toArray, List.set_cons_zero, List.set_cons_succ]
            refine wpAnyH_name (fun u9 hu9 => ?_)
            have su9 : (fun W : World => Below W1.heap.size W1 W) u9 := by rw [hu9.out]; exact (su8.trans ((Below.refl _ u8).grown g9 su8.size (own_base Su8.2.1.1)))
            have Pu9 := Su8.parts g9 r9
            rw [← hu9.out] at Pu9 r9 g9
            have xu9 : u9.heap[W1.heap.size]? = some (.cells #[.slice va j vc, .int .i64 m] 46 (0, 0)) := (g9.block _ Su8.lt (fun e => own_ne Su8.2.1.1 Su8.1 (by decide) e.symm)).trans Su8.1
            rw [HTK.out] at r9 Pu9
            obtain ⟨a9, c9, e9, -, -, -⟩ := r9.is.shape
            rw [HLT.out] at e9
            subst e9
            refine wpAnyH_take (i := 9) (oi := { dst := some 24, op := Op.fieldAddr 46 (Operand.tmp 3) 0, type := 0, pos := "law.go:41", after := #[{ on := 0, ground := Ground.phase }, { on := 1, ground := Ground.phase }, { on := 2, ground := Ground.phase }, { on := 3, ground := Ground.phase }, { on := 4, ground := Ground.phase }, { on := 5, ground := Ground.phase }, { on := 6, ground := Ground.phase }, { on := 7, ground := Ground.phase }, { on := 8, ground := Ground.phase }], guard := none }) (v := ?vq10) rfl (by kernel_rfl) (by kernel_rfl) (by kernel_rfl) (fun _ _ _ h => h) (Or.inl ⟨by rfl, ?yq10⟩) su9 ?rq10
            case yq10 => (intro w hSw; go_simp; try with_reducible rfl)
            try simp only [Act.put, List.setIfInBounds_toArray, List.set_cons_zero, List.set_cons_succ]
            refine wpAnyH_ready (rs := [10]) (by kernel_rfl) (by simp) ?_
            refine AllReadyH.cons (o := { dst := none, op := Op.store 44 (Operand.tmp 24) (Operand.tmp 23), type := 0, pos := "law.go:41", after := #[{ on := 9, ground := Ground.data }, { on := 8, ground := Ground.data }, { on := 8, ground := Ground.chain }, { on := 0, ground := Ground.phase }, { on := 1, ground := Ground.phase }, { on := 2, ground := Ground.phase }, { on := 3, ground := Ground.phase }, { on := 4, ground := Ground.phase }, { on := 5, ground := Ground.phase }, { on := 6, ground := Ground.phase }, { on := 7, ground := Ground.phase }, { on := 8, ground := Ground.phase }], guard := none }) rfl (fun KK hKK => ?_) ?_
            · have k8 : u9.cell? ⟨W1.heap.size, 0, none⟩ = some (.slice va j vc) := by simp [World.cell?, xu9]
              have f8 : u9.frozen? ⟨W1.heap.size, 0, none⟩ = false := by simp [World.frozen?, xu9]
              go_simp
              refine hKK.out _ _ (su9.trans (set_below (Nat.le_refl _))) (fun _ => ?_)
              clear hKK KK
              try simp only [Act.put]
              refine wpAnyH_name (fun u11 hu11 => ?_)
              have su11 : (fun W : World => Below W1.heap.size W1 W) u11 := by rw [hu11.out]; exact (su9.trans (set_below (Nat.le_refl _)))
              rw [← hu11.out] at Pu9
              refine wpAnyH_done (by kernel_rfl) ?_ _
              have HZ : Hid (SVq u11 W1.heap.size W1.heap.size (.slice a9 (j + 1) c9) ⟨l.take (j + 1), m⟩ ∧ Below W1.heap.size W1 u11) := ⟨Pu9, su11⟩
              go_wp2_with fail
              go_roundw
              case rel => exact ⟨j + 1, a9, c9, by omega, by go_num, HZ.out.1, HZ.out.2⟩
              case measure => simp [intOf]; omega
            exact AllReadyH.nil
          exact AllReadyH.nil
        exact AllReadyH.nil
      refine AllReadyH.cons (o := { dst := some 22, op := Op.buildSlice 44 1 #[(0, Operand.tmp 21)], type := 44, pos := "law.go:41", after := #[{ on := 6, ground := Ground.data }], guard := none }) rfl (fun KK hKK => ?_) ?_
      · refine wp_bsPq _ rfl x HX.out rfl ?_
        refine hKK.out _ _ (su0.trans ((al_below _ _).mono su0.size)) (fun _ => ?_)
        clear hKK KK
        try simp only [Act.put, List.setIfInBounds_toArray, List.set_cons_zero, List.set_cons_succ]
        refine wpAnyH_name (fun u12 hu12 => ?_)
        have su12 : (fun W : World => Below W1.heap.size W1 W) u12 := by rw [hu12.out]; exact (su0.trans ((al_below _ _).mono su0.size))
        have Su12 : SVq u12 W1.heap.size W1.heap.size (.slice va j vc) ⟨l.take j, m⟩ := by rw [hu12.out]; exact Su0.kept (al_below _ _)
        have Ku12 : u12.rangeAt u0.heap.size 0 x.cells := by rw [hu12.out]; exact pa_newq u0 x
        refine wpAnyH_ready (rs := [1]) (by kernel_rfl) (by simp) ?_
        refine AllReadyH.cons (o := { dst := some 16, op := Op.load 44 (Operand.tmp 15), type := 44, pos := "law.go:41", after := #[{ on := 0, ground := Ground.data }], guard := none }) rfl (fun KK hKK => ?_) ?_
        · have k4 := Su12.cells.1
          go_simp
          refine hKK.out _ _ (su12) (fun _ => ?_)
          clear hKK KK
          try simp only [Act.put, List.setIfInBounds_toArray, List.set_cons_zero, List.set_cons_succ]
          refine wpAnyH_name (fun u13 hu13 => ?_)
          have su13 : (fun W : World => Below W1.heap.size W1 W) u13 := by rw [hu13.out]; exact (su12)
          have Su13 := Su12
          rw [← hu13.out] at Su13
          try have Ku13 := Ku12
          try rw [← hu13.out] at Ku13
          refine wpAnyH_ready (rs := [8]) (by kernel_rfl) (by simp) ?_
          refine AllReadyH.cons (o := { dst := some 23, op := Op.call { callee := Callee.builtin Builtin.append, args := #[Operand.tmp 16, Operand.tmp 22], argTypes := #[44, 44] }, type := 44, pos := "law.go:41", after := #[{ on := 1, ground := Ground.data }, { on := 7, ground := Ground.data }], guard := none }) rfl (fun KK hKK => ?_) ?_
          · refine wp_append_paq _ _ rfl W1.heap.size _ (l.take j) rfl Su13.2 u0.heap.size x 1 HX.out rfl Ku13 HLJ.out su13.size ?_
            intro v9 u14' r9 g9
            refine hKK.out _ _ (su13.trans ((Below.refl _ u13).grown g9 su13.size (own_base Su13.2.1.1))) (fun _ => ?_)
            clear hKK KK
            try simp only [Act.put, List.setIfInBounds_toArray, List.set_cons_zero, List.set_cons_succ]
            refine wpAnyH_name (fun u14 hu14 => ?_)
            have su14 : (fun W : World => Below W1.heap.size W1 W) u14 := by rw [hu14.out]; exact (su13.trans ((Below.refl _ u13).grown g9 su13.size (own_base Su13.2.1.1)))
            have Pu14 := Su13.parts g9 r9
            rw [← hu14.out] at Pu14 r9 g9
            have xu14 : u14.heap[W1.heap.size]? = some (.cells #[.slice va j vc, .int .i64 m] 46 (0, 0)) := (g9.block _ Su13.lt (fun e => own_ne Su13.2.1.1 Su13.1 (by decide) e.symm)).trans Su13.1
            rw [HTK.out] at r9 Pu14
            obtain ⟨a9, c9, e9, -, -, -⟩ := r9.is.shape
            rw [HLT.out] at e9
            subst e9
            refine wpAnyH_take (i := 9) (oi := { dst := some 24, op := Op.fieldAddr 46 (Operand.tmp 3) 0, type := 0, pos := "law.go:41", after := #[{ on := 0, ground := Ground.phase }, { on := 1, ground := Ground.phase }, { on := 2, ground := Ground.phase }, { on := 3, ground := Ground.phase }, { on := 4, ground := Ground.phase }, { on := 5, ground := Ground.phase }, { on := 6, ground := Ground.phase }, { on := 7, ground := Ground.phase }, { on := 8, ground := Ground.phase }], guard := none }) (v := ?vq15) rfl (by kernel_rfl) (by kernel_rfl) (by kernel_rfl) (fun _ _ _ h => h) (Or.inl ⟨by rfl, ?yq15⟩) su14 ?rq15
            case yq15 => (intro w hSw; go_simp; try with_reducible rfl)
            try simp only [Act.put, List.setIfInBounds_toArray, List.set_cons_zero, List.set_cons_succ]
            refine wpAnyH_ready (rs := [10]) (by kernel_rfl) (by simp) ?_
            refine AllReadyH.cons (o := { dst := none, op := Op.store 44 (Operand.tmp 24) (Operand.tmp 23), type := 0, pos := "law.go:41", after := #[{ on := 9, ground := Ground.data }, { on := 8, ground := Ground.data }, { on := 8, ground := Ground.chain }, { on := 0, ground := Ground.phase }, { on := 1, ground := Ground.phase }, { on := 2, ground := Ground.phase }, { on := 3, ground := Ground.phase }, { on := 4, ground := Ground.phase }, { on := 5, ground := Ground.phase }, { on := 6, ground := Ground.phase }, { on := 7, ground := Ground.phase }, { on := 8, ground := Ground.phase }], guard := none }) rfl (fun KK hKK => ?_) ?_
            · have k8 : u14.cell? ⟨W1.heap.size, 0, none⟩ = some (.slice va j vc) := by simp [World.cell?, xu14]
              have f8 : u14.frozen? ⟨W1.heap.size, 0, none⟩ = false := by simp [World.frozen?, xu14]
              go_simp
              refine hKK.out _ _ (su14.trans (set_below (Nat.le_refl _))) (fun _ => ?_)
              clear hKK KK
              try simp only [Act.put]
              refine wpAnyH_name (fun u16 hu16 => ?_)
              have su16 : (fun W : World => Below W1.heap.size W1 W) u16 := by rw [hu16.out]; exact (su14.trans (set_below (Nat.le_refl _)))
              rw [← hu16.out] at Pu14
              refine wpAnyH_done (by kernel_rfl) ?_ _
              have HZ : Hid (SVq u16 W1.heap.size W1.heap.size (.slice a9 (j + 1) c9) ⟨l.take (j + 1), m⟩ ∧ Below W1.heap.size W1 u16) := ⟨Pu14, su16⟩
              go_wp2_with fail
              go_roundw
              case rel => exact ⟨j + 1, a9, c9, by omega, by go_num, HZ.out.1, HZ.out.2⟩
              case measure => simp [intOf]; omega
            exact AllReadyH.nil
          exact AllReadyH.nil
        exact AllReadyH.nil
      exact AllReadyH.nil
    · obtain rfl : j = n := by omega
      have HZ : Hid (SVq wr W1.heap.size W1.heap.size (.slice va j vc) ⟨l, m⟩) := by
        have := SN.out
        rwa [HN.out, List.take_length, ← HN.out] at this
      have RN : Hid (wr.rangeAt W1.heap.size 0 [.slice va j vc, .int .i64 m]) := blk_range HZ.out.1
      have GG : Hid (wr.heap[W0.heap.size]? = some (.cells #[.slice none 0 0, .int .i64 0] 46 (0, 0)) ∧ Below w.heap.size w wr) := HG1.out wr bel
      clear HG1 SN HB bel HS HOK KK
      go_wp2_with (first
        | refine wpList_load_mid rfl 46 _ rfl W1.heap.size 0 rfl [.slice va j vc, .int .i64 m] _ RN.out Tryd.underlying46 rfl sizeTq ?_
        | refine wpList_store_row rfl 46 _ _ rfl W0.heap.size #[.slice va j vc, .int .i64 m] rfl rfl 46 #[.slice none 0 0, .int .i64 0] GG.out.1 sizeTq rfl (st_ones _ _ _ _) ?_)
      exact bodyPost_ret (v := .agg #[.slice va j vc, .int .i64 m]) (results_cell_row rfl _ _ W0.heap.size 46 #[.slice va j vc, .int .i64 m] (0, 0) _ rfl (setRow_heap _ _ _ _ _ _ GG.out.1) Tryd.underlying46 rfl sizeTq) rfl ⟨_, rfl, (HZ.out.2.setRow _ _ GG.out.1).mono HSZ.out.2, below_setRow GG.out.2 HSZ.out.1 _⟩
end Go.Proofs.YtcenchnmibdebaaDoor
