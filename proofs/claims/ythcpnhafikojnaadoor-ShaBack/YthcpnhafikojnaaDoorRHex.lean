/-
  What the document's Hex and Less answer; nothing that was there is changed.
-/
import Derived.Test.YthcpnhafikojnaaDoorHexF
import Derived.Test.YthcpnhafikojnaaDoorOrd
namespace Go.Proofs.YthcpnhafikojnaaDoor
open Go.RowKit

theorem wp_append_sl {w : World} {o : Oper} {a : Act} {KK : Act → World → Prop} {Q : Exit → Act → World → Prop} (s x : Operand)
    (ho : o.op = .call { callee := .builtin .append, args := #[s, x], argTypes := #[22, 22] })
    (base : Nat) (v : Value) (n : Nat) (xs : List Value) (hs : a.eval s = v) (hown : w.ownsRow base 5 1 v n xs)
    (src : Value) (Z : List Int) (hx : a.eval x = src) (hsl : Sl w src Z) (hbig : n + Z.length ≤ 200000000000000) (hbase : base ≤ w.heap.size)
    (h : ∀ v' w', w'.ownsRow base 5 1 v' (n + Z.length) (xs ++ Z.map (Value.int .u8)) → w.grownBy w' v.ownBlock → KK (a.put o.dst v') w') : o.wp Tryd.prog a w KK Q := by
  obtain ⟨i0, hi, hz0, hz1, hz2⟩ := info_parts info5'
  obtain ⟨ad, cap, rfl, h1, h2, h3, h4⟩ := hsl
  cases ad with
  | none =>
    obtain rfl := h3 rfl
    obtain rfl : Z = [] := List.length_eq_zero_iff.1 (by omega)
    have hrun := run_append_owned_none (P := Tryd.prog) (w := w) base 22 o.type 5 i0 1 Tryd.underlying22 hi v n xs hown
    have hx' : a.eval x = .slice none 0 0 := hx
    unfold Oper.wp
    simp [execOp, ho, resolve, invoke, builtin, hs, hx', hrun, Result.andThen]
    exact h v w (by simpa using hown) ⟨rfl, rfl, rfl, Nat.le_refl _, fun _ _ _ => rfl⟩
  | some y =>
    exact wp_append_own_wide w s x 22 ho base 5 i0 (.int .u8 0) 1 1 Tryd.underlying22 hi hz0 hz1 hz2 rfl (by decide) v n xs hs hown y Z.length cap (Z.map (Value.int .u8)) hx (by rw [List.length_map, Nat.mul_one]) (news_row h4) (ints_one Z) (by unfold maxLen; omega) (by omega) hbase
      (fun v' w' ho' hg _ => h v' w' ho' hg)
theorem sl_row' {w : World} {g : Nat} {xs : List Int} {fr : Nat × Nat} {t : TypeId} (h : w.heap[g]? = some (.cells (u8s xs) t fr)) (hb : Pl.Byt xs) (hl : xs.length ≤ maxLen) : Sl w (.slice (some ⟨g, 0, none⟩) xs.length xs.length) xs := by
  refine ⟨_, _, rfl, Nat.le_refl _, hl, (fun e => by cases e), ?_⟩
  rcases Nat.eq_zero_or_pos xs.length with h0 | h0
  · exact .inl h0
  · exact .inr ⟨h0, g, 0, rfl, Nat.le_refl _, hl, fun i hi => by rw [Nat.zero_add, cell_of_row _ _ _ _ _ _ h, u8s_get _ _ hi], hb⟩

set_option maxHeartbeats 4000000 in
set_option maxRecDepth 100000 in
theorem rhex_any (A : List Int) (w : World) (hA : A.length = 32) (hb : Pl.Byt A) :
    Calls Tryd.prog 14 #[.agg (u8s A)] w fun e w' => e = .returned (.string (strB (hexB A))) ∧ Below w.heap.size w w' := by
  have HIX : Hid (∀ (W : World) (i : Nat), i < 16 → (Instr.index 9 (.string ⟨#[48, 49, 50, 51, 52, 53, 54, 55, 56, 57, 97, 98, 99, 100, 101, 102]⟩) (.int .u8 (i : Int))).run Tryd.prog W = .ok (.int .u8 (hexd i)) W) := fun W i hi => run_index_bl digs W .u8 i hi
  obtain ⟨wa, hwa⟩ : ∃ wa, wa = w.alloc (.cells (u8s A) 26) := ⟨_, rfl⟩
  have hwz : w.alloc (.cells (u8s A) 26) = wa := hwa.symm
  have ba : Below w.heap.size w wa := by rw [hwa]; exact al_below _ _
  have FG : Hid (∀ x, From wa x → x.heap[w.heap.size]? = some (.cells (u8s A) 26 (0, 0))) := fun x hx => (Below.block hx _ (by rw [hwa]; simp)).trans (by rw [hwa]; exact heap_alloc_new _ _)
  have HBA : Hid (Below w.heap.size w wa) := ba
  have HAL : Hid (A.length = 32) := hA
  have HAB : Hid (Pl.Byt A) := hb
  clear hwa ba hA hb
  go_enter Tryd.func14, Tryd.ntmps14
  go_wp2_with fail
  go_loopw [3, 4] (fun v q wr => ∃ j : Nat, j ≤ 32 ∧ q = .int .i64 j ∧ wr.ownsRow wa.heap.size 5 1 v (hexB (A.take j)).length ((hexB (A.take j)).map (Value.int .u8)) ∧ Below wa.heap.size wa wr) (fun _ q _ => 32 - (intOf q).toNat)
  case atStart => exact ⟨0, by omega, rfl, World.ownsRow_nil _ _ _ _, Below.refl _ _⟩
  case round =>
    obtain ⟨j, hj, rfl, own, bel⟩ := hrel
    have BE : Hid (Below wa.heap.size wa wr) := bel
    by_cases hlt : j < 32
    · have lt2 : (j : Int) < 32 := by omega
      have hx := HAB.out j
      have HS : Hid (hexB (A.take (j + 1)) = hexB (A.take j) ++ [hexd (A.getD j 0 / 16).toNat, hexd (A.getD j 0 % 16).toNat]) := by
        have := hexB_succ A j (by rw [HAL.out]; exact hlt)
        rw [List.append_assoc] at this
        exact this
      have hl : (hexB (A.take j)).length ≤ 64 := by rw [hexB_len, List.length_take]; omega
      have FC : Hid (∀ x, From wa x → x.cell? ⟨w.heap.size, j, none⟩ = some (.int .u8 (A.getD j 0))) := fun x hx => (cell_of_row _ _ j _ _ _ (FG.out x hx)).trans (u8s_get _ j (by rw [HAL.out]; exact hlt))
      generalize A.getD j 0 = x at *
      obtain ⟨k1, hk1⟩ : ∃ k1, k1 = (x / 16).toNat := ⟨_, rfl⟩
      obtain ⟨k2, hk2⟩ : ∃ k2, k2 = (x % 16).toNat := ⟨_, rfl⟩
      rw [← hk1, ← hk2] at HS
      have e1 : Int.tdiv x 16 = (k1 : Int) := by rw [Int.tdiv_eq_ediv_of_nonneg hx.1]; omega
      have e1' : IntKind.u8.wrap (k1 : Int) = (k1 : Int) := by simp [IntKind.wrap, IntKind.bits, IntKind.signed]; omega
      have e2 : Int.tmod x 16 = (k2 : Int) := by rw [Int.tmod_eq_emod_of_nonneg hx.1]; omega
      have e2' : IntKind.u8.wrap (k2 : Int) = (k2 : Int) := by simp [IntKind.wrap, IntKind.bits, IntKind.signed]; omega
      have i1 := fun W => HIX.out W k1 (by omega)
      have i2 := fun W => HIX.out W k2 (by omega)
      have d1 := hexd_byte k1
      have d2 := hexd_byte k2
      have HD : Hid (Pl.Byt [hexd k1, hexd k2]) := by
        refine byteList _ ?_
        simp only [List.all_cons, List.all_nil, Bool.and_true, Bool.and_eq_true, decide_eq_true_eq]
        exact ⟨d1, d2⟩
      generalize hexd k1 = h1 at *
      generalize hexd k2 = h2 at *
      have HO : Hid (wr.ownsRow wa.heap.size 5 1 u3 (hexB (A.take j)).length ((hexB (A.take j)).map (Value.int .u8))) := own
      clear own bel hk1 hk2 hx d1 d2
      go_wp2_with fail
      refine wp_region_held_drew (S := From wa) (by kernel_rfl) (Below.drew (BE.out)) (fun _ => ?_)
      refine wpAnyH_name (fun u0 hu0 => ?_)
      have bu0 : Below wa.heap.size wa u0 := by rw [hu0.out]; exact Below.drew (BE.out)
      have O0 : Hid (u0.ownsRow wa.heap.size 5 1 u3 (hexB (A.take j)).length ((hexB (A.take j)).map (Value.int .u8))) := by unfold Hid; rw [hu0.out]; exact HO.out
      refine wpAnyH_take (i := 0) (oi := { dst := some 9, op := Op.move (Operand.tmp 3), type := 22, pos := "ref.go:82", after := #[], guard := none }) (v := ?va1) rfl (by kernel_rfl) (by kernel_rfl) (by kernel_rfl) (fun _ _ _ h => h) (Or.inl ⟨by rfl, ?ya1⟩) bu0 ?ra1
      case ya1 => (intro w hSw; go_simp; try with_reducible rfl)
      try simp only [Act.put, List.setIfInBounds_toArray, List.set_cons_zero, List.set_cons_succ]
      refine wpAnyH_take (i := 1) (oi := { dst := some 10, op := Op.move (Operand.tmp 4), type := 3, pos := "ref.go:82", after := #[], guard := none }) (v := ?va2) rfl (by kernel_rfl) (by kernel_rfl) (by kernel_rfl) (fun _ _ _ h => h) (Or.inl ⟨by rfl, ?ya2⟩) bu0 ?ra2
      case ya2 => (intro w hSw; go_simp; try with_reducible rfl)
      try simp only [Act.put, List.setIfInBounds_toArray, List.set_cons_zero, List.set_cons_succ]
      refine wpAnyH_take (i := 2) (oi := { dst := some 11, op := Op.indexAddr 26 (Operand.tmp 1) (Operand.tmp 10), type := 0, pos := "ref.go:82", after := #[{ on := 1, ground := Ground.data }], guard := none }) (v := ?va3) rfl (by kernel_rfl) (by kernel_rfl) (by kernel_rfl) (fun _ _ _ h => h) (Or.inl ⟨by rfl, ?ya3⟩) bu0 ?ra3
      case ya3 => (intro w hSw; go_simp; try with_reducible rfl)
      try simp only [Act.put, List.setIfInBounds_toArray, List.set_cons_zero, List.set_cons_succ]
      refine wpAnyH_take (i := 3) (oi := { dst := some 12, op := Op.load 5 (Operand.tmp 11), type := 5, pos := "ref.go:82", after := #[{ on := 2, ground := Ground.data }], guard := none }) (v := ?va4) rfl (by kernel_rfl) (by kernel_rfl) (by kernel_rfl) (fun _ _ _ h => h) (Or.inl ⟨by rfl, ?ya4⟩) bu0 ?ra4
      case ya4 => (intro w hSw; have t := FC.out w hSw; go_simp; try with_reducible rfl)
      try simp only [Act.put, List.setIfInBounds_toArray, List.set_cons_zero, List.set_cons_succ]
      refine wpAnyH_take (i := 4) (oi := { dst := some 13, op := Op.binOp BinOp.quo 5 (Operand.tmp 12) (Operand.const (Value.int IntKind.u8 16)) 5, type := 5, pos := "ref.go:82", after := #[{ on := 3, ground := Ground.data }], guard := none }) (v := ?va5) rfl (by kernel_rfl) (by kernel_rfl) (by kernel_rfl) (fun _ _ _ h => h) (Or.inl ⟨by rfl, ?ya5⟩) bu0 ?ra5
      case ya5 => (intro w hSw; go_simp; try with_reducible rfl)
      try simp only [Act.put, List.setIfInBounds_toArray, List.set_cons_zero, List.set_cons_succ]
      refine wpAnyH_take (i := 5) (oi := { dst := some 14, op := Op.index 9 (Operand.const (Value.string { data := #[48, 49, 50, 51, 52, 53, 54, 55, 56, 57, 97, 98, 99, 100, 101, 102] })) (Operand.tmp 13), type := 5, pos := "ref.go:82", after := #[{ on := 4, ground := Ground.data }], guard := none }) (v := ?va6) rfl (by kernel_rfl) (by kernel_rfl) (by kernel_rfl) (fun _ _ _ h => h) (Or.inl ⟨by rfl, ?ya6⟩) bu0 ?ra6
      case ya6 => (intro w hSw; have t := i1 w; go_simp; try with_reducible rfl)
      try simp only [Act.put, List.setIfInBounds_toArray, List.set_cons_zero, List.set_cons_succ]
      refine wpAnyH_take (i := 6) (oi := { dst := some 15, op := Op.move (Operand.tmp 4), type := 3, pos := "ref.go:82", after := #[], guard := none }) (v := ?va7) rfl (by kernel_rfl) (by kernel_rfl) (by kernel_rfl) (fun _ _ _ h => h) (Or.inl ⟨by rfl, ?ya7⟩) bu0 ?ra7
      case ya7 => (intro w hSw; go_simp; try with_reducible rfl)
      try simp only [Act.put, List.setIfInBounds_toArray, List.set_cons_zero, List.set_cons_succ]
      refine wpAnyH_take (i := 7) (oi := { dst := some 16, op := Op.indexAddr 26 (Operand.tmp 1) (Operand.tmp 15), type := 0, pos := "ref.go:82", after := #[{ on := 6, ground := Ground.data }], guard := none }) (v := ?va8) rfl (by kernel_rfl) (by kernel_rfl) (by kernel_rfl) (fun _ _ _ h => h) (Or.inl ⟨by rfl, ?ya8⟩) bu0 ?ra8
      case ya8 => (intro w hSw; go_simp; try with_reducible rfl)
      try simp only [Act.put, List.setIfInBounds_toArray, List.set_cons_zero, List.set_cons_succ]
      refine wpAnyH_take (i := 8) (oi := { dst := some 17, op := Op.load 5 (Operand.tmp 16), type := 5, pos := "ref.go:82", after := #[{ on := 7, ground := Ground.data }], guard := none }) (v := ?va9) rfl (by kernel_rfl) (by kernel_rfl) (by kernel_rfl) (fun _ _ _ h => h) (Or.inl ⟨by rfl, ?ya9⟩) bu0 ?ra9
      case ya9 => (intro w hSw; have t := FC.out w hSw; go_simp; try with_reducible rfl)
      try simp only [Act.put, List.setIfInBounds_toArray, List.set_cons_zero, List.set_cons_succ]
      refine wpAnyH_take (i := 9) (oi := { dst := some 18, op := Op.binOp BinOp.rem 5 (Operand.tmp 17) (Operand.const (Value.int IntKind.u8 16)) 5, type := 5, pos := "ref.go:82", after := #[{ on := 8, ground := Ground.data }], guard := none }) (v := ?va10) rfl (by kernel_rfl) (by kernel_rfl) (by kernel_rfl) (fun _ _ _ h => h) (Or.inl ⟨by rfl, ?ya10⟩) bu0 ?ra10
      case ya10 => (intro w hSw; go_simp; try with_reducible rfl)
      try simp only [Act.put, List.setIfInBounds_toArray, List.set_cons_zero, List.set_cons_succ]
      refine wpAnyH_take (i := 10) (oi := { dst := some 19, op := Op.index 9 (Operand.const (Value.string { data := #[48, 49, 50, 51, 52, 53, 54, 55, 56, 57, 97, 98, 99, 100, 101, 102] })) (Operand.tmp 18), type := 5, pos := "ref.go:82", after := #[{ on := 9, ground := Ground.data }], guard := none }) (v := ?va11) rfl (by kernel_rfl) (by kernel_rfl) (by kernel_rfl) (fun _ _ _ h => h) (Or.inl ⟨by rfl, ?ya11⟩) bu0 ?ra11
      case ya11 => (intro w hSw; have t := i2 w; go_simp; try with_reducible rfl)
      try simp only [Act.put, List.setIfInBounds_toArray, List.set_cons_zero, List.set_cons_succ]
      refine wpAnyH_ready (rs := [11]) (by kernel_rfl) (by simp) ?_
      refine AllReadyH.cons (o := { dst := some 20, op := Op.buildSlice 22 2 #[(0, Operand.tmp 14), (1, Operand.tmp 19)], type := 22, pos := "ref.go:82", after := #[{ on := 5, ground := Ground.data }, { on := 10, ground := Ground.data }], guard := none }) rfl (fun KK hKK => ?_) ?_
      · go_simp
        refine hKK.out _ _ (Below.alloc bu0 (Below.size bu0) _) (fun _ => ?_)
        clear hKK KK
        try simp only [Act.put, List.setIfInBounds_toArray, List.set_cons_zero, List.set_cons_succ]
        refine wpAnyH_name (fun u12 hu12 => ?_)
        have bu12 : Below wa.heap.size wa u12 := by rw [hu12.out]; exact (Below.alloc bu0 (Below.size bu0) _)
        have S11 : Hid (Sl u12 (.slice (some ⟨u0.heap.size, 0, none⟩) 2 2) [h1, h2]) := by unfold Hid; rw [hu12.out]; exact sl_row' (xs := [h1, h2]) (heap_alloc_new u0 (.cells #[.int .u8 h1, .int .u8 h2] 5)) HD.out (by simp [maxLen])
        have O11 : Hid (u12.ownsRow wa.heap.size 5 1 u3 (hexB (A.take j)).length ((hexB (A.take j)).map (Value.int .u8))) := by unfold Hid; rw [hu12.out]; exact O0.out.alloc _
        refine wpAnyH_ready (rs := [12]) (by kernel_rfl) (by simp) ?_
        refine AllReadyH.cons (o := { dst := some 21, op := Op.call { callee := Callee.builtin Builtin.append, args := #[Operand.tmp 9, Operand.tmp 20], argTypes := #[22, 22] }, type := 22, pos := "ref.go:82", after := #[{ on := 0, ground := Ground.data }, { on := 11, ground := Ground.data }], guard := none }) rfl (fun KK hKK => ?_) ?_
        · rw [if_pos (by rfl)]
          refine wp_append_sl _ _ rfl wa.heap.size _ _ _ rfl O11.out _ [h1, h2] rfl S11.out (by simp; omega) bu12.size ?_
          intro v12 u13' own12 hg12
          refine hKK.out _ _ (bu12.grown hg12 bu12.size (own_base O11.out)) (fun _ => ?_)
          clear hKK KK
          try simp only [Act.put, List.setIfInBounds_toArray, List.set_cons_zero, List.set_cons_succ]
          refine wpAnyH_name (fun u13 hu13 => ?_)
          have bu13 : Below wa.heap.size wa u13 := by rw [hu13.out]; exact (bu12.grown hg12 bu12.size (own_base O11.out))
          have O12 : Hid (u13.ownsRow wa.heap.size 5 1 v12 (hexB (A.take (j + 1))).length ((hexB (A.take (j + 1))).map (Value.int .u8))) := by unfold Hid; rw [HS.out, List.map_append, List.length_append, hu13.out]; exact own12
          clear own12 hg12
          refine wpAnyH_take (i := 13) (oi := { dst := some 3, op := Op.assign (Operand.tmp 21), type := 22, pos := "ref.go:82", after := #[{ on := 12, ground := Ground.data }, { on := 12, ground := Ground.chain }, { on := 0, ground := Ground.phase }, { on := 1, ground := Ground.phase }, { on := 2, ground := Ground.phase }, { on := 3, ground := Ground.phase }, { on := 4, ground := Ground.phase }, { on := 5, ground := Ground.phase }, { on := 6, ground := Ground.phase }, { on := 7, ground := Ground.phase }, { on := 8, ground := Ground.phase }, { on := 9, ground := Ground.phase }, { on := 10, ground := Ground.phase }, { on := 11, ground := Ground.phase }, { on := 12, ground := Ground.phase }], guard := none }) (v := ?va14) rfl (by kernel_rfl) (by kernel_rfl) (by kernel_rfl) (fun _ _ _ h => h) (Or.inl ⟨by rfl, ?ya14⟩) bu13 ?ra14
          case ya14 => (intro w hSw; go_simp; try with_reducible rfl)
          try simp only [Act.put, List.setIfInBounds_toArray, List.set_cons_zero, List.set_cons_succ]
          refine wpAnyH_done (by kernel_rfl) ?_ _
          have BZ : Hid (Below wa.heap.size wa u13) := bu13
          clear O11 S11 O0 FC
          go_wp2
          go_roundw
          case rel => exact ⟨j + 1, by omega, by go_num, O12.out, BZ.out⟩
          case measure => simp [intOf]; omega
        exact AllReadyH.nil
      exact AllReadyH.nil
    · obtain rfl : j = 32 := by omega
      have e : A.take 32 = A := by rw [← HAL.out, List.take_length]
      rw [e] at own
      have s1 := sl_owned own (hexB_byt A)
      have EB : Hid (Below w.heap.size w wr) := HBA.out.trans (bel.mono HBA.out.size)
      obtain ⟨a1, q1, rfl, -⟩ := id s1
      have cv := s1.conv
      generalize (hexB A).length = hl at *
      clear own s1 bel e
      go_wp2
      go_ret
      exact ⟨rfl, EB.out⟩

set_option maxHeartbeats 2000000 in
set_option maxRecDepth 100000 in
theorem rless_any (A B : List Int) (w : World) (hA : A.length = 32) (hB : B.length = 32) (ha : Pl.Byt A) (hb : Pl.Byt B) :
    Calls Tryd.prog 16 #[.agg (u8s A), .agg (u8s B)] w fun e w' => e = .returned (.bool (ltB A B)) ∧ Below w.heap.size w w' := by
  have G := Rows2.two w 26 (u8s A) (u8s B)
  obtain ⟨w0, hw0⟩ : ∃ w0, w0 = (w.alloc (.cells (u8s A) 26)).alloc (.cells (u8s B) 26) := ⟨_, rfl⟩
  rw [← hw0] at G
  have hwz : (w.alloc (.cells (u8s A) 26)).alloc (.cells (u8s B) 26) = w0 := hw0.symm
  have sA : Sl w0 (.slice (some ⟨w.heap.size, 0, none⟩) 32 32) A := by have := sl_row' G.1 ha (by rw [hA]; unfold maxLen; omega); rwa [hA] at this
  have sB : Sl w0 (.slice (some ⟨w.heap.size + 1, 0, none⟩) 32 32) B := by have := sl_row' G.2.1 hb (by rw [hB]; unfold maxLen; omega); rwa [hB] at this
  have FA : Hid (∀ x, From w0 x → (convert 22 9 (.slice (some ⟨w.heap.size, 0, none⟩) 32 32)).run Tryd.prog x = .ok (.string (strB A)) x) := fun x hx => (sA.kept hx).conv
  have FB : Hid (∀ x, From w0 x → (convert 22 9 (.slice (some ⟨w.heap.size + 1, 0, none⟩) 32 32)).run Tryd.prog x = .ok (.string (strB B)) x) := fun x hx => (sB.kept hx).conv
  have FE : Hid (∀ x, From w0 x → Below w.heap.size w x) := fun x hx => G.2.2.trans (Below.mono hx G.2.2.size)
  have HLT : Hid (Op.bytesLess (strB A).toList (strB B).toList = ltB A B) := less_str ha hb (by rw [hA, hB])
  obtain ⟨R, hR⟩ : ∃ R, R = ltB A B := ⟨_, rfl⟩
  rw [← hR] at HLT ⊢
  clear hw0 G sA sB hA hB ha hb hR
  generalize strB A = SA at *
  generalize strB B = SB at *
  generalize u8s A = UA at *
  generalize u8s B = UB at *
  go_enter Tryd.func16, Tryd.ntmps16
  go_wp2_with fail
  refine wp_region_held_drew (S := From w0) (by kernel_rfl) ((Below.refl _ _).drew) (fun _ => ?_)
  refine wpAnyH_on ((Below.refl _ _).drew) (fun u0 hu0 bu0 => ?_)
  replace FA := on FA bu0
  replace FB := on FB bu0
  replace FE := on FE bu0
  refine wpAnyH_take (i := 0) (oi := { dst := some 5, op := Op.slice 26 (Operand.tmp 2) none none none, type := 22, pos := "ref.go:114", after := #[], guard := none }) (v := ?va1) rfl (by kernel_rfl) (by kernel_rfl) (by kernel_rfl) (fun _ _ _ h => h) (Or.inl ⟨by rfl, ?ya1⟩) (Below.refl _ _) ?ra1
  case ya1 => (intro w hSw; go_simp; try with_reducible rfl)
  try simp only [Act.put, List.setIfInBounds_toArray, List.set_cons_zero, List.set_cons_succ]
  refine wpAnyH_take (i := 1) (oi := { dst := some 6, op := Op.convert 22 9 (Operand.tmp 5), type := 9, pos := "ref.go:114", after := #[{ on := 0, ground := Ground.data }], guard := none }) (v := ?va2) rfl (by kernel_rfl) (by kernel_rfl) (by kernel_rfl) (fun _ _ _ h => h) (Or.inl ⟨by rfl, ?ya2⟩) (Below.refl _ _) ?ra2
  case ya2 => (intro w hSw; have t := FA.out w hSw; go_simp; try with_reducible rfl)
  try simp only [Act.put, List.setIfInBounds_toArray, List.set_cons_zero, List.set_cons_succ]
  refine wpAnyH_take (i := 2) (oi := { dst := some 7, op := Op.slice 26 (Operand.tmp 3) none none none, type := 22, pos := "ref.go:114", after := #[], guard := none }) (v := ?va3) rfl (by kernel_rfl) (by kernel_rfl) (by kernel_rfl) (fun _ _ _ h => h) (Or.inl ⟨by rfl, ?ya3⟩) (Below.refl _ _) ?ra3
  case ya3 => (intro w hSw; go_simp; try with_reducible rfl)
  try simp only [Act.put, List.setIfInBounds_toArray, List.set_cons_zero, List.set_cons_succ]
  refine wpAnyH_take (i := 3) (oi := { dst := some 8, op := Op.convert 22 9 (Operand.tmp 7), type := 9, pos := "ref.go:114", after := #[{ on := 2, ground := Ground.data }], guard := none }) (v := ?va4) rfl (by kernel_rfl) (by kernel_rfl) (by kernel_rfl) (fun _ _ _ h => h) (Or.inl ⟨by rfl, ?ya4⟩) (Below.refl _ _) ?ra4
  case ya4 => (intro w hSw; have t := FB.out w hSw; go_simp; try with_reducible rfl)
  try simp only [Act.put, List.setIfInBounds_toArray, List.set_cons_zero, List.set_cons_succ]
  refine wpAnyH_take (i := 4) (oi := { dst := some 9, op := Op.binOp BinOp.lss 9 (Operand.tmp 6) (Operand.tmp 8) 9, type := 4, pos := "ref.go:114", after := #[{ on := 1, ground := Ground.data }, { on := 3, ground := Ground.data }], guard := none }) (v := ?va5) rfl (by kernel_rfl) (by kernel_rfl) (by kernel_rfl) (fun _ _ _ h => h) (Or.inl ⟨by rfl, ?ya5⟩) (Below.refl _ _) ?ra5
  case ya5 => (intro w hSw; have t := HLT.out; go_simp; try with_reducible rfl)
  try simp only [Act.put, List.setIfInBounds_toArray, List.set_cons_zero, List.set_cons_succ]
  refine wpAnyH_take (i := 5) (oi := { dst := some 4, op := Op.assign (Operand.tmp 9), type := 4, pos := "ref.go:114", after := #[{ on := 4, ground := Ground.data }, { on := 0, ground := Ground.phase }, { on := 1, ground := Ground.phase }, { on := 2, ground := Ground.phase }, { on := 3, ground := Ground.phase }, { on := 4, ground := Ground.phase }], guard := none }) (v := ?va6) rfl (by kernel_rfl) (by kernel_rfl) (by kernel_rfl) (fun _ _ _ h => h) (Or.inl ⟨by rfl, ?ya6⟩) (Below.refl _ _) ?ra6
  case ya6 => (intro w hSw; go_simp; try with_reducible rfl)
  try simp only [Act.put, List.setIfInBounds_toArray, List.set_cons_zero, List.set_cons_succ]
  refine wpAnyH_done (by kernel_rfl) ?_ _
  go_wp2
  go_ret
  exact ⟨rfl, FE.out _ (Below.refl _ _)⟩
end Go.Proofs.YthcpnhafikojnaaDoor
