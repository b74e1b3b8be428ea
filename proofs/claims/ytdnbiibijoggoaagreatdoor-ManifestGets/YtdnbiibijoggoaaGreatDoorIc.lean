/-
  Texts on Br, Im, St, Sd, in one.
-/
import Derived.Test.YtdnbiibijoggoaaGreatDoorSc
import Derived.Test.YtdnbiibijoggoaaGreatDoorFb
import Derived.Test.YtdnbiibijoggoaaGreatDoorIa
namespace Go.Proofs.YtdnbiibijoggoaaGreatDoor
open Go.RowKit
set_option maxRecDepth 100000

namespace Sh
theorem digest_byt (s : Pl.S8) : Pl.Byt (Pl.digest s) := by
  intro i
  rcases Nat.lt_or_ge i 32 with h | h
  · unfold Pl.digest
    rw [map_getI _ 32 _ h]
    have := Nat.mod_lt ((Pl.words s).getD (i / 4) 0 / 2 ^ (24 - 8 * (i % 4))) (show 0 < 256 by omega)
    omega
  · rw [List.getD, List.getElem?_eq_none (by rw [digest_len]; exact h)]; simp
theorem sha_byt (l : List Int) : Pl.Byt (Pl.sha l) := digest_byt _
end Sh
theorem fsl {w : World} {v : Value} {xs : List Int} (h : Sl w v xs) : Fi.Sl w v xs := h
theorem slf {w : World} {v : Value} {xs : List Int} (h : Fi.Sl w v xs) : Sl w v xs := h
theorem u8_eq (l : List Int) : Sh.u8s l = u8c l := rfl
/-- The tables, as the walks read them. -/
def Tb (w : World) : Prop := Sh.Tab w ∧ Fi.Wid w
theorem Tb.size {w : World} (h : Tb w) : 3 ≤ w.heap.size := h.1.size
theorem Tb.below {w w' : World} {B : Nat} (h : Tb w) (hb : Below B w w') (hB : 3 ≤ B) : Tb w' := ⟨h.1.below hb hB, h.2.below hb (by omega)⟩
theorem Tb.kept {w w' : World} (h : Tb w) (hb : Below w.heap.size w w') : Tb w' := h.below hb h.size
end Go.Proofs.YtdnbiibijoggoaaGreatDoor

namespace Go.Proofs.YtdnbiibijoggoaaGreatDoor
open Go.RowKit
set_option maxRecDepth 100000

/-- An entry's item. -/
def itm (x : En) : It := if x.d = true then bare x.p else ⟨x.p, false, x.z.length, Sh.Pl.sha x.z⟩
theorem itm_ok (x : En) (hz : x.z.length ≤ 100000) : (itm x).ok := by
  unfold itm
  split
  · exact bare_ok _
  · exact ⟨Sh.sha_len _, Sh.sha_byt _, by show (-9223372036854775808 : Int) ≤ (x.z.length : Int); omega, by show ((x.z.length : Nat) : Int) ≤ 9223372036854775807; omega⟩
/-- An item's stand-in. -/
def std (x : It) : En := ⟨x.p, x.d, if x.d = true then [] else x.s⟩
theorem parts1 {w : World} {v : Value} {X : List Int} (s : Sl w v X) : Sh.Parts (w.alloc (.cells #[v] 34)) (some ⟨w.heap.size, 0, none⟩) [X] := by
  refine ⟨by simp, .inr ⟨w.heap.size, 0, rfl, fun i hi => ?_⟩⟩
  obtain rfl : i = 0 := by simpa using hi
  refine ⟨v, ?_, s.kept (al_below _ _)⟩
  rw [World.cell?_alloc_at _ _ _ _ rfl]
  rfl
theorem Parts.kept {w w' : World} {p : Option Addr} {ZZ : List (List Int)} (h : Sh.Parts w p ZZ) (hb : Below w.heap.size w w') : Sh.Parts w' p ZZ := by
  refine ⟨h.1, ?_⟩
  rcases h.2 with h | ⟨b, off, e, h⟩
  · exact .inl h
  · refine .inr ⟨b, off, e, fun i hi => ?_⟩
    obtain ⟨v, h1, h2⟩ := h i hi
    exact ⟨v, (hb.cell (World.block_lt_of_cell? _ _ h1)).trans h1, h2.kept hb⟩
def ezc : Array Value := #[.string ⟨#[]⟩, .bool false, .slice none 0 0]
set_option maxHeartbeats 2000000 in
theorem item_any (v : Value) (x : En) (w : World) (h : EV w v x) (ht : Tb w) (hz : x.z.length ≤ 100000) :
    Calls Tryz.prog 26 #[v] w fun e w' => e = .returned (itm x).val ∧ Below w.heap.size w w' := by
  obtain ⟨ua, un, uc, rfl, hs⟩ := h
  obtain ⟨W1, hW1⟩ : ∃ W1, W1 = w.alloc (.cells #[.string x.p, .bool x.d, .slice ua un uc] 54) := ⟨_, rfl⟩
  obtain ⟨W2, hW2⟩ : ∃ W2, W2 = W1.alloc (.cells izc 42) := ⟨_, rfl⟩
  have b1 : Below w.heap.size w W1 := by rw [hW1]; exact al_below _ _
  have b2 : Below W1.heap.size W1 W2 := by rw [hW2]; exact al_below _ _
  have s1 : W1.heap.size = w.heap.size + 1 := by rw [hW1]; simp
  have t1 : W1.heap[w.heap.size]? = some (.cells #[.string x.p, .bool x.d, .slice ua un uc] 54 (0, 0)) := by rw [hW1]; exact heap_alloc_new _ _
  have G2 : Hid (W2.heap[W1.heap.size]? = some (.cells izc 42 (0, 0))) := by unfold Hid; rw [hW2]; exact heap_alloc_new _ _
  have FT : Hid (∀ W, From W1 W → W.cell? ⟨w.heap.size, 0, none⟩ = some (.string x.p) ∧ W.cell? ⟨w.heap.size, 1, none⟩ = some (.bool x.d) ∧ W.cell? ⟨w.heap.size, 2, none⟩ = some (.slice ua un uc)) := fun W hb => by
    obtain ⟨q0, q1, q2, _⟩ := trio ((Below.block hb _ (by omega)).trans t1)
    exact ⟨q0, q1, q2⟩
  have FB : Hid (∀ W, From W1 W → Below w.heap.size w W) := fun W h => b1.trans (Below.mono h b1.size)
  have FS : Hid (∀ W, From W1 W → Sl W (.slice ua un uc) x.z ∧ Tb W) := fun W h => ⟨hs.kept (b1.trans (Below.mono h b1.size)), ht.kept (b1.trans (Below.mono h b1.size))⟩
  have B2 : Hid (From W1 W2) := b2
  have hun : un = x.z.length := by obtain ⟨_, _, e, _⟩ := hs; cases e; rfl
  have CB : Hid (∀ W, Calls Tryz.prog 50 #[.string x.p] W fun e w' => e = .returned (bare x.p).val ∧ Below W.heap.size W w') := fun W => bare_any x.p W
  have CO : Hid (∀ W (g : Nat), Sh.Tab W → Sh.Parts W (some ⟨g, 0, none⟩) [x.z] → Calls Tryz.prog 51 #[.slice (some ⟨g, 0, none⟩) 1 1] W fun e w' => e = .returned (.agg (u8c (Sh.Pl.sha x.z))) ∧ Below W.heap.size W w') := fun W g hT hP => by
    have := Sh.of_any (some ⟨g, 0, none⟩) 1 [x.z] W hT hP (by simp; omega)
    rw [show [x.z].flatten = x.z by simp] at this
    exact this
  have BF : Hid (Tryz.prog.built 42 [(0, .string x.p), (2, .int .i64 (un : Int)), (3, .agg (u8c (Sh.Pl.sha x.z)))] = some (It.cells ⟨x.p, false, x.z.length, Sh.Pl.sha x.z⟩).toArray) := by
    unfold Hid
    rw [hun]
    exact builtF x.p x.z.length (Sh.Pl.sha x.z) (Sh.sha_len _)
  have HI := itm_ok x hz
  have HX : Hid (itm x = if x.d = true then bare x.p else ⟨x.p, false, x.z.length, Sh.Pl.sha x.z⟩) := rfl
  have hwz : W1.alloc (.cells #[.string ⟨#[]⟩, .bool false, .int .i64 0, .int .u8 0, .int .u8 0, .int .u8 0, .int .u8 0, .int .u8 0, .int .u8 0, .int .u8 0, .int .u8 0, .int .u8 0, .int .u8 0, .int .u8 0, .int .u8 0, .int .u8 0, .int .u8 0, .int .u8 0, .int .u8 0, .int .u8 0, .int .u8 0, .int .u8 0, .int .u8 0, .int .u8 0, .int .u8 0, .int .u8 0, .int .u8 0, .int .u8 0, .int .u8 0, .int .u8 0, .int .u8 0, .int .u8 0, .int .u8 0, .int .u8 0, .int .u8 0] 42) = W2 := hW2.symm
  have HK : Hid ((it0.cells.toArray).size = 35) := izc_size
  clear b1 b2 t1 hs ht hz hun
  generalize itm x = y at *
  have HS1 : Hid (W1.heap.size = w.heap.size + 1) := s1
  clear hW2 s1
  by_cases hd : x.d = true
  · obtain rfl : y = bare x.p := by have := HX.out; rwa [if_pos hd] at this
    have c := CB.out W2
    have BW : Hid (Below w.heap.size w W2) := FB.out W2 B2.out
    rw [hd] at hW1 ⊢
    generalize x.p = pp at *
    clear CO BF FS FT HX HI CB
    go_enter Tryz.func26, Tryz.ntmps26
    go_wp2_with fail
    rw [← hW1, hwz]
    clear hwz
    refine c.mono ?_
    rintro e w3 ⟨rfl, b3⟩
    clear c
    have G3 : Hid (w3.heap[W1.heap.size]? = some (.cells izc 42 (0, 0))) := (b3.block _ (Array.getElem?_eq_some_iff.1 G2.out).1).trans G2.out
    have B3 : Hid (Below w.heap.size w w3) := BW.out.trans (b3.mono BW.out.size)
    have h1 : w.heap.size + 1 = W1.heap.size := HS1.out.symm
    have L1 : Hid (w.heap.size ≤ W1.heap.size) := by unfold Hid; omega
    clear b3 hW1
    unfold It.val
    rw [h1]
    clear h1
    go_wp2_with (refine wpList_store_row rfl 42 _ _ rfl W1.heap.size (bare pp).cells.toArray rfl rfl 42 _ G3.out (It.info _ (bare_ok pp)) (izc_size.trans (It.size _ (bare_ok pp)).symm) (It.ones _) ?_)
    exact bodyPost_ret (v := (bare pp).val) (results_cell_row rfl _ _ W1.heap.size 42 (bare pp).cells.toArray (0, 0) _ rfl (setRow_heap _ _ _ _ _ _ G3.out) Tryz.underlying42 rfl (It.info _ (bare_ok pp))) rfl ⟨rfl, below_setRow B3.out L1.out _⟩
  · obtain rfl : y = ⟨x.p, false, x.z.length, Sh.Pl.sha x.z⟩ := by have := HX.out; rwa [if_neg hd] at this
    have hd' : x.d = false := by simpa using hd
    rw [hd'] at hW1 ⊢
    have L1 : Hid (w.heap.size ≤ W1.heap.size) := by unfold Hid; have := HS1.out; omega
    have HI2 : Hid (It.ok ⟨x.p, false, x.z.length, Sh.Pl.sha x.z⟩) := HI
    obtain ⟨y, hy⟩ : ∃ y : It, y = ⟨x.p, false, x.z.length, Sh.Pl.sha x.z⟩ := ⟨_, rfl⟩
    rw [← hy] at HI2 BF ⊢
    generalize x.p = pp at *
    generalize x.z = zz at *
    clear HX HI CB hd hd' hy
    go_enter Tryz.func26, Tryz.ntmps26
    go_wp2_with fail
    rw [← hW1, hwz, ← HS1.out]
    clear hwz hW1
    refine wp_region_held_drew (S := From W1) (by kernel_rfl) (Below.drew (B2.out)) (fun _ => ?_)
    refine wpAnyH_name (fun u0 hu0 => ?_)
    have bu0 : Below W1.heap.size W1 u0 := by rw [hu0.out]; exact Below.drew (B2.out)
    have Gu0 : u0.heap[W1.heap.size]? = some (.cells izc 42 (0, 0)) := by rw [hu0.out]; exact G2.out
    refine wpAnyH_take (i := 0) (oi := { dst := some 8, op := Op.fieldAddr 54 (Operand.tmp 1) 0, type := 0, pos := "manifest.go:112", after := #[], guard := none }) (v := ?vr1) rfl (by kernel_rfl) (by kernel_rfl) (by kernel_rfl) (fun _ _ _ h => h) (Or.inl ⟨by rfl, ?yr1⟩) bu0 ?rr1
    case yr1 => (intro w hSw; go_simp; try with_reducible rfl)
    try simp only [Act.put, List.setIfInBounds_toArray, List.set_cons_zero, List.set_cons_succ]
    refine wpAnyH_take (i := 1) (oi := { dst := some 9, op := Op.load 9 (Operand.tmp 8), type := 9, pos := "manifest.go:112", after := #[{ on := 0, ground := Ground.data }], guard := none }) (v := ?vr2) rfl (by kernel_rfl) (by kernel_rfl) (by kernel_rfl) (fun _ _ _ h => h) (Or.inl ⟨by rfl, ?yr2⟩) bu0 ?rr2
    case yr2 => (intro w hSw; obtain ⟨t0, t1, t2⟩ := FT.out w hSw; go_simp; try with_reducible rfl)
    try simp only [Act.put, List.setIfInBounds_toArray, List.set_cons_zero, List.set_cons_succ]
    refine wpAnyH_take (i := 2) (oi := { dst := some 10, op := Op.fieldAddr 54 (Operand.tmp 1) 2, type := 0, pos := "manifest.go:112", after := #[], guard := none }) (v := ?vr3) rfl (by kernel_rfl) (by kernel_rfl) (by kernel_rfl) (fun _ _ _ h => h) (Or.inl ⟨by rfl, ?yr3⟩) bu0 ?rr3
    case yr3 => (intro w hSw; go_simp; try with_reducible rfl)
    try simp only [Act.put, List.setIfInBounds_toArray, List.set_cons_zero, List.set_cons_succ]
    refine wpAnyH_take (i := 3) (oi := { dst := some 11, op := Op.load 34 (Operand.tmp 10), type := 34, pos := "manifest.go:112", after := #[{ on := 2, ground := Ground.data }], guard := none }) (v := ?vr4) rfl (by kernel_rfl) (by kernel_rfl) (by kernel_rfl) (fun _ _ _ h => h) (Or.inl ⟨by rfl, ?yr4⟩) bu0 ?rr4
    case yr4 => (intro w hSw; obtain ⟨t0, t1, t2⟩ := FT.out w hSw; go_simp; try with_reducible rfl)
    try simp only [Act.put, List.setIfInBounds_toArray, List.set_cons_zero, List.set_cons_succ]
    refine wpAnyH_take (i := 4) (oi := { dst := some 12, op := Op.call { callee := Callee.builtin Builtin.len, args := #[Operand.tmp 11], argTypes := #[34] }, type := 3, pos := "manifest.go:112", after := #[{ on := 3, ground := Ground.data }], guard := none }) (v := ?vr5) rfl (by kernel_rfl) (by kernel_rfl) (by kernel_rfl) (fun _ _ _ h => h) (Or.inl ⟨by rfl, ?yr5⟩) bu0 ?rr5
    case yr5 => (intro w hSw; go_simp; try with_reducible rfl)
    try simp only [Act.put, List.setIfInBounds_toArray, List.set_cons_zero, List.set_cons_succ]
    refine wpAnyH_take (i := 5) (oi := { dst := some 13, op := Op.fieldAddr 54 (Operand.tmp 1) 2, type := 0, pos := "manifest.go:112", after := #[], guard := none }) (v := ?vr6) rfl (by kernel_rfl) (by kernel_rfl) (by kernel_rfl) (fun _ _ _ h => h) (Or.inl ⟨by rfl, ?yr6⟩) bu0 ?rr6
    case yr6 => (intro w hSw; go_simp; try with_reducible rfl)
    try simp only [Act.put, List.setIfInBounds_toArray, List.set_cons_zero, List.set_cons_succ]
    refine wpAnyH_take (i := 6) (oi := { dst := some 14, op := Op.load 34 (Operand.tmp 13), type := 34, pos := "manifest.go:112", after := #[{ on := 5, ground := Ground.data }], guard := none }) (v := ?vr7) rfl (by kernel_rfl) (by kernel_rfl) (by kernel_rfl) (fun _ _ _ h => h) (Or.inl ⟨by rfl, ?yr7⟩) bu0 ?rr7
    case yr7 => (intro w hSw; obtain ⟨t0, t1, t2⟩ := FT.out w hSw; go_simp; try with_reducible rfl)
    try simp only [Act.put, List.setIfInBounds_toArray, List.set_cons_zero, List.set_cons_succ]
    refine wpAnyH_ready (rs := [7]) (by kernel_rfl) (by simp) ?_
    refine AllReadyH.cons (o := { dst := some 15, op := Op.buildSlice 60 1 #[(0, Operand.tmp 14)], type := 60, pos := "manifest.go:112", after := #[{ on := 6, ground := Ground.data }], guard := none }) rfl (fun KK hKK => ?_) ?_
    · have pu8 := parts1 (FS.out _ bu0).1
      go_simp
      refine hKK.out _ _ (bu0.trans (Below.mono (al_below _ _) bu0.size)) (fun _ => ?_)
      clear hKK KK
      try simp only [Act.put, List.setIfInBounds_toArray, List.set_cons_zero, List.set_cons_succ]
      refine wpAnyH_name (fun u8 hu8 => ?_)
      have bu8 : Below W1.heap.size W1 u8 := by rw [hu8.out]; exact (bu0.trans (Below.mono (al_below _ _) bu0.size))
      have qu8 : Below u0.heap.size u0 u8 := by rw [hu8.out]; exact (al_below _ _)
      have Gu8 : u8.heap[W1.heap.size]? = some (.cells izc 42 (0, 0)) := (qu8.block _ (Array.getElem?_eq_some_iff.1 Gu0).1).trans Gu0
      have FP : Hid (∀ x, From u8 x → Sh.Parts x (some ⟨u0.heap.size, 0, none⟩) [zz]) := fun x hx => Parts.kept (by rw [hu8.out]; exact pu8) hx
      clear pu8
      refine wpAnyH_ready (rs := [8]) (by kernel_rfl) (by simp) ?_
      refine AllReadyH.cons (o := { dst := some 16, op := Op.call { callee := Callee.value (Operand.func 51), args := #[Operand.tmp 15], argTypes := #[60] }, type := 40, pos := "manifest.go:112", after := #[{ on := 7, ground := Ground.data }], guard := none }) rfl (fun KK hKK => ?_) ?_
      · go_simp
        refine (CO.out _ _ (FS.out _ bu8).2.1 (FP.out _ (Below.refl _ _))).mono ?_
        rintro e u9' ⟨rfl, bu9'⟩
        (try go_wp2_with fail)
        refine hKK.out _ _ (bu8.trans (Below.mono (bu9') bu8.size)) (fun _ => ?_)
        clear hKK KK
        try simp only [Act.put, List.setIfInBounds_toArray, List.set_cons_zero, List.set_cons_succ]
        refine wpAnyH_name (fun u9 hu9 => ?_)
        have bu9 : Below W1.heap.size W1 u9 := by rw [hu9.out]; exact (bu8.trans (Below.mono (bu9') bu8.size))
        have qu9 : Below u8.heap.size u8 u9 := by rw [hu9.out]; exact (bu9')
        have Gu9 : u9.heap[W1.heap.size]? = some (.cells izc 42 (0, 0)) := (qu9.block _ (Array.getElem?_eq_some_iff.1 Gu8).1).trans Gu8
        refine wpAnyH_take (i := 9) (oi := { dst := some 17, op := Op.build 42 #[(0, Operand.tmp 9), (2, Operand.tmp 12), (3, Operand.tmp 16)], type := 42, pos := "manifest.go:112", after := #[{ on := 1, ground := Ground.data }, { on := 4, ground := Ground.data }, { on := 8, ground := Ground.data }], guard := none }) (v := .agg y.cells.toArray) rfl (by kernel_rfl) (by kernel_rfl) (by kernel_rfl) (fun _ _ _ h => h) (yields_built (by rfl) 42 _ rfl [(0, .string pp), (2, .int .i64 (un : Int)), (3, .agg (u8c (Sh.Pl.sha zz)))] rfl y.cells.toArray BF.out) bu9 ?_
        try simp only [Act.put, List.setIfInBounds_toArray, List.set_cons_zero, List.set_cons_succ]
        refine wpAnyH_ready (rs := [10]) (by kernel_rfl) (by simp) ?_
        refine AllReadyH.cons (o := { dst := none, op := Op.store 42 (Operand.tmp 2) (Operand.tmp 17), type := 0, pos := "manifest.go:112", after := #[{ on := 9, ground := Ground.data }, { on := 8, ground := Ground.chain }, { on := 0, ground := Ground.phase }, { on := 1, ground := Ground.phase }, { on := 2, ground := Ground.phase }, { on := 3, ground := Ground.phase }, { on := 4, ground := Ground.phase }, { on := 5, ground := Ground.phase }, { on := 6, ground := Ground.phase }, { on := 7, ground := Ground.phase }, { on := 8, ground := Ground.phase }, { on := 9, ground := Ground.phase }], guard := none }) rfl (fun KK hKK => ?_) ?_
        · refine wp_store_row 42 _ _ rfl W1.heap.size y.cells.toArray rfl rfl 42 izc Gu9 (It.info _ HI2.out) (izc_size.trans (It.size _ HI2.out).symm) (It.ones _) ?_
          refine hKK.out _ _ (below_setRow bu9 (Nat.le_refl _) _) (fun _ => ?_)
          clear hKK KK
          try simp only [Act.put]
          refine wpAnyH_name (fun u11 hu11 => ?_)
          have bu11 : Below W1.heap.size W1 u11 := by rw [hu11.out]; exact (below_setRow bu9 (Nat.le_refl _) _)
          refine wpAnyH_done (by kernel_rfl) ?_ _
          have Z := setRow_heap _ _ _ y.cells.toArray _ _ Gu9
          rw [← hu11.out] at Z
          go_wp2_with fail
          exact bodyPost_ret (v := y.val) (results_cell_row rfl _ _ W1.heap.size 42 y.cells.toArray (0, 0) _ rfl Z Tryz.underlying42 rfl (It.info _ HI2.out)) rfl ⟨rfl, FB.out _ bu11⟩
        exact AllReadyH.nil
      exact AllReadyH.nil
    exact AllReadyH.nil
end Go.Proofs.YtdnbiibijoggoaaGreatDoor

namespace Go.Proofs.YtdnbiibijoggoaaGreatDoor
open Go.RowKit
set_option maxRecDepth 100000

theorem builtE (p : ByteArray) (u : Value) (a : Option Addr) (n c : Nat) (hu : u = .slice a n c) : Tryz.prog.built 54 [(0, .string p), (2, u)] = some #[.string p, .bool false, u] := by
  subst hu
  kernel_rfl
theorem infoEn (u0 u1 u2 : Value) : (Tryz.prog.info? 54).map (·.size) = some #[u0, u1, u2].size := by
  show _ = some 3
  kernel_rfl
theorem ones3 (p : ByteArray) (b : Bool) (a : Option Addr) (n c : Nat) : #[Value.string p, .bool b, .slice a n c].all (·.oneCell') = true :=
  all_oneCell_toArray (cs := [Value.string p, .bool b, .slice a n c]) fun v hv => by
    simp only [List.mem_cons, List.not_mem_nil, or_false] at hv
    rcases hv with rfl | rfl | rfl <;> rfl
theorem ownsRow_setRow_other {w : World} {base : Nat} {e : TypeId} {size : Nat} {v : Value} {n : Nat} {xs : List Value} (h : w.ownsRow base e size v n xs) {g : Nat} (hg : v.ownBlock ≠ some g) {cs : Array Value} : (w.setRow g cs).ownsRow base e size v n xs := by
  obtain ⟨h1, h2⟩ := h
  refine ⟨h1, ?_⟩
  rcases h2 with h2 | ⟨k, cap, cur, hv, hk, hh, r⟩
  · exact .inl h2
  · refine .inr ⟨k, cap, cur, hv, hk, ?_, r⟩
    have hne : k ≠ g := fun e => hg (by rw [hv, ← e]; rfl)
    rw [setRow_other _ _ _ _ hne]
    exact hh
set_option maxHeartbeats 2000000 in
theorem stand_any (x : It) (w : World) (hx : x.ok) :
    Calls Tryz.prog 39 #[x.val] w fun e w' => ∃ u, e = .returned (.agg #[.string x.p, .bool x.d, u]) ∧ w'.ownsRow w.heap.size 5 1 u (std x).z.length ((std x).z.map (Value.int .u8)) ∧ Below w.heap.size w w' := by
  obtain ⟨W1, hW1⟩ : ∃ W1, W1 = w.alloc (.cells x.cells.toArray 42) := ⟨_, rfl⟩
  obtain ⟨W2, hW2⟩ : ∃ W2, W2 = W1.alloc (.cells #[.string ⟨#[]⟩, .bool false, .slice none 0 0] 54) := ⟨_, rfl⟩
  have b1 : Below w.heap.size w W1 := by rw [hW1]; exact al_below _ _
  have b2 : Below W1.heap.size W1 W2 := by rw [hW2]; exact al_below _ _
  have s1 : W1.heap.size = w.heap.size + 1 := by rw [hW1]; simp
  have g1 : IB W1 w.heap.size x := by rw [hW1]; exact IB.new w x
  have G2 : Hid (W2.heap[W1.heap.size]? = some (.cells #[.string ⟨#[]⟩, .bool false, .slice none 0 0] 54 (0, 0))) := by unfold Hid; rw [hW2]; exact heap_alloc_new _ _
  have FT : Hid (∀ W, From W1 W → W.cell? ⟨w.heap.size, 0, none⟩ = some (.string x.p) ∧ W.cell? ⟨w.heap.size, 1, none⟩ = some (.bool x.d)) := fun W hb => ⟨(range_head (g1.kept hb).range).1, (range_head (g1.kept hb).range).2.1⟩
  have FB : Hid (∀ W, From W1 W → Below w.heap.size w W) := fun W h => b1.trans (Below.mono h b1.size)
  have FC : Hid (∀ W, From W1 W → Calls Tryz.prog 61 #[.slice (some ⟨w.heap.size, 3, none⟩) 32 32] W fun r w' => ∃ v', r = .returned v' ∧ w'.ownsRow W.heap.size 5 1 v' 32 (x.s.map (Value.int .u8)) ∧ Below W.heap.size W w') := fun W hb => by
    have hs : Sl W (.slice (some ⟨w.heap.size, 3, none⟩) 32 32) x.s := sl_range (by simpa using range_sum (g1.kept hb).range) hx.2.1 hx.1.symm (Nat.le_refl _) (by unfold maxLen; omega)
    have := Fi.clone_any _ _ W (fsl hs) (by rw [hx.1]; omega)
    rwa [hx.1] at this
  have B2 : Hid (From W1 W2) := b2
  have HS1 : Hid (W1.heap.size = w.heap.size + 1) := s1
  have hwz : W1.alloc (.cells #[.string ⟨#[]⟩, .bool false, .slice none 0 0] 54) = W2 := hW2.symm
  have HZ : Hid ((std x).z = if x.d = true then [] else x.s) := rfl
  have HL : Hid (x.s.length = 32) := hx.1
  have k0 := (FT.out W1 (Below.refl _ _)).1
  have k1 := (FT.out W1 (Below.refl _ _)).2
  have BW : Hid (Below w.heap.size w W2) := FB.out W2 b2
  have k3 : x.cells.toArray[0]? = some (.string x.p) := rfl
  have k4 : x.cells.toArray[1]? = some (.bool x.d) := rfl
  clear b1 b2 s1 g1 hx hW2 k0 k1
  unfold It.val
  generalize (std x).z = Z at *
  generalize x.s = S at *
  generalize x.cells.toArray = cs at *
  generalize x.p = pp at *
  generalize x.d = dd at *
  cases dd
  · have hZ : Hid (Z = S) := by unfold Hid; have := HZ.out; simpa using this
    clear HZ
    go_enter Tryz.func39, Tryz.ntmps39
    go_wp2_with fail
    rw [← hW1, hwz, ← HS1.out]
    clear hwz hW1 k3 k4
    refine wp_region_held_drew (S := From W1) (by kernel_rfl) (Below.drew (B2.out)) (fun _ => ?_)
    refine wpAnyH_name (fun u0 hu0 => ?_)
    have bu0 : Below W1.heap.size W1 u0 := by rw [hu0.out]; exact Below.drew (B2.out)
    have Gu0 : u0.heap[W1.heap.size]? = some (.cells #[.string ⟨#[]⟩, .bool false, .slice none 0 0] 54 (0, 0)) := by rw [hu0.out]; exact G2.out
    refine wpAnyH_take (i := 0) (oi := { dst := some 8, op := Op.fieldAddr 42 (Operand.tmp 1) 0, type := 0, pos := "manifest.go:120", after := #[], guard := none }) (v := ?vr1) rfl (by kernel_rfl) (by kernel_rfl) (by kernel_rfl) (fun _ _ _ h => h) (Or.inl ⟨by rfl, ?yr1⟩) bu0 ?rr1
    case yr1 => (intro w hSw; go_simp; try with_reducible rfl)
    try simp only [Act.put, List.setIfInBounds_toArray, List.set_cons_zero, List.set_cons_succ]
    refine wpAnyH_take (i := 1) (oi := { dst := some 9, op := Op.load 9 (Operand.tmp 8), type := 9, pos := "manifest.go:120", after := #[{ on := 0, ground := Ground.data }], guard := none }) (v := ?vr2) rfl (by kernel_rfl) (by kernel_rfl) (by kernel_rfl) (fun _ _ _ h => h) (Or.inl ⟨by rfl, ?yr2⟩) bu0 ?rr2
    case yr2 => (intro w hSw; obtain ⟨t0, t1⟩ := FT.out w hSw; go_simp; try with_reducible rfl)
    try simp only [Act.put, List.setIfInBounds_toArray, List.set_cons_zero, List.set_cons_succ]
    refine wpAnyH_take (i := 2) (oi := { dst := some 10, op := Op.fieldAddr 42 (Operand.tmp 1) 3, type := 0, pos := "manifest.go:120", after := #[], guard := none }) (v := ?vr3) rfl (by kernel_rfl) (by kernel_rfl) (by kernel_rfl) (fun _ _ _ h => h) (Or.inl ⟨by rfl, ?yr3⟩) bu0 ?rr3
    case yr3 => (intro w hSw; go_simp; try with_reducible rfl)
    try simp only [Act.put, List.setIfInBounds_toArray, List.set_cons_zero, List.set_cons_succ]
    refine wpAnyH_take (i := 3) (oi := { dst := some 11, op := Op.slice 40 (Operand.tmp 10) none none none, type := 34, pos := "manifest.go:120", after := #[{ on := 2, ground := Ground.data }], guard := none }) (v := ?vr4) rfl (by kernel_rfl) (by kernel_rfl) (by kernel_rfl) (fun _ _ _ h => h) (Or.inl ⟨by rfl, ?yr4⟩) bu0 ?rr4
    case yr4 => (intro w hSw; go_simp; try with_reducible rfl)
    try simp only [Act.put, List.setIfInBounds_toArray, List.set_cons_zero, List.set_cons_succ]
    refine wpAnyH_ready (rs := [4]) (by kernel_rfl) (by simp) ?_
    refine AllReadyH.cons (o := { dst := some 12, op := Op.call { callee := Callee.value (Operand.func 61), args := #[Operand.tmp 11], argTypes := #[34] }, type := 34, pos := "manifest.go:120", after := #[{ on := 3, ground := Ground.data }], guard := none }) rfl (fun KK hKK => ?_) ?_
    · go_simp
      refine (FC.out _ bu0).mono ?_
      rintro e u5' ⟨vv, rfl, owu5, bu5'⟩
      obtain ⟨ua, uc, rfl⟩ := own_shape owu5
      (try go_wp2_with fail)
      refine hKK.out _ _ (bu0.trans (Below.mono (bu5') bu0.size)) (fun _ => ?_)
      clear hKK KK
      try simp only [Act.put, List.setIfInBounds_toArray, List.set_cons_zero, List.set_cons_succ]
      refine wpAnyH_name (fun u5 hu5 => ?_)
      have bu5 : Below W1.heap.size W1 u5 := by rw [hu5.out]; exact (bu0.trans (Below.mono (bu5') bu0.size))
      have qu5 : Below u0.heap.size u0 u5 := by rw [hu5.out]; exact (bu5')
      have Gu5 : u5.heap[W1.heap.size]? = some (.cells #[.string ⟨#[]⟩, .bool false, .slice none 0 0] 54 (0, 0)) := (qu5.block _ (Array.getElem?_eq_some_iff.1 Gu0).1).trans Gu0
      have OW : Hid (u5.ownsRow u0.heap.size 5 1 (.slice ua 32 uc) 32 (S.map (Value.int .u8))) := by unfold Hid; rw [hu5.out]; exact owu5
      have LW : Hid (W1.heap.size < u0.heap.size) := (Array.getElem?_eq_some_iff.1 Gu0).1
      clear owu5
      refine wpAnyH_take (i := 5) (oi := { dst := some 13, op := Op.build 54 #[(0, Operand.tmp 9), (2, Operand.tmp 12)], type := 54, pos := "manifest.go:120", after := #[{ on := 1, ground := Ground.data }, { on := 4, ground := Ground.data }], guard := none }) (v := .agg #[.string pp, .bool false, .slice ua 32 uc]) rfl (by kernel_rfl) (by kernel_rfl) (by kernel_rfl) (fun _ _ _ h => h) (yields_built (by rfl) 54 _ rfl [(0, .string pp), (2, .slice ua 32 uc)] rfl #[.string pp, .bool false, .slice ua 32 uc] (builtE _ _ _ _ _ rfl)) bu5 ?_
      try simp only [Act.put, List.setIfInBounds_toArray, List.set_cons_zero, List.set_cons_succ]
      refine wpAnyH_ready (rs := [6]) (by kernel_rfl) (by simp) ?_
      refine AllReadyH.cons (o := { dst := none, op := Op.store 54 (Operand.tmp 2) (Operand.tmp 13), type := 0, pos := "manifest.go:120", after := #[{ on := 5, ground := Ground.data }, { on := 4, ground := Ground.chain }, { on := 0, ground := Ground.phase }, { on := 1, ground := Ground.phase }, { on := 2, ground := Ground.phase }, { on := 3, ground := Ground.phase }, { on := 4, ground := Ground.phase }, { on := 5, ground := Ground.phase }], guard := none }) rfl (fun KK hKK => ?_) ?_
      · refine wp_store_row 54 _ _ rfl W1.heap.size #[.string pp, .bool false, .slice ua 32 uc] rfl rfl 54 #[.string ⟨#[]⟩, .bool false, .slice none 0 0] Gu5 (infoEn _ _ _) rfl (ones3 _ _ _ _ _) ?_
        refine hKK.out _ _ (below_setRow bu5 (Nat.le_refl _) _) (fun _ => ?_)
        clear hKK KK
        try simp only [Act.put]
        refine wpAnyH_name (fun u7 hu7 => ?_)
        have bu7 : Below W1.heap.size W1 u7 := by rw [hu7.out]; exact (below_setRow bu5 (Nat.le_refl _) _)
        have O6 : Hid (u7.ownsRow W1.heap.size 5 1 (.slice ua 32 uc) 32 (S.map (Value.int .u8))) := by
          unfold Hid
          rw [hu7.out]
          refine own_mono (ownsRow_setRow_other OW.out ?_) (Nat.le_of_lt LW.out)
          intro e
          have := own_base OW.out _ e
          have := LW.out
          omega
        refine wpAnyH_done (by kernel_rfl) ?_ _
        have Z6 := setRow_heap _ _ _ (#[.string pp, .bool false, .slice ua 32 uc]) _ _ Gu5
        rw [← hu7.out] at Z6
        go_wp2_with fail
        refine bodyPost_ret (v := .agg #[.string pp, .bool false, .slice ua 32 uc]) (results_cell_row rfl _ _ W1.heap.size 54 #[.string pp, .bool false, .slice ua 32 uc] (0, 0) _ rfl Z6 Tryz.underlying54 rfl (infoEn _ _ _)) rfl ?_
        rw [hZ.out, HL.out]
        exact ⟨_, rfl, own_mono O6.out (by have := HS1.out; omega), FB.out _ bu7⟩
      exact AllReadyH.nil
    exact AllReadyH.nil
  · have hZ : Hid (Z = []) := by unfold Hid; have := HZ.out; simpa using this
    clear HZ FC FT G2 B2
    have BX : Hid (Below w.heap.size w (w.alloc (.cells cs 42))) := al_below _ _
    go_enter Tryz.func39, Tryz.ntmps39
    go_wp2
    refine bodyPost_ret (v := .agg #[.string pp, .bool true, .slice none 0 0]) ?hres rfl ?_
    case hres => simp [results, Tryz.results39, go_sem, *]
    rw [hZ.out]
    refine ⟨_, rfl, World.ownsRow_nil _ _ _ _, ?_⟩
    exact BX.out.trans ((al_below _ _).mono (by simp))
/-- Stand-ins of items that may be are light. -/
theorem std_lt (l : List It) (hn : l.length ≤ 100) (hp : ∀ x ∈ l, x.p.size ≤ 1000) (hok : ∀ x ∈ l, x.ok) : Lt (l.map std) := by
  refine ⟨by simpa using hn, fun y hy => ?_⟩
  obtain ⟨x, hx, rfl⟩ := List.mem_map.1 hy
  refine ⟨hp x hx, ?_⟩
  unfold std
  show (if x.d = true then ([] : List Int) else x.s).length ≤ 100000
  split
  · simp
  · rw [(hok x hx).1]; omega
theorem std_bytes (x : It) (h : x.ok) : ∀ k, 0 ≤ (std x).z.getD k 0 ∧ (std x).z.getD k 0 < 256 := by
  intro k
  unfold std
  show 0 ≤ (if x.d = true then ([] : List Int) else x.s).getD k 0 ∧ (if x.d = true then ([] : List Int) else x.s).getD k 0 < 256
  split
  · simp
  · exact h.2.1 k
theorem takeI_at (l : List It) (j : Nat) (h : j < l.length) : l.take (j + 1) = l.take j ++ [atI l j] := by
  rw [List.take_add_one, List.getElem?_eq_getElem h, atI_eq l j h]
  rfl
end Go.Proofs.YtdnbiibijoggoaaGreatDoor

namespace Go.Proofs.YtdnbiibijoggoaaGreatDoor
open Go.RowKit
set_option maxRecDepth 100000

theorem alloc_it (w : World) (x : It) : (w.alloc (.cells #[.string ⟨#[]⟩, .bool false, .int .i64 0, .int .u8 0, .int .u8 0, .int .u8 0, .int .u8 0, .int .u8 0, .int .u8 0, .int .u8 0, .int .u8 0, .int .u8 0, .int .u8 0, .int .u8 0, .int .u8 0, .int .u8 0, .int .u8 0, .int .u8 0, .int .u8 0, .int .u8 0, .int .u8 0, .int .u8 0, .int .u8 0, .int .u8 0, .int .u8 0, .int .u8 0, .int .u8 0, .int .u8 0, .int .u8 0, .int .u8 0, .int .u8 0, .int .u8 0, .int .u8 0, .int .u8 0, .int .u8 0] 42)).setRow w.heap.size x.cells.toArray = w.alloc (.cells x.cells.toArray 42) := World.setRow_alloc_new _ _ _ _
theorem new_it (w : World) : (w.alloc (.cells #[.string ⟨#[]⟩, .bool false, .int .i64 0, .int .u8 0, .int .u8 0, .int .u8 0, .int .u8 0, .int .u8 0, .int .u8 0, .int .u8 0, .int .u8 0, .int .u8 0, .int .u8 0, .int .u8 0, .int .u8 0, .int .u8 0, .int .u8 0, .int .u8 0, .int .u8 0, .int .u8 0, .int .u8 0, .int .u8 0, .int .u8 0, .int .u8 0, .int .u8 0, .int .u8 0, .int .u8 0, .int .u8 0, .int .u8 0, .int .u8 0, .int .u8 0, .int .u8 0, .int .u8 0, .int .u8 0, .int .u8 0] 42)).heap[w.heap.size]? = some (.cells izc 42 (0, 0)) := heap_alloc_new _ _
set_option maxHeartbeats 2000000 in
theorem stands_any (v : Value) (l : List It) (w : World) (h : IS w v l) (hl : l.length ≤ 100000) :
    Calls Tryz.prog 18 #[v] w fun e w' => ∃ v', e = .returned v' ∧ OE w' w.heap.size v' (l.map std) ∧ Below w.heap.size w w' := by
  obtain ⟨a, c, rfl, h2, h3, h4⟩ := h.shape
  have HS : Hid (IS w (.slice a l.length c) l) := h
  have HOK : Hid (∀ x ∈ l, x.ok) := h.ok
  have hn := hl
  obtain ⟨n, hn'⟩ : ∃ n, n = l.length := ⟨_, rfl⟩
  have HN : Hid (n = l.length) := hn'
  rw [← hn'] at HS h2 hn ⊢
  clear h hl h3 h4 hn'
  go_enter Tryz.func18, Tryz.ntmps18
  go_wp2
  go_loopw [3, 8] (fun s q wr => ∃ j : Nat, j ≤ n ∧ q = .int .i64 j ∧ OE wr w.heap.size s ((l.take j).map std) ∧ Below w.heap.size w wr) (fun _ q _ => n - (intOf q).toNat)
  case atStart => exact ⟨0, by omega, rfl, OE.nil _ _, Below.refl _ _⟩
  case round =>
    obtain ⟨j, hj, rfl, oe, bel⟩ := hrel
    have HB : Hid (Below w.heap.size w wr) := bel
    have HO : Hid (OE wr w.heap.size u3 ((l.take j).map std)) := oe
    obtain ⟨va, vc, rfl, hv, _, _⟩ := oe.es.shape
    have hlj : ((l.take j).map std).length = j := by rw [List.length_map, List.length_take, ← HN.out]; omega
    rw [hlj] at HO ⊢
    clear bel hv oe
    by_cases hlt : j < n
    · have lt2 : (j : Int) < (n : Int) := by omega
      obtain ⟨b, off, rfl, hr⟩ := (HS.out.kept HB.out).at j (by rw [← HN.out]; exact hlt)
      have hx : (atI l j).ok := It.at l HOK.out j
      have HT : Hid ((l.take (j + 1)).map std = (l.take j).map std ++ [std (atI l j)]) := by unfold Hid; rw [takeI_at l j (by rw [← HN.out]; exact hlt)]; simp
      generalize atI l j = x at *
      have RN : Hid (wr.rangeAt b (off + j * 35) x.cells) := hr
      have HZ : Hid ((Tryz.prog.info? 42).map (·.size) = some x.cells.length) := sizeI.trans (by rw [It.len hx])
      have HI : Hid ((Tryz.prog.info? 42).map (·.size) = some x.cells.toArray.size) := It.info x hx
      have HE : Hid (izc.size = x.cells.toArray.size) := izc_size.trans (It.size x hx).symm
      have HX : Hid (∀ k, 0 ≤ (std x).z.getD k 0 ∧ (std x).z.getD k 0 < 256) := std_bytes x hx
      obtain ⟨W1, hW1⟩ : ∃ W1, W1 = wr.alloc (.cells x.cells.toArray 42) := ⟨_, rfl⟩
      have b1 : Below wr.heap.size wr W1 := by rw [hW1]; exact al_below _ _
      have R1 : Hid (W1.rangeAt wr.heap.size 0 x.cells) := by unfold Hid; rw [hW1]; exact (IB.new wr x).range
      have CO := stand_any x W1 hx
      have B1 : Hid (Below w.heap.size w W1) := HB.out.trans (b1.mono HB.out.size)
      have O1 : Hid (OE W1 w.heap.size (.slice va j vc) ((l.take j).map std)) := HO.out.below b1
      have e1 := alloc_it wr x
      rw [← hW1] at e1
      have HE1 : Hid ((wr.alloc (.cells #[.string ⟨#[]⟩, .bool false, .int .i64 0, .int .u8 0, .int .u8 0, .int .u8 0, .int .u8 0, .int .u8 0, .int .u8 0, .int .u8 0, .int .u8 0, .int .u8 0, .int .u8 0, .int .u8 0, .int .u8 0, .int .u8 0, .int .u8 0, .int .u8 0, .int .u8 0, .int .u8 0, .int .u8 0, .int .u8 0, .int .u8 0, .int .u8 0, .int .u8 0, .int .u8 0, .int .u8 0, .int .u8 0, .int .u8 0, .int .u8 0, .int .u8 0, .int .u8 0, .int .u8 0, .int .u8 0, .int .u8 0] 42)).setRow wr.heap.size x.cells.toArray = W1) := e1
      have H1 : Hid (∀ v ∈ x.cells, v.oneCell' = true) := It.one x
      clear b1 HO hr hx e1 hW1
      generalize (l.take j).map std = L at *
      obtain ⟨U, RU, OU⟩ := O1.out
      have RE1 : Hid (RE W1 w.heap.size (.slice va j vc) L U) := RU
      have Q1 : Hid (∀ i, i < L.length → W1.ownsRow w.heap.size 5 1 (U i) (atE L i).z.length ((atE L i).z.map (Value.int .u8)) ∧ ∀ k, 0 ≤ (atE L i).z.getD k 0 ∧ (atE L i).z.getD k 0 < 256) := OU
      have HJ : Hid (L.length = j) := hlj
      clear RU OU O1 hlj
      unfold It.val at CO
      generalize x.cells = cs at *
      go_wp2_with (refine wpList_load_mid rfl 42 _ rfl b (off + j * 35) rfl cs _ RN.out Tryz.underlying42 rfl HZ.out (Hid.out ?_))
      unfold Hid
      go_wp2_with (refine wpList_store_row rfl 42 _ _ rfl wr.heap.size cs.toArray rfl rfl 42 izc (new_it wr) HI.out HE.out (all_oneCell_toArray H1.out) (Hid.out ?_))
      unfold Hid
      rw [HE1.out]
      go_wp2_with (refine wpList_load_mid rfl 42 _ rfl wr.heap.size 0 rfl cs _ R1.out Tryz.underlying42 rfl HZ.out (Hid.out ?_))
      unfold Hid
      go_wp2_with fail
      refine CO.mono ?_
      rintro e w2 ⟨u, rfl, o2, b2⟩
      clear CO
      obtain ⟨y, hy⟩ : ∃ y, y = std x := ⟨_, rfl⟩
      have hyp : x.p = y.p := by rw [hy]; rfl
      have hyd : x.d = y.d := by rw [hy]; rfl
      rw [hyp, hyd]
      rw [← hy] at o2 HT HX
      clear hyp hyd hy
      obtain ⟨au, cu, rfl⟩ := own_shape o2
      obtain ⟨W3, hW3⟩ : ∃ W3, W3 = w2.alloc (.cells #[.string y.p, .bool y.d, .slice au y.z.length cu] 54) := ⟨_, rfl⟩
      have b3 : Below w2.heap.size w2 W3 := by rw [hW3]; exact al_below _ _
      have b13 : Below W1.heap.size W1 W3 := b2.trans (b3.mono b2.size)
      have B3 : Hid (Below w.heap.size w W3) := B1.out.trans (b13.mono B1.out.size)
      have R3 : Hid (RE W3 w.heap.size (.slice va j vc) L U) := RE1.out.below b13
      have Q3 : Hid (∀ i, i < L.length → W3.ownsRow w.heap.size 5 1 (U i) (atE L i).z.length ((atE L i).z.map (Value.int .u8)) ∧ ∀ k, 0 ≤ (atE L i).z.getD k 0 ∧ (atE L i).z.getD k 0 < 256) := fun i hi => ⟨own_below (Q1.out i hi).1 b13, (Q1.out i hi).2⟩
      have O3 : Hid (W3.ownsRow w.heap.size 5 1 (.slice au y.z.length cu) y.z.length (y.z.map (Value.int .u8))) := own_mono (own_below o2 b3) B1.out.size
      have K3 : Hid (∀ j, j < [y].length * 3 → W3.cell? ⟨w2.heap.size, 0 + j, none⟩ = some (cellE [y] (fun _ => .slice au y.z.length cu) j)) := fun j hj => by
        have e := flat_get [y] (fun _ => Value.slice au y.z.length cu) j
        rw [if_pos hj, ← flat_one] at e
        rw [hW3, Nat.zero_add, World.cell?_alloc_at _ _ _ _ rfl, ← e]
        simp
      clear o2 b2 b3 b13 RE1 Q1
      subst hW3
      obtain ⟨nz, hnz⟩ : ∃ nz, nz = y.z.length := ⟨_, rfl⟩
      have HNZ : Hid (nz = y.z.length) := hnz
      rw [← hnz] at O3 K3 R3 Q3 B3 ⊢
      clear hnz
      go_wp2_with (at_builtin; refine wpList_append_en rfl _ _ rfl w.heap.size _ L U rfl R3.out w2.heap.size 1 [y] (fun _ => .slice au nz cu) 1 0 rfl rfl K3.out (fun _ _ => rfl) (by rw [HJ.out]; simp; omega) B3.out.size (Hid.out ?_))
      unfold Hid
      intro v4 w4 r4 g4
      have B4 : Hid (Below w.heap.size w w4) := B3.out.grown g4 B3.out.size (own_base R3.out)
      have O4 : Hid (OE w4 w.heap.size v4 ((l.take (j + 1)).map std)) := by
        unfold Hid
        rw [HT.out]
        have hz := HNZ.out
        subst hz
        exact OE.step Q3.out R3.out O3.out HX.out r4 g4
      clear r4 g4 R3 Q3 O3 K3
      go_wp2
      go_roundw
      case rel => exact ⟨j + 1, by omega, by go_num, O4.out, B4.out⟩
      case measure => simp [intOf]; omega
    · obtain rfl : j = n := by omega
      have HR : Hid (OE wr w.heap.size (.slice va j vc) (l.map std)) := by
        have h1 := HO.out
        have h2 : l.take j = l := by rw [HN.out, List.take_length]
        rw [h2] at h1
        exact h1
      go_wp2
      go_ret
      exact ⟨_, rfl, HR.out, HB.out⟩
end Go.Proofs.YtdnbiibijoggoaaGreatDoor
