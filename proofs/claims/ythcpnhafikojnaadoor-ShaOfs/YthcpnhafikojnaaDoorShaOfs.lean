/-
  ShaOfs answers true for all bytes and every cut, and nothing that was there is changed; the two package-level tables start as the program's text lays them (the card ties them).
-/
import Derived.Test.YthcpnhafikojnaaDoorFrame
import Derived.Test.YthcpnhafikojnaaDoorROf
import Derived.Deep.RegionHeld3
namespace Go.Proofs.YthcpnhafikojnaaDoor.shaOfs
open Go.ChangeShapes Go.WideShapes Go.ChangeAt Go.RowKit Go.Deep Go.ChangeMaps

theorem parts2 {w : World} {v1 v2 : Value} {x1 x2 : List Int} (s1 : Sl w v1 x1) (s2 : Sl w v2 x2) : Parts (w.alloc (.cells #[v1, v2] 22)) (some ⟨w.heap.size, 0, none⟩) [x1, x2] := by
  have hb : Below w.heap.size w (w.alloc (.cells #[v1, v2] 22)) := (Below.refl _ _).alloc (Nat.le_refl _) _
  have hr := heap_alloc_new w (.cells #[v1, v2] 22)
  refine ⟨by simp, .inr ⟨w.heap.size, 0, rfl, fun i hi => ?_⟩⟩
  match i, hi with
  | 0, _ => exact ⟨v1, cell_of_row _ _ 0 _ _ _ hr, s1.kept hb⟩
  | 1, _ => exact ⟨v2, cell_of_row _ _ 1 _ _ _ hr, s2.kept hb⟩

theorem of2 (v1 v2 : Value) (x1 x2 : List Int) (w : World) (ht : Tab w) (s1 : Sl w v1 x1) (s2 : Sl w v2 x2) (hbig : x1.length + x2.length ≤ 100000) :
    Calls Tryd.prog 9 #[.slice (some ⟨w.heap.size, 0, none⟩) 2 2] (w.alloc (.cells #[v1, v2] 22)) fun e w' => e = .returned (.agg (u8s (Pl.sha (x1 ++ x2)))) ∧ Below w.heap.size w w' := by
  have hb : Below w.heap.size w (w.alloc (.cells #[v1, v2] 22)) := (Below.refl _ _).alloc (Nat.le_refl _) _
  have hf : [x1, x2].flatten = x1 ++ x2 := by simp
  have := of_any (some ⟨w.heap.size, 0, none⟩) 2 [x1, x2] _ (ht.below hb ht.size) (parts2 s1 s2) (by rw [hf, List.length_append]; omega)
  rw [hf] at this
  refine this.mono ?_
  rintro e w' ⟨rfl, b⟩
  exact ⟨rfl, hb.trans (b.mono hb.size)⟩

theorem sl_strx {w : World} {v : Value} {xs : List Int} (sl : Sl w v xs) : ∃ a c, v = .slice a xs.length c ∧ ∀ W, Below w.heap.size w W → (convert 22 9 (.slice a xs.length c)).run Tryd.prog W = .ok (.string (strB xs)) W := by
  have h := fun W (hW : Below w.heap.size w W) => sl.kept hW
  obtain ⟨a, c, rfl, -⟩ := sl
  exact ⟨a, c, rfl, fun W hW => (h W hW).conv⟩

set_option maxHeartbeats 20000000 in
set_option maxRecDepth 100000 in
theorem walk (a : Option Addr) (len cap : Nat) (zs : List Int) (c : Int) (w : World) (hw : Tab w) (hb : Bytes w a len cap zs) (wc : (Lit.int .u16 c).wf = true) :
    Calls Tryd.prog 3 #[.slice a len cap, .int .u16 c] w fun e w' => e = .returned (.bool true) ∧ Below w.heap.size w w' := by
  have hp := hw.size
  have hc := bounds_u16 wc
  have hm : len ≤ 140737488351232 ∧ len ≤ cap ∧ zs.length = cap ∧ cap ≤ 140737488351232 := ⟨by have := hb.2.2; omega, hb.2.2.1, hb.2.1, hb.2.2.2.1⟩
  obtain ⟨hm1, hm2, hm3, hm4⟩ := hm
  clear wc
  by_cases hl : 300 < len
  · clear hb
    go_enter Tryd.func3, Tryd.ntmps3
    go_wp2_with (go_at_call 8; refine (awake_any _ hw).mono ?_; rintro e w' ⟨rfl, hbel⟩)
    go_ret
    exact ⟨rfl, by assumption⟩
  · have hs := hb.sl
    have hlx : (zs.take len).length = len := by rw [List.length_take]; omega
    generalize zs.take len = xs at *
    obtain ⟨k, hk⟩ : ∃ k : Nat, c % ((len : Int) + 1) = k := ⟨(c % ((len : Int) + 1)).toNat, by have := Int.emod_nonneg c (show (len : Int) + 1 ≠ 0 by omega); omega⟩
    have hkl : k ≤ len := by have := Int.emod_lt_of_pos c (show 0 < (len : Int) + 1 by omega); omega
    have tm : Int.tmod c ((len : Int) + 1) = (k : Int) := by rw [Int.tmod_eq_emod_of_nonneg (by omega)]; exact hk
    have cw : IntKind.i64.wrap c = c := by simp [IntKind.wrap, IntKind.bits, IntKind.signed]; omega
    have kw : IntKind.i64.wrap (k : Int) = (k : Int) := by simp [IntKind.wrap, IntKind.bits, IntKind.signed]; omega
    have nz : ¬ (len : Int) + 1 = 0 := by omega
    have own0 := own_empty w
    have b0 : Below w.heap.size w (w.alloc (.cells #[] 5)) := (Below.refl _ _).alloc (Nat.le_refl _) _
    have sl0 := hs.kept b0
    have HB : Hid (∀ i, 0 ≤ xs.getD i 0 ∧ xs.getD i 0 < 256) := hs.bytes
    have HS : Hid (∀ W, Below w.heap.size w W → Sl W (.slice a len cap) xs) := fun W h => hs.kept h
    have HW : Hid (∀ W, Below w.heap.size w W → Tab W) := fun W h => hw.below h hp
    have HLX : Hid (xs.length = len) := hlx
    have HE : Hid (∀ (A : List Int) (w' : World), (Op.equalIn 10000 26 (.agg (u8s (Pl.sha A))) (.agg (u8s (Pl.sha A)))).run Tryd.prog w' = .ok true w') := fun A w' => by
      rw [eq_u8s (Pl.sha A) (Pl.sha A) (sha_len _) (sha_len _) w']
      simp
    clear hs hb hw hp hm3 hk
    go_enter Tryd.func3, Tryd.ntmps3
    go_wp2_with (at_builtin; refine wpList_append_sl rfl _ _ rfl w.heap.size _ _ _ rfl own0 _ xs rfl sl0 (by rw [HLX.out]; omega) (by simp) (Hid.out ?_))
    unfold Hid
    intro v1 w1 own1 hgrow
    have B1 : Below w.heap.size w w1 := b0.grown hgrow (by simp) (own_base own0)
    have own1' : w1.ownsRow w.heap.size 5 1 v1 xs.length (xs.map (Value.int .u8)) := by rw [HLX.out]; exact own1
    have HFO : Hid (∀ ad n cp, v1 = .slice (some ad) n cp → ∃ g, ad = ⟨g, 0, none⟩) := fun ad n cp e => by
      rcases own1'.2 with ⟨hv, _⟩ | ⟨g', cap', cur', hv, _⟩
      · rw [hv] at e; cases e
      · rw [hv] at e; cases e; exact ⟨g', rfl⟩
    have sl1 := sl_owned own1' HB.out
    have HSL1 : Hid (Sl w1 v1 xs) := sl1
    have HB1 : Hid (Below w.heap.size w w1) := B1
    clear own0 own1 own1' hgrow b0 sl0 hlx B1
    obtain ⟨ai, ci, rfl, ki⟩ := sl_strx sl1
    obtain ⟨a', ci', e', i1, i2, i3, i4⟩ := sl1
    cases e'
    rw [HLX.out] at ki HSL1 i1 i4
    have KI : Hid (∀ W, Below w1.heap.size w1 W → (convert 22 9 (.slice ai len ci)).run Tryd.prog W = .ok (.string (strB xs)) W) := ki
    have KB : Hid (∀ W, Below w.heap.size w W → (convert 22 9 (.slice a len cap)).run Tryd.prog W = .ok (.string (strB xs)) W) := fun W h => (HS.out W h).conv
    generalize strB xs = SX at *
    rw [HLX.out]
    have SA : Hid (Sl w1 (.slice ai k ci) (xs.take k)) := HSL1.out.take k hkl
    have hcm : ci ≤ 9223372036854775807 := by unfold maxLen at i2; omega
    have g1 : (k : Int) ≤ (len : Int) := by omega
    have g2 : (k : Int) ≤ (ci : Int) := by omega
    have g3 : k ≤ ci := by omega
    clear ki i2
    by_cases hck : ci = k
    · obtain rfl : k = ci := hck.symm
      have hlk : len = k := by omega
      have SB : Hid (Sl w1 (.slice ai (len - k) 0) (xs.drop k)) := by
        unfold Hid
        rw [List.drop_of_length_le (by rw [HLX.out]; omega), show len - k = 0 by omega]
        exact ⟨ai, 0, rfl, by simp, by simp [maxLen], fun _ => rfl, .inl rfl⟩
      clear i1 i3 i4 hlk HFO
      have EQ := HE.out xs
      have BD : Below w1.heap.size w1 w1.drew := (Below.refl _ w1).drew
      have B0 : Below w.heap.size w w1.drew := HB1.out.drew
      have c9 : Calls Tryd.prog 9 #[.slice (some ⟨w1.heap.size, 0, none⟩) 2 2] (w1.alloc (.cells #[.slice ai k k, .slice ai (len - k) 0] 22)).drew fun e w' => e = .returned (.agg (u8s (Pl.sha (xs.take k ++ xs.drop k)))) ∧ Below w1.heap.size w1 w' := by
        refine (of2 (.slice ai k k) (.slice ai (len - k) 0) (xs.take k) (xs.drop k) w1.drew (HW.out _ B0) (SA.out.kept BD) (SB.out.kept BD) (by rw [List.length_take, List.length_drop, HLX.out]; omega)).mono ?_
        rintro e w' ⟨rfl, hb'⟩
        exact ⟨rfl, BD.trans hb'⟩
      rw [List.take_append_drop] at c9
      have C10 : Hid (∀ W, Below w1.heap.size w1 W → Calls Tryd.prog 10 #[.slice a len cap] W fun e w' => e = .returned (.agg (u8s (Pl.sha xs))) ∧ Below W.heap.size W w') := fun W hW => rof_any _ xs W (HS.out W (HB1.out.trans (hW.mono HB1.out.size))) (by rw [HLX.out]; omega)
      have ki0 := KI.out _ BD
      have kb0 := KB.out _ B0
      have kiA : (convert 22 9 (.slice ai len k)).run Tryd.prog (w1.alloc (.cells #[.slice ai k k, .slice ai (len - k) 0] 22)).drew = .ok (.string SX) (w1.alloc (.cells #[.slice ai k k, .slice ai (len - k) 0] 22)).drew := KI.out _ (((Below.refl _ _).alloc (Nat.le_refl _) _).drew)
      have kbA : (convert 22 9 (.slice a len cap)).run Tryd.prog (w1.alloc (.cells #[.slice ai k k, .slice ai (len - k) 0] 22)).drew = .ok (.string SX) (w1.alloc (.cells #[.slice ai k k, .slice ai (len - k) 0] 22)).drew := KB.out _ ((HB1.out.alloc HB1.out.size _).drew)
      clear B0 BD SA SB
      generalize u8s (Pl.sha xs) = U at *
      go_wp2
      go_region_held (fun w' => (convert 22 9 (.slice ai len k)).run Tryd.prog w' = .ok (.string SX) w' ∧ (convert 22 9 (.slice a len cap)).run Tryd.prog w' = .ok (.string SX) w') (first | exact ⟨ki0, kb0⟩ | exact ⟨kiA, kbA⟩ | exact ⟨ki6, kb6⟩ | exact ⟨ki7, kb7⟩ | exact ⟨ki8, kb8⟩) (first
        | (go_at_call 9; refine c9.mono ?_; rintro e w6 ⟨rfl, D6⟩; have ki6 := KI.out _ D6; have kb6 := KB.out _ (HB1.out.trans (D6.mono HB1.out.size)))
        | (go_at_call 10; refine (C10.out _ D6).mono ?_; rintro e w7 ⟨rfl, bel7⟩; have D7 : Below w1.heap.size w1 w7 := D6.trans (bel7.mono D6.size); have ki7 := KI.out _ D7; have kb7 := KB.out _ (HB1.out.trans (D7.mono HB1.out.size)))
        | (go_at_call 8; refine (awake_any _ (HW.out _ (HB1.out.trans (D7.mono HB1.out.size)))).mono ?_; rintro e w8 ⟨rfl, bel8⟩; have D8 : Below w1.heap.size w1 w8 := D7.trans (bel8.mono D7.size); have B8 := HB1.out.trans (D8.mono HB1.out.size); have ki8 := KI.out _ D8; have kb8 := KB.out _ B8))
      all_goals
        go_wp2
        go_ret
        exact ⟨rfl, B8⟩
    · obtain ⟨bb, rfl⟩ : ∃ bb, ai = some ⟨bb, 0, none⟩ := by
        cases ai with
        | none => have := i3 rfl; omega
        | some y => obtain ⟨g', rfl⟩ := HFO.out y _ _ rfl; exact ⟨g', rfl⟩
      have hck2 : ¬ k = ci := by omega
      have SB : Hid (Sl w1 (.slice (some ⟨bb, k, none⟩) (len - k) (ci - k)) (xs.drop k)) := by
        have := HSL1.out.drop k hkl
        rwa [Nat.zero_add] at this
      clear i1 i3 i4 HFO
      have EQ := HE.out xs
      have BD : Below w1.heap.size w1 w1.drew := (Below.refl _ w1).drew
      have B0 : Below w.heap.size w w1.drew := HB1.out.drew
      have c9 : Calls Tryd.prog 9 #[.slice (some ⟨w1.heap.size, 0, none⟩) 2 2] (w1.alloc (.cells #[.slice (some ⟨bb, 0, none⟩) k ci, .slice (some ⟨bb, k, none⟩) (len - k) (ci - k)] 22)).drew fun e w' => e = .returned (.agg (u8s (Pl.sha (xs.take k ++ xs.drop k)))) ∧ Below w1.heap.size w1 w' := by
        refine (of2 (.slice (some ⟨bb, 0, none⟩) k ci) (.slice (some ⟨bb, k, none⟩) (len - k) (ci - k)) (xs.take k) (xs.drop k) w1.drew (HW.out _ B0) (SA.out.kept BD) (SB.out.kept BD) (by rw [List.length_take, List.length_drop, HLX.out]; omega)).mono ?_
        rintro e w' ⟨rfl, hb'⟩
        exact ⟨rfl, BD.trans hb'⟩
      rw [List.take_append_drop] at c9
      have C10 : Hid (∀ W, Below w1.heap.size w1 W → Calls Tryd.prog 10 #[.slice a len cap] W fun e w' => e = .returned (.agg (u8s (Pl.sha xs))) ∧ Below W.heap.size W w') := fun W hW => rof_any _ xs W (HS.out W (HB1.out.trans (hW.mono HB1.out.size))) (by rw [HLX.out]; omega)
      have ki0 := KI.out _ BD
      have kb0 := KB.out _ B0
      have kiA : (convert 22 9 (.slice (some ⟨bb, 0, none⟩) len ci)).run Tryd.prog (w1.alloc (.cells #[.slice (some ⟨bb, 0, none⟩) k ci, .slice (some ⟨bb, k, none⟩) (len - k) (ci - k)] 22)).drew = .ok (.string SX) (w1.alloc (.cells #[.slice (some ⟨bb, 0, none⟩) k ci, .slice (some ⟨bb, k, none⟩) (len - k) (ci - k)] 22)).drew := KI.out _ (((Below.refl _ _).alloc (Nat.le_refl _) _).drew)
      have kbA : (convert 22 9 (.slice a len cap)).run Tryd.prog (w1.alloc (.cells #[.slice (some ⟨bb, 0, none⟩) k ci, .slice (some ⟨bb, k, none⟩) (len - k) (ci - k)] 22)).drew = .ok (.string SX) (w1.alloc (.cells #[.slice (some ⟨bb, 0, none⟩) k ci, .slice (some ⟨bb, k, none⟩) (len - k) (ci - k)] 22)).drew := KB.out _ ((HB1.out.alloc HB1.out.size _).drew)
      clear B0 BD SA SB
      generalize u8s (Pl.sha xs) = U at *
      go_wp2
      go_region_held (fun w' => (convert 22 9 (.slice (some ⟨bb, 0, none⟩) len ci)).run Tryd.prog w' = .ok (.string SX) w' ∧ (convert 22 9 (.slice a len cap)).run Tryd.prog w' = .ok (.string SX) w') (first | exact ⟨ki0, kb0⟩ | exact ⟨kiA, kbA⟩ | exact ⟨ki6, kb6⟩ | exact ⟨ki7, kb7⟩ | exact ⟨ki8, kb8⟩) (first
        | (go_at_call 9; refine c9.mono ?_; rintro e w6 ⟨rfl, D6⟩; have ki6 := KI.out _ D6; have kb6 := KB.out _ (HB1.out.trans (D6.mono HB1.out.size)))
        | (go_at_call 10; refine (C10.out _ D6).mono ?_; rintro e w7 ⟨rfl, bel7⟩; have D7 : Below w1.heap.size w1 w7 := D6.trans (bel7.mono D6.size); have ki7 := KI.out _ D7; have kb7 := KB.out _ (HB1.out.trans (D7.mono HB1.out.size)))
        | (go_at_call 8; refine (awake_any _ (HW.out _ (HB1.out.trans (D7.mono HB1.out.size)))).mono ?_; rintro e w8 ⟨rfl, bel8⟩; have D8 : Below w1.heap.size w1 w8 := D7.trans (bel8.mono D7.size); have B8 := HB1.out.trans (D8.mono HB1.out.size); have ki8 := KI.out _ D8; have kb8 := KB.out _ B8))
      all_goals
        go_wp2
        go_ret
        exact ⟨rfl, B8⟩

theorem contract (H : Type) (enc : TypeId × Value → H) (W : World) (base : Nat) (args : Array Value) (ds gs : List (DataW H)) (before : List MemPlace)
    (hval : ∀ (j : Nat) t v, Tryd.f3.params[j]? = some t → args[j]? = some v → Value.okWide Tryd.prog W .any base t v)
    (hW : DataW.Whole enc Tryd.prog Tryd.f3.params.toList Rows.shaOfsSpec.vars false W args.toList ds gs before) (hL : laidMetH Tryd.prog Rows.shaOfsRow.laid W)
    (hsz0 : (DataW.weightsEach Tryd.prog (Tryd.f3.params.toList ++ Rows.shaOfsSpec.plain.varTypes Tryd.prog) (ds ++ gs)).all (· ≤ reachBytes) = true) :
    Calls Tryd.prog 3 args W fun e W' => ∃ v, e = .returned v ∧ Rows.shaOfsSpec.post enc Tryd.prog Tryd.f3 false true false false W args v W' := by
  have hW' := hW
  obtain ⟨p, q, hA0, hV, rfl, hfz, hnd⟩ := hW
  have hA : DataW.TrodAll enc Tryd.prog W 0 (fun _ => true) true Tryd.f3.params.toList args.toList ds p := hA0
  rw [Tryd.params3] at hA hval hsz0
  obtain ⟨v0, vs0, d0, ds0, p0, q0, hargs, rfl, rfl, h0, r0⟩ := trodAll_cons hA
  obtain ⟨v1, vs1, d1, ds1, p1, q1, rfl, rfl, rfl, h1, r1⟩ := trodAll_cons r0
  obtain ⟨rfl, rfl, rfl⟩ := trodAll_nil r1
  obtain rfl : args = #[v0, v1] := by cases args; simp_all
  obtain ⟨rfl, rfl⟩ := trodVars_none hV
  have hsz : (DataW.weightsEach Tryd.prog [22, 23] [d0, d1]).all (· ≤ reachBytes) = true := hsz0
  have k0 := h0
  have lt0 : ∀ x ∈ p0, x.block < W.heap.size := by obtain ⟨m, hm⟩ := k0; exact DataW.trod_lt m _ _ _ hm
  obtain ⟨a0, len0, cap0, z0, rfl, w0⟩ := bytes_open 0 (hval 0 22 v0 rfl rfl) h0 hsz rfl rfl
  obtain ⟨a1, rfl, rfl, rfl, w1⟩ := open_int Tryd.underlying23 (hval 1 23 v1 rfl rfl) h1
  clear hA0
  refine (walk a0 len0 cap0 z0 a1 W (tab_of hL) w0 w1).mono fun e W' ⟨he, bel⟩ => ?_
  subst he
  exact ⟨_, rfl, _, _, _, [], _, [], hW', trodAll_mk1 (shut_bool Tryd.underlying4 _), (trodAll_cons_mk (Below.trod laidOut (by kernel_rfl) (of_decide_eq_true (by kernel_rfl)) k0 bel lt0) (trodAll_cons_mk (shut_int Tryd.underlying23 w1) trodAll_mk0)), rfl, bel.frame _, fun h => by cases h⟩

theorem laid_met (os : Os) : laidMet Tryd.prog Rows.shaOfsRow.laid (({ World.holding Tryd.prog os ⟨#[], #[], []⟩ with heap := (((World.holding Tryd.prog os ⟨#[], #[], []⟩).heap.modify 0 (fun
      | .cells _ t frozen => .cells #[.int .u32 1779033703, .int .u32 3144134277, .int .u32 1013904242, .int .u32 2773480762, .int .u32 1359893119, .int .u32 2600822924, .int .u32 528734635, .int .u32 1541459225] t frozen
      | o => o)).modify 1 (fun
      | .cells _ t frozen => .cells #[.int .u32 1116352408, .int .u32 1899447441, .int .u32 3049323471, .int .u32 3921009573, .int .u32 961987163, .int .u32 1508970993, .int .u32 2453635748, .int .u32 2870763221, .int .u32 3624381080, .int .u32 310598401, .int .u32 607225278, .int .u32 1426881987, .int .u32 1925078388, .int .u32 2162078206, .int .u32 2614888103, .int .u32 3248222580, .int .u32 3835390401, .int .u32 4022224774, .int .u32 264347078, .int .u32 604807628, .int .u32 770255983, .int .u32 1249150122, .int .u32 1555081692, .int .u32 1996064986, .int .u32 2554220882, .int .u32 2821834349, .int .u32 2952996808, .int .u32 3210313671, .int .u32 3336571891, .int .u32 3584528711, .int .u32 113926993, .int .u32 338241895, .int .u32 666307205, .int .u32 773529912, .int .u32 1294757372, .int .u32 1396182291, .int .u32 1695183700, .int .u32 1986661051, .int .u32 2177026350, .int .u32 2456956037, .int .u32 2730485921, .int .u32 2820302411, .int .u32 3259730800, .int .u32 3345764771, .int .u32 3516065817, .int .u32 3600352804, .int .u32 4094571909, .int .u32 275423344, .int .u32 430227734, .int .u32 506948616, .int .u32 659060556, .int .u32 883997877, .int .u32 958139571, .int .u32 1322822218, .int .u32 1537002063, .int .u32 1747873779, .int .u32 1955562222, .int .u32 2024104815, .int .u32 2227730452, .int .u32 2361852424, .int .u32 2428436474, .int .u32 2756734187, .int .u32 3204031479, .int .u32 3329325298] t frozen
      | o => o)) } : World).forCall (fun _ _ => 0) ⟨#[], #[.slice none 0 0, .int .u16 0], []⟩).memory :=
  laidMet_of_run' 8 (by kernel_rfl) (by kernel_rfl)
theorem reads (os : Os) {H : Type} (enc : TypeId × Value → H) : ∃ places, DataW.whole enc Tryd.prog (({ World.holding Tryd.prog os ⟨#[], #[], []⟩ with heap := (((World.holding Tryd.prog os ⟨#[], #[], []⟩).heap.modify 0 (fun
      | .cells _ t frozen => .cells #[.int .u32 1779033703, .int .u32 3144134277, .int .u32 1013904242, .int .u32 2773480762, .int .u32 1359893119, .int .u32 2600822924, .int .u32 528734635, .int .u32 1541459225] t frozen
      | o => o)).modify 1 (fun
      | .cells _ t frozen => .cells #[.int .u32 1116352408, .int .u32 1899447441, .int .u32 3049323471, .int .u32 3921009573, .int .u32 961987163, .int .u32 1508970993, .int .u32 2453635748, .int .u32 2870763221, .int .u32 3624381080, .int .u32 310598401, .int .u32 607225278, .int .u32 1426881987, .int .u32 1925078388, .int .u32 2162078206, .int .u32 2614888103, .int .u32 3248222580, .int .u32 3835390401, .int .u32 4022224774, .int .u32 264347078, .int .u32 604807628, .int .u32 770255983, .int .u32 1249150122, .int .u32 1555081692, .int .u32 1996064986, .int .u32 2554220882, .int .u32 2821834349, .int .u32 2952996808, .int .u32 3210313671, .int .u32 3336571891, .int .u32 3584528711, .int .u32 113926993, .int .u32 338241895, .int .u32 666307205, .int .u32 773529912, .int .u32 1294757372, .int .u32 1396182291, .int .u32 1695183700, .int .u32 1986661051, .int .u32 2177026350, .int .u32 2456956037, .int .u32 2730485921, .int .u32 2820302411, .int .u32 3259730800, .int .u32 3345764771, .int .u32 3516065817, .int .u32 3600352804, .int .u32 4094571909, .int .u32 275423344, .int .u32 430227734, .int .u32 506948616, .int .u32 659060556, .int .u32 883997877, .int .u32 958139571, .int .u32 1322822218, .int .u32 1537002063, .int .u32 1747873779, .int .u32 1955562222, .int .u32 2024104815, .int .u32 2227730452, .int .u32 2361852424, .int .u32 2428436474, .int .u32 2756734187, .int .u32 3204031479, .int .u32 3329325298] t frozen
      | o => o)) } : World).forCall (fun _ _ => 0) ⟨#[], #[.slice none 0 0, .int .u16 0], []⟩).memory Tryd.f3.params.toList Rows.shaOfsSpec.vars false #[Value.slice none 0 0, .int .u16 0].toList 8 = some ([.nil, .lit (.int .u16 0)], [], places) :=
  ⟨[], by kernel_rfl⟩

set_option maxRecDepth 100000 in
theorem lifted (os : Os) (started : os.Started) (H : Type) (enc : TypeId × Value → H) (F : Stop.Interp) :
    ReturnsInHanded {} Tryd.checked os 3 .any ((OpenSpec.ofChange Rows.shaOfsSpec).preRow enc Tryd.prog Tryd.f3 Rows.shaOfsRow.domain false Rows.shaOfsRow.laid) (((OpenSpec.ofChange Rows.shaOfsSpec).at F).post enc Tryd.prog Tryd.f3 false true false false) := by
  obtain ⟨places, hx⟩ := reads os enc
  refine returnsInHanded_of_row (C := Tryd.checked) (s := OpenSpec.ofChange Rows.shaOfsSpec) own started (by kernel_rfl) Tryd.func3
    (witness_row_at (enc := enc) (C := Tryd.checked) false ({ World.holding Tryd.prog os ⟨#[], #[], []⟩ with heap := (((World.holding Tryd.prog os ⟨#[], #[], []⟩).heap.modify 0 (fun
      | .cells _ t frozen => .cells #[.int .u32 1779033703, .int .u32 3144134277, .int .u32 1013904242, .int .u32 2773480762, .int .u32 1359893119, .int .u32 2600822924, .int .u32 528734635, .int .u32 1541459225] t frozen
      | o => o)).modify 1 (fun
      | .cells _ t frozen => .cells #[.int .u32 1116352408, .int .u32 1899447441, .int .u32 3049323471, .int .u32 3921009573, .int .u32 961987163, .int .u32 1508970993, .int .u32 2453635748, .int .u32 2870763221, .int .u32 3624381080, .int .u32 310598401, .int .u32 607225278, .int .u32 1426881987, .int .u32 1925078388, .int .u32 2162078206, .int .u32 2614888103, .int .u32 3248222580, .int .u32 3835390401, .int .u32 4022224774, .int .u32 264347078, .int .u32 604807628, .int .u32 770255983, .int .u32 1249150122, .int .u32 1555081692, .int .u32 1996064986, .int .u32 2554220882, .int .u32 2821834349, .int .u32 2952996808, .int .u32 3210313671, .int .u32 3336571891, .int .u32 3584528711, .int .u32 113926993, .int .u32 338241895, .int .u32 666307205, .int .u32 773529912, .int .u32 1294757372, .int .u32 1396182291, .int .u32 1695183700, .int .u32 1986661051, .int .u32 2177026350, .int .u32 2456956037, .int .u32 2730485921, .int .u32 2820302411, .int .u32 3259730800, .int .u32 3345764771, .int .u32 3516065817, .int .u32 3600352804, .int .u32 4094571909, .int .u32 275423344, .int .u32 430227734, .int .u32 506948616, .int .u32 659060556, .int .u32 883997877, .int .u32 958139571, .int .u32 1322822218, .int .u32 1537002063, .int .u32 1747873779, .int .u32 1955562222, .int .u32 2024104815, .int .u32 2227730452, .int .u32 2361852424, .int .u32 2428436474, .int .u32 2756734187, .int .u32 3204031479, .int .u32 3329325298] t frozen
      | o => o)) } : World) #[.slice none 0 0, .int .u16 0] rfl (by kernel_rfl) (by kernel_rfl) (by kernel_rfl)
      (OpenSpec.preRow_of_cond 8 hx (by kernel_rfl) (fun k hk => by cases hk) (by kernel_rfl) (laid_met os))) ?_
  intro W base args ds gs before hval hW _ _ hsz hL _ _
  exact contract H enc W base args ds gs before hval hW hL hsz

theorem said : Rows.ShaOfsSaid :=
  OpenClaim.holds_of_cond 3 Tryd.f3 rfl rfl rfl rfl rfl rfl rfl ⟨rfl, rfl, rfl, rfl, rfl⟩ rfl rfl rfl rfl rfl (by kernel_rfl) Tryd.func3 (by kernel_rfl)
    (of_decide_eq_true (by kernel_rfl)) (by unfold Func.isWrapper; first | (rw [if_pos (by decide +kernel)]; kernel_rfl) | (rw [if_neg (by decide +kernel)]; exact ⟨rfl, rfl⟩))
    (fun os started H enc _ F => by rw [OpenClaim.pre_eq_preRow]; exact lifted os started H enc F)

theorem plain (f : FuncId) (fn : Func) (hf : Tryd.pinned.checked.prog.funcNamed "sumpter/sumpterlaw04.ShaOfs" = some f) (hfn : Tryd.pinned.checked.prog.funcs[f]? = some fn) :
    false = Tryd.pinned.checked.prog.looks [] ∧ ∀ (j : Nat) t, fn.params[j]? = some t → Tryd.pinned.checked.prog.wantsStandIn t = false := by
  obtain rfl : f = 3 := Option.some.inj ((show Tryd.prog.funcNamed "sumpter/sumpterlaw04.ShaOfs" = some 3 by kernel_rfl).symm.trans hf) |>.symm
  obtain rfl : fn = Tryd.f3 := (Option.some.inj (Tryd.func3.symm.trans hfn)).symm
  refine ⟨by kernel_rfl, fun j t ht => ?_⟩
  rw [Tryd.params3] at ht
  have hm : t ∈ [22, 23] := by simpa using Array.mem_of_getElem? ht
  have hall : ([22, 23].all fun u => !Tryd.prog.wantsStandIn u) = true := by kernel_rfl
  exact (show Tryd.prog.wantsStandIn t = false by simpa using List.all_eq_true.1 hall t hm)
end Go.Proofs.YthcpnhafikojnaaDoor.shaOfs

namespace Go.Proofs.YthcpnhafikojnaaDoor
/-- The card of ShaOfs. -/
theorem shaOfs_card : Rows.ShaOfsCardSaid :=
  Claim7.holds_tied_plain_at .later [] _ _ _ _ shaOfs.said (fun _ h => by cases h) (by kernel_rfl) (fun _ h => by cases h) shaOfs_row_tie rfl ⟨rfl, rfl⟩ (by kernel_rfl) rfl shaOfs.plain (by kernel_rfl)
#print axioms shaOfs_card
end Go.Proofs.YthcpnhafikojnaaDoor
