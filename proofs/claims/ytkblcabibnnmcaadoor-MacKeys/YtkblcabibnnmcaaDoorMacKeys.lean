/-
  MacKeys answers true for every key and all bytes, and nothing that was there is changed; the three package-level tables start as the program's text lays them (the card ties them).
-/
import Derived.Test.YtkblcabibnnmcaaDoorLw
namespace Go.Proofs.YtkblcabibnnmcaaDoor.macKeys
open Go.ChangeShapes Go.WideShapes Go.ChangeAt Go.RowKit Go.Deep Go.ChangeMaps

set_option maxHeartbeats 4000000 in
set_option maxRecDepth 100000 in
theorem walk (a : Option Addr) (len cap : Nat) (zs : List Int) (b : Option Addr) (len2 cap2 : Nat) (ys : List Int) (w : World) (hw : Tabs w) (hk : Bytes w a len cap zs) (hb : Bytes w b len2 cap2 ys) :
    Calls Tryd.prog 7 #[.slice a len cap, .slice b len2 cap2] w fun e w' => e = .returned (.bool true) ∧ Below w.heap.size w w' := by
  have hm1 : len ≤ 140737488351232 := by have := hk.2.2; omega
  have hm2 : len2 ≤ 140737488351232 := by have := hb.2.2; omega
  have cA := fun W (h : Below w.heap.size w W) => awake_any W (hw.kept h)
  have CA : Hid (∀ W, Below w.heap.size w W → Calls Tryd.prog 8 #[] W fun r w' => r = .returned (.bool true) ∧ Below W.heap.size W w') := cA
  clear cA
  by_cases h1 : 100 < len
  · clear hk hb
    have g1 : (len : Int) > 100 := by omega
    go_enter Tryd.func7, Tryd.ntmps7
    go_wp2_with (go_at_call 8; refine (CA.out _ (Below.refl _ _)).mono ?_; rintro e w' ⟨rfl, hbel⟩)
    go_ret
    exact ⟨rfl, hbel⟩
  · by_cases h2 : 200 < len2
    · clear hk hb
      have g1 : ¬ (len : Int) > 100 := by omega
      have g2 : (len2 : Int) > 200 := by omega
      go_enter Tryd.func7, Tryd.ntmps7
      go_wp2_with (go_at_call 8; refine (CA.out _ (Below.refl _ _)).mono ?_; rintro e w' ⟨rfl, hbel⟩)
      go_ret
      exact ⟨rfl, hbel⟩
    · have g1 : ¬ (len : Int) > 100 := by omega
      have g2 : ¬ (len2 : Int) > 200 := by omega
      have sk := hk.sl
      have sb := hb.sl
      have hlx : (zs.take len).length = len := by rw [List.length_take]; have := hk.2.1; have := hk.2.2.1; omega
      have hly : (ys.take len2).length = len2 := by rw [List.length_take]; have := hb.2.1; have := hb.2.2.1; omega
      generalize zs.take len = K at *
      generalize ys.take len2 = X at *
      have HLK : Hid (K.length = len) := hlx
      have HLX : Hid (X.length = len2) := hly
      have HK : Hid (∀ W, Below w.heap.size w W → Sl W (.slice a len cap) K) := fun W h => sk.kept h
      have HX : Hid (∀ W, Below w.heap.size w W → Sl W (.slice b len2 cap2) X) := fun W h => sb.kept h
      have HT : Hid (∀ W, Below w.heap.size w W → Tab W) := fun W h => (hw.kept h).1
      have HKB : Hid (Pl.Byt K) := sk.bytes
      clear hk hb hw sb hlx hly
      by_cases h3 : len < 64
      · have g3 : (len : Int) < 64 := by omega
        have HE : Hid (hmac (K ++ [0]) X = hmac K X) := hmac_nought K X (by rw [HLK.out]; exact h3)
        have EQ' : Hid (∀ W, (binOp BinOp.eql 26 (.agg (u8s (hmac K X))) (.agg (u8s (hmac K X)))).run Tryd.prog W = .ok (.bool true) W) := fun W => eqb_same (hmac K X) (hmac_len _ _) W
        have HC1 : Hid (∀ W v3, Below w.heap.size w W → Sl W v3 (K ++ [0]) → Calls Tryd.prog 9 #[v3, .slice (some ⟨W.heap.size, 0, none⟩) 1 1] (W.alloc (.cells #[.slice b len2 cap2] 22)) fun e w' => e = .returned (.agg (u8s (hmac K X))) ∧ Below W.heap.size W w') := fun W v3 hW s3 => by
          have := mof1 v3 _ (K ++ [0]) X W (HT.out _ hW) s3 (HX.out _ hW) (by rw [List.length_append, HLK.out]; simp; omega) (by rw [HLX.out]; omega)
          rwa [HE.out] at this
        have HC2 : Hid (∀ W, Below w.heap.size w W → Calls Tryd.prog 9 #[.slice a len cap, .slice (some ⟨W.heap.size, 0, none⟩) 1 1] (W.alloc (.cells #[.slice b len2 cap2] 22)) fun e w' => e = .returned (.agg (u8s (hmac K X))) ∧ Below W.heap.size W w') := fun W hW =>
          mof1 _ _ K X W (HT.out _ hW) (HK.out _ hW) (HX.out _ hW) (by rw [HLK.out]; omega) (by rw [HLX.out]; omega)
        generalize u8s (hmac K X) = U at *
        have own0 := own_none w
        have b0 : Below w.heap.size w (w.alloc (.cells #[] 5)) := al_below _ _
        have sk0 := sk.kept b0
        clear sk
        go_enter Tryd.func7, Tryd.ntmps7
        go_wp2_with (at_builtin; refine wpList_append_sl rfl _ _ rfl w.heap.size _ _ _ rfl own0 _ K rfl sk0 (by rw [HLK.out]; omega) b0.size (Hid.out ?_))
        unfold Hid
        intro v1 w1 own1 hg1
        have B1 : Below w.heap.size w w1 := b0.grown hg1 b0.size (own_base own0)
        have O1 : Hid (w1.ownsRow w.heap.size 5 1 v1 K.length (K.map (Value.int .u8))) := own1
        have HB1 : Hid (Below w.heap.size w w1) := B1
        have b2 := al_below w1 (.cells #[.int .u8 0] 5)
        have own2 : (w1.alloc (.cells #[.int .u8 0] 5)).ownsRow w.heap.size 5 1 v1 K.length (K.map (Value.int .u8)) := own_on O1.out b2
        have s2 := sl_byte w1 0 (by omega) (by omega)
        have HB2 : Hid (Below w.heap.size w (w1.alloc (.cells #[.int .u8 0] 5))) := B1.trans (b2.mono B1.size)
        clear own0 own1 hg1 b0 sk0 b2 B1
        go_wp2_with (at_builtin; refine wpList_append_sl rfl _ _ rfl w.heap.size _ _ _ rfl own2 _ [0] rfl s2 (by rw [HLK.out]; simp; omega) HB2.out.size (Hid.out ?_))
        unfold Hid
        intro v3 w3 own3 hg3
        have B3 : Below w.heap.size w w3 := HB2.out.grown hg3 HB2.out.size (own_base own2)
        have HB3 : Hid (Below w.heap.size w w3) := B3
        have own4 : w3.ownsRow w.heap.size 5 1 v3 (K ++ [0]).length ((K ++ [0]).map (Value.int .u8)) := by rw [List.map_append, List.length_append]; exact own3
        have s3 : Sl w3 v3 (K ++ [0]) := sl_owned own4 (byt_app HKB.out (byteList _ rfl))
        have c4 := HC1.out w3 v3 B3 s3
        obtain ⟨a3, q3, rfl, -⟩ := s3
        clear own2 own3 own4 hg3 s2 B3
        generalize hl3 : (K ++ [0]).length = l3 at *
        clear hl3
        go_wp2_with fail
        refine c4.mono ?_
        rintro e w5 ⟨rfl, b5⟩
        have HB5 : Hid (Below w.heap.size w w5) := HB3.out.trans (b5.mono HB3.out.size)
        have c6 := HC2.out w5 HB5.out
        clear c4 b5
        go_wp2_with fail
        refine c6.mono ?_
        rintro e w7 ⟨rfl, b7⟩
        have HB7 : Hid (Below w.heap.size w w7) := HB5.out.trans (b7.mono HB5.out.size)
        clear c6 b7
        go_wp2_with (first | refine wpList_eql rfl _ _ _ rfl U U true rfl rfl (EQ'.out _) ?_ | (go_at_call 8; refine (CA.out _ HB7.out).mono ?_; rintro e w' ⟨rfl, hbel⟩))
        go_ret
        exact ⟨rfl, HB7.out.trans (hbel.mono HB7.out.size)⟩
      · have g3 : ¬ (len : Int) < 64 := by omega
        by_cases h4 : len = 64
        · have g4 : (len : Int) = 64 := by omega
          clear HK HX HLK sk
          go_enter Tryd.func7, Tryd.ntmps7
          go_wp2_with (go_at_call 8; refine (CA.out _ (Below.refl _ _)).mono ?_; rintro e w' ⟨rfl, hbel⟩)
          go_ret
          exact ⟨rfl, hbel⟩
        · have g4 : ¬ (len : Int) = 64 := by omega
          have g5 : ((len : Int) == 64) = false := by simp; omega
          have HE : Hid (hmac (Pl.sha K) X = hmac K X) := hmac_long K X (by rw [HLK.out]; omega)
          have EQ' : Hid (∀ W, (binOp BinOp.eql 26 (.agg (u8s (hmac K X))) (.agg (u8s (hmac K X)))).run Tryd.prog W = .ok (.bool true) W) := fun W => eqb_same (hmac K X) (hmac_len _ _) W
          have HC1 : Hid (∀ W v3, Below w.heap.size w W → Sl W v3 (Pl.sha K) → Calls Tryd.prog 9 #[v3, .slice (some ⟨W.heap.size, 0, none⟩) 1 1] (W.alloc (.cells #[.slice b len2 cap2] 22)) fun e w' => e = .returned (.agg (u8s (hmac K X))) ∧ Below W.heap.size W w') := fun W v3 hW s3 => by
            have := mof1 v3 _ (Pl.sha K) X W (HT.out _ hW) s3 (HX.out _ hW) (by rw [sha_len]; omega) (by rw [HLX.out]; omega)
            rwa [HE.out] at this
          have HC2 : Hid (∀ W, Below w.heap.size w W → Calls Tryd.prog 9 #[.slice a len cap, .slice (some ⟨W.heap.size, 0, none⟩) 1 1] (W.alloc (.cells #[.slice b len2 cap2] 22)) fun e w' => e = .returned (.agg (u8s (hmac K X))) ∧ Below W.heap.size W w') := fun W hW =>
            mof1 _ _ K X W (HT.out _ hW) (HK.out _ hW) (HX.out _ hW) (by rw [HLK.out]; omega) (by rw [HLX.out]; omega)
          generalize u8s (hmac K X) = U at *
          have HSB : Hid (Pl.Byt (Pl.sha K)) := sha_byt _
          have HSL : Hid ((Pl.sha K).length = 32) := sha_len _
          have HI : Hid ((Tryd.prog.info? 26).map (·.size) = some (u8s (Pl.sha K)).size) := by unfold Hid; rw [u8s_size, sha_len]; exact size26
          have HO : Hid ((u8s (List.replicate 32 0)).size = (u8s (Pl.sha K)).size) := by unfold Hid; rw [u8s_size, u8s_size, sha_len]; simp
          have c1 := of1 _ K w (HT.out _ (Below.refl _ _)) sk (by rw [HLK.out]; omega)
          generalize Pl.sha K = D at *
          clear sk
          go_enter Tryd.func7, Tryd.ntmps7
          go_wp2_with fail
          refine c1.mono ?_
          rintro e w1 ⟨rfl, b1⟩
          obtain ⟨w3, hw3⟩ : ∃ w3, w3 = w1.alloc (.cells (u8s (D)) 26) := ⟨_, rfl⟩
          have HW3 : Hid (w3 = w1.alloc (.cells (u8s (D)) 26)) := hw3
          have B3 : Below w.heap.size w w3 := by rw [hw3]; exact b1.alloc b1.size _
          have HB3 : Hid (Below w.heap.size w w3) := B3
          have s3 : Sl w3 (.slice (some ⟨w1.heap.size, 0, none⟩) 32 32) (D) := by rw [hw3]; exact sl_sum (heap_alloc_new _ _) HSB.out HSL.out
          have c4 := HC1.out w3 _ B3 s3
          clear c1 b1 hw3 B3 s3
          go_wp2_with (refine wpList_store_row rfl 26 _ _ rfl w1.heap.size (u8s (D)) rfl rfl 26 _ (heap_alloc_new _ _) HI.out HO.out (u8s_one _) ?_; rw [World.setRow_alloc_new, ← HW3.out])
          refine c4.mono ?_
          rintro e w5 ⟨rfl, b5⟩
          have HB5 : Hid (Below w.heap.size w w5) := HB3.out.trans (b5.mono HB3.out.size)
          have c6 := HC2.out w5 HB5.out
          clear c4 b5
          go_wp2_with fail
          refine c6.mono ?_
          rintro e w7 ⟨rfl, b7⟩
          have HB7 : Hid (Below w.heap.size w w7) := HB5.out.trans (b7.mono HB5.out.size)
          clear c6 b7
          go_wp2_with (first | refine wpList_eql rfl _ _ _ rfl U U true rfl rfl (EQ'.out _) ?_ | (go_at_call 8; refine (CA.out _ HB7.out).mono ?_; rintro e w' ⟨rfl, hbel⟩))
          go_ret
          exact ⟨rfl, HB7.out.trans (hbel.mono HB7.out.size)⟩

theorem contract (H : Type) (enc : TypeId × Value → H) (W : World) (base : Nat) (args : Array Value) (ds gs : List (DataW H)) (before : List MemPlace)
    (hval : ∀ (j : Nat) t v, Tryd.f7.params[j]? = some t → args[j]? = some v → Value.okWide Tryd.prog W .any base t v)
    (hW : DataW.Whole enc Tryd.prog Tryd.f7.params.toList Rows.macKeysSpec.vars false W args.toList ds gs before) (hL : laidMetH Tryd.prog Rows.macKeysRow.laid W)
    (hsz0 : (DataW.weightsEach Tryd.prog (Tryd.f7.params.toList ++ Rows.macKeysSpec.plain.varTypes Tryd.prog) (ds ++ gs)).all (· ≤ reachBytes) = true) :
    Calls Tryd.prog 7 args W fun e W' => ∃ v, e = .returned v ∧ Rows.macKeysSpec.post enc Tryd.prog Tryd.f7 false true false false W args v W' := by
  have hW' := hW
  obtain ⟨p, q, hA0, hV, rfl, hfz, hnd⟩ := hW
  have hA : DataW.TrodAll enc Tryd.prog W 0 (fun _ => true) true Tryd.f7.params.toList args.toList ds p := hA0
  rw [Tryd.params7] at hA hval hsz0
  obtain ⟨v0, vs0, d0, ds0, p0, q0, hargs, rfl, rfl, h0, r0⟩ := trodAll_cons hA
  obtain ⟨v1, vs1, d1, ds1, p1, q1, rfl, rfl, rfl, h1, r1⟩ := trodAll_cons r0
  obtain ⟨rfl, rfl, rfl⟩ := trodAll_nil r1
  obtain rfl : args = #[v0, v1] := by cases args; simp_all
  obtain ⟨rfl, rfl⟩ := trodVars_none hV
  have hsz : (DataW.weightsEach Tryd.prog [22, 22] [d0, d1]).all (· ≤ reachBytes) = true := hsz0
  have k0 := h0
  have lt0 : ∀ x ∈ p0, x.block < W.heap.size := by obtain ⟨m, hm⟩ := k0; exact DataW.trod_lt m _ _ _ hm
  obtain ⟨a0, len0, cap0, z0, rfl, w0⟩ := bytes_open 0 (hval 0 22 v0 rfl rfl) h0 hsz rfl rfl
  have k1 := h1
  have lt1 : ∀ x ∈ p1, x.block < W.heap.size := by obtain ⟨m, hm⟩ := k1; exact DataW.trod_lt m _ _ _ hm
  obtain ⟨a1, len1, cap1, z1, rfl, w1⟩ := bytes_open 1 (hval 1 22 v1 rfl rfl) h1 hsz rfl rfl
  clear hA0
  refine (walk a0 len0 cap0 z0 a1 len1 cap1 z1 W (tab_of hL) w0 w1).mono fun e W' ⟨he, bel⟩ => ?_
  subst he
  exact ⟨_, rfl, _, _, _, [], _, [], hW', trodAll_mk1 (shut_bool Tryd.underlying4 _), (trodAll_cons_mk (Below.trod laidOut (by kernel_rfl) (of_decide_eq_true (by kernel_rfl)) k0 bel lt0) (trodAll_cons_mk (Below.trod laidOut (by kernel_rfl) (of_decide_eq_true (by kernel_rfl)) k1 bel lt1) trodAll_mk0)), rfl, bel.frame _, fun h => by cases h⟩

theorem laid_met (os : Os) : laidMet Tryd.prog Rows.macKeysRow.laid (({ World.holding Tryd.prog os ⟨#[], #[], []⟩ with heap := ((((World.holding Tryd.prog os ⟨#[], #[], []⟩).heap.modify 0 (fun
      | .cells _ t frozen => .cells #[.int .u32 1779033703, .int .u32 3144134277, .int .u32 1013904242, .int .u32 2773480762, .int .u32 1359893119, .int .u32 2600822924, .int .u32 528734635, .int .u32 1541459225] t frozen
      | o => o)).modify 1 (fun
      | .cells _ t frozen => .cells #[.int .u32 1116352408, .int .u32 1899447441, .int .u32 3049323471, .int .u32 3921009573, .int .u32 961987163, .int .u32 1508970993, .int .u32 2453635748, .int .u32 2870763221, .int .u32 3624381080, .int .u32 310598401, .int .u32 607225278, .int .u32 1426881987, .int .u32 1925078388, .int .u32 2162078206, .int .u32 2614888103, .int .u32 3248222580, .int .u32 3835390401, .int .u32 4022224774, .int .u32 264347078, .int .u32 604807628, .int .u32 770255983, .int .u32 1249150122, .int .u32 1555081692, .int .u32 1996064986, .int .u32 2554220882, .int .u32 2821834349, .int .u32 2952996808, .int .u32 3210313671, .int .u32 3336571891, .int .u32 3584528711, .int .u32 113926993, .int .u32 338241895, .int .u32 666307205, .int .u32 773529912, .int .u32 1294757372, .int .u32 1396182291, .int .u32 1695183700, .int .u32 1986661051, .int .u32 2177026350, .int .u32 2456956037, .int .u32 2730485921, .int .u32 2820302411, .int .u32 3259730800, .int .u32 3345764771, .int .u32 3516065817, .int .u32 3600352804, .int .u32 4094571909, .int .u32 275423344, .int .u32 430227734, .int .u32 506948616, .int .u32 659060556, .int .u32 883997877, .int .u32 958139571, .int .u32 1322822218, .int .u32 1537002063, .int .u32 1747873779, .int .u32 1955562222, .int .u32 2024104815, .int .u32 2227730452, .int .u32 2361852424, .int .u32 2428436474, .int .u32 2756734187, .int .u32 3204031479, .int .u32 3329325298] t frozen
      | o => o)).modify 2 (fun
      | .cells _ t frozen => .cells #[.int .i64 1, .int .i64 2, .int .i64 4, .int .i64 8] t frozen
      | o => o)) } : World).forCall (fun _ _ => 0) ⟨#[], #[.slice none 0 0, .slice none 0 0], []⟩).memory :=
  laidMet_of_run' 8 (by kernel_rfl) (by kernel_rfl)
theorem reads (os : Os) {H : Type} (enc : TypeId × Value → H) : ∃ places, DataW.whole enc Tryd.prog (({ World.holding Tryd.prog os ⟨#[], #[], []⟩ with heap := ((((World.holding Tryd.prog os ⟨#[], #[], []⟩).heap.modify 0 (fun
      | .cells _ t frozen => .cells #[.int .u32 1779033703, .int .u32 3144134277, .int .u32 1013904242, .int .u32 2773480762, .int .u32 1359893119, .int .u32 2600822924, .int .u32 528734635, .int .u32 1541459225] t frozen
      | o => o)).modify 1 (fun
      | .cells _ t frozen => .cells #[.int .u32 1116352408, .int .u32 1899447441, .int .u32 3049323471, .int .u32 3921009573, .int .u32 961987163, .int .u32 1508970993, .int .u32 2453635748, .int .u32 2870763221, .int .u32 3624381080, .int .u32 310598401, .int .u32 607225278, .int .u32 1426881987, .int .u32 1925078388, .int .u32 2162078206, .int .u32 2614888103, .int .u32 3248222580, .int .u32 3835390401, .int .u32 4022224774, .int .u32 264347078, .int .u32 604807628, .int .u32 770255983, .int .u32 1249150122, .int .u32 1555081692, .int .u32 1996064986, .int .u32 2554220882, .int .u32 2821834349, .int .u32 2952996808, .int .u32 3210313671, .int .u32 3336571891, .int .u32 3584528711, .int .u32 113926993, .int .u32 338241895, .int .u32 666307205, .int .u32 773529912, .int .u32 1294757372, .int .u32 1396182291, .int .u32 1695183700, .int .u32 1986661051, .int .u32 2177026350, .int .u32 2456956037, .int .u32 2730485921, .int .u32 2820302411, .int .u32 3259730800, .int .u32 3345764771, .int .u32 3516065817, .int .u32 3600352804, .int .u32 4094571909, .int .u32 275423344, .int .u32 430227734, .int .u32 506948616, .int .u32 659060556, .int .u32 883997877, .int .u32 958139571, .int .u32 1322822218, .int .u32 1537002063, .int .u32 1747873779, .int .u32 1955562222, .int .u32 2024104815, .int .u32 2227730452, .int .u32 2361852424, .int .u32 2428436474, .int .u32 2756734187, .int .u32 3204031479, .int .u32 3329325298] t frozen
      | o => o)).modify 2 (fun
      | .cells _ t frozen => .cells #[.int .i64 1, .int .i64 2, .int .i64 4, .int .i64 8] t frozen
      | o => o)) } : World).forCall (fun _ _ => 0) ⟨#[], #[.slice none 0 0, .slice none 0 0], []⟩).memory Tryd.f7.params.toList Rows.macKeysSpec.vars false #[Value.slice none 0 0, .slice none 0 0].toList 8 = some ([.nil, .nil], [], places) :=
  ⟨[], by kernel_rfl⟩

set_option maxRecDepth 100000 in
theorem lifted (os : Os) (started : os.Started) (H : Type) (enc : TypeId × Value → H) (F : Stop.Interp) :
    ReturnsInHanded {} Tryd.checked os 7 .any ((OpenSpec.ofChange Rows.macKeysSpec).preRow enc Tryd.prog Tryd.f7 Rows.macKeysRow.domain false Rows.macKeysRow.laid) (((OpenSpec.ofChange Rows.macKeysSpec).at F).post enc Tryd.prog Tryd.f7 false true false false) := by
  obtain ⟨places, hx⟩ := reads os enc
  refine returnsInHanded_of_row (C := Tryd.checked) (s := OpenSpec.ofChange Rows.macKeysSpec) own started (by kernel_rfl) Tryd.func7
    (witness_row_at (enc := enc) (C := Tryd.checked) false ({ World.holding Tryd.prog os ⟨#[], #[], []⟩ with heap := ((((World.holding Tryd.prog os ⟨#[], #[], []⟩).heap.modify 0 (fun
      | .cells _ t frozen => .cells #[.int .u32 1779033703, .int .u32 3144134277, .int .u32 1013904242, .int .u32 2773480762, .int .u32 1359893119, .int .u32 2600822924, .int .u32 528734635, .int .u32 1541459225] t frozen
      | o => o)).modify 1 (fun
      | .cells _ t frozen => .cells #[.int .u32 1116352408, .int .u32 1899447441, .int .u32 3049323471, .int .u32 3921009573, .int .u32 961987163, .int .u32 1508970993, .int .u32 2453635748, .int .u32 2870763221, .int .u32 3624381080, .int .u32 310598401, .int .u32 607225278, .int .u32 1426881987, .int .u32 1925078388, .int .u32 2162078206, .int .u32 2614888103, .int .u32 3248222580, .int .u32 3835390401, .int .u32 4022224774, .int .u32 264347078, .int .u32 604807628, .int .u32 770255983, .int .u32 1249150122, .int .u32 1555081692, .int .u32 1996064986, .int .u32 2554220882, .int .u32 2821834349, .int .u32 2952996808, .int .u32 3210313671, .int .u32 3336571891, .int .u32 3584528711, .int .u32 113926993, .int .u32 338241895, .int .u32 666307205, .int .u32 773529912, .int .u32 1294757372, .int .u32 1396182291, .int .u32 1695183700, .int .u32 1986661051, .int .u32 2177026350, .int .u32 2456956037, .int .u32 2730485921, .int .u32 2820302411, .int .u32 3259730800, .int .u32 3345764771, .int .u32 3516065817, .int .u32 3600352804, .int .u32 4094571909, .int .u32 275423344, .int .u32 430227734, .int .u32 506948616, .int .u32 659060556, .int .u32 883997877, .int .u32 958139571, .int .u32 1322822218, .int .u32 1537002063, .int .u32 1747873779, .int .u32 1955562222, .int .u32 2024104815, .int .u32 2227730452, .int .u32 2361852424, .int .u32 2428436474, .int .u32 2756734187, .int .u32 3204031479, .int .u32 3329325298] t frozen
      | o => o)).modify 2 (fun
      | .cells _ t frozen => .cells #[.int .i64 1, .int .i64 2, .int .i64 4, .int .i64 8] t frozen
      | o => o)) } : World) #[.slice none 0 0, .slice none 0 0] rfl (by kernel_rfl) (by kernel_rfl) (by kernel_rfl)
      (OpenSpec.preRow_of_cond 8 hx (by kernel_rfl) (fun k hk => by cases hk) (by kernel_rfl) (laid_met os))) ?_
  intro W base args ds gs before hval hW _ _ hsz hL _ _
  exact contract H enc W base args ds gs before hval hW hL hsz

theorem said : Rows.MacKeysSaid :=
  OpenClaim.holds_of_cond 7 Tryd.f7 rfl rfl rfl rfl rfl rfl rfl ⟨rfl, rfl, rfl, rfl, rfl⟩ rfl rfl rfl rfl rfl (by kernel_rfl) Tryd.func7 (by kernel_rfl)
    (of_decide_eq_true (by kernel_rfl)) (by unfold Func.isWrapper; first | (rw [if_pos (by decide +kernel)]; kernel_rfl) | (rw [if_neg (by decide +kernel)]; exact ⟨rfl, rfl⟩))
    (fun os started H enc _ F => by rw [OpenClaim.pre_eq_preRow]; exact lifted os started H enc F)

theorem plain (f : FuncId) (fn : Func) (hf : Tryd.pinned.checked.prog.funcNamed "sumpter/sumpterlaw05.MacKeys" = some f) (hfn : Tryd.pinned.checked.prog.funcs[f]? = some fn) :
    false = Tryd.pinned.checked.prog.looks [] ∧ ∀ (j : Nat) t, fn.params[j]? = some t → Tryd.pinned.checked.prog.wantsStandIn t = false := by
  obtain rfl : f = 7 := Option.some.inj ((show Tryd.prog.funcNamed "sumpter/sumpterlaw05.MacKeys" = some 7 by kernel_rfl).symm.trans hf) |>.symm
  obtain rfl : fn = Tryd.f7 := (Option.some.inj (Tryd.func7.symm.trans hfn)).symm
  refine ⟨by kernel_rfl, fun j t ht => ?_⟩
  rw [Tryd.params7] at ht
  have hm : t ∈ [22, 22] := by simpa using Array.mem_of_getElem? ht
  have hall : ([22, 22].all fun u => !Tryd.prog.wantsStandIn u) = true := by kernel_rfl
  exact (show Tryd.prog.wantsStandIn t = false by simpa using List.all_eq_true.1 hall t hm)
end Go.Proofs.YtkblcabibnnmcaaDoor.macKeys

namespace Go.Proofs.YtkblcabibnnmcaaDoor
/-- The card of MacKeys. -/
theorem macKeys_card : Rows.MacKeysCardSaid :=
  Claim7.holds_tied_plain_at .later [] _ _ _ _ macKeys.said (fun _ h => by cases h) (by kernel_rfl) (fun _ h => by cases h) macKeys_row_tie rfl ⟨rfl, rfl⟩ (by kernel_rfl) rfl macKeys.plain (by kernel_rfl)
#print axioms macKeys_card
end Go.Proofs.YtkblcabibnnmcaaDoor
