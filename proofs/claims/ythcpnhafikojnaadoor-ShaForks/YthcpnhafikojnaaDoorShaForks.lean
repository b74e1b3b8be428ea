/-
  ShaForks answers true for all bytes, and nothing that was there is changed; the two package-level tables start as the program's text lays them (the card ties them).
-/
import Derived.Test.YthcpnhafikojnaaDoorFrame
namespace Go.Proofs.YthcpnhafikojnaaDoor.shaForks
open Go.ChangeShapes Go.WideShapes Go.ChangeAt Go.RowKit Go.Deep Go.ChangeMaps

theorem nil_write (v : Value) (xs : List Int) (w : World) (sl : Sl w v xs) : Calls Tryd.prog 18 #[.pointer none, v] w fun e w' => (∃ u, e = .returned u) ∧ w' = w := by
  obtain ⟨a, cap, rfl, -⟩ := sl
  go_enter Tryd.func18, Tryd.ntmps18
  go_wp2
  refine bodyPost_ret (v := .tuple #[]) (by simp [results, Tryd.results18]) rfl ⟨⟨_, rfl⟩, rfl⟩

theorem parts2 {w : World} {v1 v2 : Value} {x1 x2 : List Int} (s1 : Sl w v1 x1) (s2 : Sl w v2 x2) : Parts (w.alloc (.cells #[v1, v2] 22)) (some ⟨w.heap.size, 0, none⟩) [x1, x2] := by
  have hb : Below w.heap.size w (w.alloc (.cells #[v1, v2] 22)) := (Below.refl _ _).alloc (Nat.le_refl _) _
  have hr := heap_alloc_new w (.cells #[v1, v2] 22)
  refine ⟨by simp, .inr ⟨w.heap.size, 0, rfl, fun i hi => ?_⟩⟩
  match i, hi with
  | 0, _ => exact ⟨v1, cell_of_row _ _ 0 _ _ _ hr, s1.kept hb⟩
  | 1, _ => exact ⟨v2, cell_of_row _ _ 1 _ _ _ hr, s2.kept hb⟩

theorem of2 (v1 v2 : Value) (x1 x2 : List Int) (w : World) (ht : Tab w) (s1 : Sl w v1 x1) (s2 : Sl w v2 x2) (hbig : x1.length + x2.length ≤ 100000) :
    Calls Tryd.prog 9 #[.slice (some ⟨w.heap.size, 0, none⟩) 2 2] (w.alloc (.cells #[v1, v2] 22)) fun e w' => e = .returned (.agg (u8s (Pl.sha (x1 ++ x2)))) ∧ Below w.heap.size w w' := by
  have hb : Below w.heap.size w (w.alloc (.cells #[v1, v2] 22)) := (Below.refl _ _).alloc (Nat.le_refl _) _
  have hf : [x1, x2].flatten = x1 ++ x2 := by simp
  have := of_any (some ⟨w.heap.size, 0, none⟩) 2 [x1, x2] _ (ht.below hb ht.size) (parts2 s1 s2) (by rw [hf, List.length_append]; omega)
  rw [hf] at this
  refine this.mono ?_
  rintro e w' ⟨rfl, b⟩
  exact ⟨rfl, hb.trans (b.mono hb.size)⟩

set_option maxHeartbeats 4000000 in
set_option maxRecDepth 100000 in
theorem walk (a1 : Option Addr) (len1 cap1 : Nat) (z1 : List Int) (a2 : Option Addr) (len2 cap2 : Nat) (z2 : List Int) (a3 : Option Addr) (len3 cap3 : Nat) (z3 : List Int) (w : World) (hw : Tab w) (hb1 : Bytes w a1 len1 cap1 z1) (hb2 : Bytes w a2 len2 cap2 z2) (hb3 : Bytes w a3 len3 cap3 z3) :
    Calls Tryd.prog 6 #[.slice a1 len1 cap1, .slice a2 len2 cap2, .slice a3 len3 cap3] w fun e w' => e = .returned (.bool true) ∧ Below w.heap.size w w' := by
  have s1 := hb1.sl
  have s2 := hb2.sl
  have s3 := hb3.sl
  have m1 : len1 ≤ 140737488351232 := by have := hb1.2.2; omega
  have m2 : len2 ≤ 140737488351232 := by have := hb2.2.2; omega
  have m3 : len3 ≤ 140737488351232 := by have := hb3.2.2; omega
  have l1 : (z1.take len1).length = len1 := by rw [List.length_take]; have := hb1.2; omega
  have l2 : (z2.take len2).length = len2 := by rw [List.length_take]; have := hb2.2; omega
  have l3 : (z3.take len3).length = len3 := by rw [List.length_take]; have := hb3.2; omega
  generalize z1.take len1 = x1 at *
  generalize z2.take len2 = x2 at *
  generalize z3.take len3 = x3 at *
  clear hb1 hb2 hb3
  have HT : Hid (Tab w) := hw
  have HA : Hid (∀ x, Below w.heap.size w x → Calls Tryd.prog 8 #[] x fun r w' => r = .returned (.bool true) ∧ Below w.heap.size w w') := fun x hx => by
    refine (awake_any x (hw.below hx hw.size)).mono ?_
    rintro e w' ⟨rfl, b⟩
    exact ⟨rfl, hx.trans (b.mono hx.size)⟩
  clear hw
  by_cases h1 : 2000 < len1
  · have c := HA.out w (Below.refl _ _)
    clear s1 s2 s3 l1 l2 l3
    go_enter Tryd.func6, Tryd.ntmps6
    go_wp2_with (go_at_call 8; refine c.mono ?_; rintro e w' ⟨rfl, hbel⟩)
    go_ret
    exact ⟨rfl, by assumption⟩
  by_cases h2 : 2000 < len2
  · have c := HA.out w (Below.refl _ _)
    clear s1 s2 s3 l1 l2 l3
    go_enter Tryd.func6, Tryd.ntmps6
    go_wp2_with (go_at_call 8; refine c.mono ?_; rintro e w' ⟨rfl, hbel⟩)
    go_ret
    exact ⟨rfl, by assumption⟩
  by_cases h3 : 2000 < len3
  · have c := HA.out w (Below.refl _ _)
    clear s1 s2 s3 l1 l2 l3
    go_enter Tryd.func6, Tryd.ntmps6
    go_wp2_with (go_at_call 8; refine c.mono ?_; rintro e w' ⟨rfl, hbel⟩)
    go_ret
    exact ⟨rfl, by assumption⟩
  have q1 : ¬ (2000 : Int) < (len1 : Int) := by omega
  have q2 : ¬ (2000 : Int) < (len2 : Int) := by omega
  have q3 : ¬ (2000 : Int) < (len3 : Int) := by omega
  have cn := new_any w HT.out
  obtain ⟨G, hG⟩ : ∃ G, G = w.heap.size := ⟨_, rfl⟩
  have HG : Hid (G = w.heap.size) := hG
  rw [← hG] at cn
  have hG2 : 2 ≤ G := by rw [hG]; exact HT.out.size
  have S1 : Hid (Sl w (.slice a1 len1 cap1) x1) := s1
  have S2 : Hid (Sl w (.slice a2 len2 cap2) x2) := s2
  have S3 : Hid (Sl w (.slice a3 len3 cap3) x3) := s3
  clear s1 s2 s3 hG h1 h2 h3
  have HL : Hid (x1.length = len1 ∧ x2.length = len2 ∧ x3.length = len3) := ⟨l1, l2, l3⟩
  clear l1 l2 l3
  have E0 := fun (A : List Int) (w' : World) => eq_u8s (Pl.sha A) (Pl.sha A) (sha_len _) (sha_len _) w'
  have HE : Hid (∀ (A : List Int) (w' : World), (Op.equalIn 10000 26 (.agg (u8s (Pl.sha A))) (.agg (u8s (Pl.sha A)))).run Tryd.prog w' = .ok true w') := fun A w' => by
    rw [E0 A w']
    simp
  clear E0
  go_enter Tryd.func6, Tryd.ntmps6
  go_wp2_with fail
  refine cn.mono ?_
  rintro e w1 ⟨rfl, n1, b1⟩
  have B1 : Below w.heap.size w w1 := by rw [← HG.out]; exact b1
  have c1 := write_any G [] _ _ w1 (HT.out.below B1 HT.out.size) (hsof_nil n1) (S1.out.kept B1) (S1.out.apart (Nat.le_of_eq HG.out.symm)) hG2 (by have := HL.out; simp; omega)
  rw [List.nil_append] at c1
  have g1 := n1.lt
  have HB1 : Hid (Below w.heap.size w w1) := B1
  clear cn n1 b1 B1
  go_wp2_with fail
  refine c1.mono ?_
  rintro e w2 ⟨⟨u2, rfl⟩, h2, b2⟩
  have B2 : Below w.heap.size w w2 := HB1.out.trans (b2.below (by rw [HG.out]; exact Nat.le_refl _) HB1.out.size)
  have HH2 : Hid (HsOf w2 G x1) := h2
  obtain ⟨R2, r1, r2, r3⟩ := h2
  have c2 := fork_any G _ R2 _ w2 r1
  obtain ⟨F, hF⟩ : ∃ F, F = w2.heap.size := ⟨_, rfl⟩
  rw [← hF] at c2
  have HF : Hid (F = w2.heap.size) := hF
  have hGF : G < F := by rw [hF]; exact r1.lt
  have HB2 : Hid (Below w.heap.size w w2) := B2
  have HR : Hid (Pl.Byt R2 ∧ ∀ i, i < x1.length % 64 → R2.getD i 0 = x1.getD (64 * (x1.length / 64) + i) 0) := ⟨r2, r3⟩
  clear c1 b2 B2 r1 r2 r3 hF
  go_wp2_with fail
  refine c2.mono ?_
  rintro e w3 ⟨rfl, h3, b3⟩
  have B3w : Below w2.heap.size w2 w3 := by rw [← HF.out]; exact b3
  have B3 : Below w.heap.size w w3 := HB2.out.trans (B3w.mono HB2.out.size)
  have HF3 : Hid (HsOf w3 F x1) := ⟨R2, h3, HR.out⟩
  have HG3 : Hid (HsOf w3 G x1) := HH2.out.kept B3w
  have HB3 : Hid (Below w.heap.size w w3) := B3
  have c3 := write_any G x1 _ _ w3 (HT.out.below B3 HT.out.size) HG3.out (S2.out.kept B3) (S2.out.apart (Nat.le_of_eq HG.out.symm)) hG2 (by have := HL.out; omega)
  have f3 := h3.lt
  clear c2 h3 b3 B3w B3
  go_wp2_with fail
  refine c3.mono ?_
  rintro e w4 ⟨⟨u4, rfl⟩, h4, b4⟩
  have B4 : Below w.heap.size w w4 := HB3.out.trans (b4.below (by rw [HG.out]; exact Nat.le_refl _) HB3.out.size)
  have HG4 : Hid (HsOf w4 G (x1 ++ x2)) := h4
  have HF4 : Hid (HsOf w4 F x1) := HF3.out.but b4 (by omega)
  have HB4 : Hid (Below w.heap.size w w4) := B4
  have hFw : w.heap.size ≤ F := by rw [← HG.out]; omega
  have c4 := write_any F x1 _ _ w4 (HT.out.below B4 HT.out.size) HF4.out (S3.out.kept B4) (S3.out.apart hFw) (by omega) (by have := HL.out; omega)
  clear c3 h4 b4 B4
  go_wp2_with fail
  refine c4.mono ?_
  rintro e w5 ⟨⟨u5, rfl⟩, h5, b5⟩
  have B5 : Below w.heap.size w w5 := HB4.out.trans (b5.below hFw HB4.out.size)
  have HF5 : Hid (HsOf w5 F (x1 ++ x3)) := h5
  have HG5 : Hid (HsOf w5 G (x1 ++ x2)) := HG4.out.but b5 (by omega)
  have HB5 : Hid (Below w.heap.size w w5) := B5
  have c5 := nil_write _ _ w5 (S1.out.kept B5)
  clear c4 h5 b5 B5
  go_wp2_with fail
  refine c5.mono ?_
  rintro e w5' ⟨⟨u6, rfl⟩, rfl⟩
  have c6 := sum_any G _ w5' (HT.out.below HB5.out HT.out.size) HG5.out (by have := HL.out; rw [List.length_append]; omega)
  clear c5
  go_wp2_with fail
  refine c6.mono ?_
  rintro e w6 ⟨rfl, b6⟩
  have B6 : Below w.heap.size w w6 := HB5.out.trans (b6.mono HB5.out.size)
  have HF6 : Hid (HsOf w6 F (x1 ++ x3)) := HF5.out.kept b6
  have HB6 : Hid (Below w.heap.size w w6) := B6
  have c7 := of2 _ _ _ _ w6 (HT.out.below B6 HT.out.size) (S1.out.kept B6) (S2.out.kept B6) (by have := HL.out; omega)
  clear c6 b6 B6
  have e7 := HE.out (x1 ++ x2)
  generalize u8s (Pl.sha (x1 ++ x2)) = U at *
  go_wp2_with fail
  refine c7.mono ?_
  rintro e w7 ⟨rfl, b7⟩
  have B7 : Below w.heap.size w w7 := HB6.out.trans (b7.mono HB6.out.size)
  have HB7 : Hid (Below w.heap.size w w7) := B7
  have HF7 : Hid (HsOf w7 F (x1 ++ x3)) := HF6.out.kept b7
  have c8 := sum_any F _ w7 (HT.out.below B7 HT.out.size) HF7.out (by have := HL.out; rw [List.length_append]; omega)
  clear c7 b7 B7
  go_wp2_with fail
  refine c8.mono ?_
  rintro e w8 ⟨rfl, b8⟩
  have B8 : Below w.heap.size w w8 := HB7.out.trans (b8.mono HB7.out.size)
  have HB8 : Hid (Below w.heap.size w w8) := B8
  have c9 := of2 _ _ _ _ w8 (HT.out.below B8 HT.out.size) (S1.out.kept B8) (S3.out.kept B8) (by have := HL.out; omega)
  clear c8 b8 B8
  have e9 := HE.out (x1 ++ x3)
  generalize u8s (Pl.sha (x1 ++ x3)) = U2 at *
  go_wp2_with fail
  refine c9.mono ?_
  rintro e w9 ⟨rfl, b9⟩
  have B9 : Below w.heap.size w w9 := HB8.out.trans (b9.mono HB8.out.size)
  have HB9 : Hid (Below w.heap.size w w9) := B9
  have c10 := sum_nil w9
  clear c9 b9 B9
  go_wp2_with fail
  refine c10.mono ?_
  rintro e wa ⟨rfl, ba⟩
  have BA : Below w.heap.size w wa := HB9.out.trans (ba.mono HB9.out.size)
  have HBA : Hid (Below w.heap.size w wa) := BA
  have ea : ∀ w', (Op.equalIn 10000 26 (.agg (u8s (List.replicate 32 0))) (.agg (u8s (List.replicate 32 0)))).run Tryd.prog w' = .ok true w' := fun w' => by
    rw [eq_u8s _ _ rfl rfl w']
    simp
  change ∀ w', (Op.equalIn 10000 26 (.agg (u8s (List.replicate 32 0))) (.agg #[.int .u8 0, .int .u8 0, .int .u8 0, .int .u8 0, .int .u8 0, .int .u8 0, .int .u8 0, .int .u8 0, .int .u8 0, .int .u8 0, .int .u8 0, .int .u8 0, .int .u8 0, .int .u8 0, .int .u8 0, .int .u8 0, .int .u8 0, .int .u8 0, .int .u8 0, .int .u8 0, .int .u8 0, .int .u8 0, .int .u8 0, .int .u8 0, .int .u8 0, .int .u8 0, .int .u8 0, .int .u8 0, .int .u8 0, .int .u8 0, .int .u8 0, .int .u8 0])).run Tryd.prog w' = .ok true w' at ea
  generalize u8s (List.replicate 32 0) = Z0 at *
  have cl := len_nil wa
  clear c10 ba BA
  go_wp2_with fail
  refine cl.mono ?_
  rintro e wl ⟨rfl, rfl⟩
  have cf := fork_nil wl
  clear cl
  go_wp2_with fail
  refine cf.mono ?_
  rintro e wf ⟨rfl, rfl⟩
  have cw := HA.out wf HBA.out
  clear cf
  go_wp2_with (go_at_call 8; refine cw.mono ?_; rintro e w' ⟨rfl, hbel⟩)
  go_ret
  exact ⟨rfl, by assumption⟩

theorem contract (H : Type) (enc : TypeId × Value → H) (W : World) (base : Nat) (args : Array Value) (ds gs : List (DataW H)) (before : List MemPlace)
    (hval : ∀ (j : Nat) t v, Tryd.f6.params[j]? = some t → args[j]? = some v → Value.okWide Tryd.prog W .any base t v)
    (hW : DataW.Whole enc Tryd.prog Tryd.f6.params.toList Rows.shaForksSpec.vars false W args.toList ds gs before) (hL : laidMetH Tryd.prog Rows.shaForksRow.laid W)
    (hsz0 : (DataW.weightsEach Tryd.prog (Tryd.f6.params.toList ++ Rows.shaForksSpec.plain.varTypes Tryd.prog) (ds ++ gs)).all (· ≤ reachBytes) = true) :
    Calls Tryd.prog 6 args W fun e W' => ∃ v, e = .returned v ∧ Rows.shaForksSpec.post enc Tryd.prog Tryd.f6 false true false false W args v W' := by
  have hW' := hW
  obtain ⟨p, q, hA0, hV, rfl, hfz, hnd⟩ := hW
  have hA : DataW.TrodAll enc Tryd.prog W 0 (fun _ => true) true Tryd.f6.params.toList args.toList ds p := hA0
  rw [Tryd.params6] at hA hval hsz0
  obtain ⟨v0, vs0, d0, ds0, p0, q0, hargs, rfl, rfl, h0, r0⟩ := trodAll_cons hA
  obtain ⟨v1, vs1, d1, ds1, p1, q1, rfl, rfl, rfl, h1, r1⟩ := trodAll_cons r0
  obtain ⟨v2, vs2, d2, ds2, p2, q2, rfl, rfl, rfl, h2, r2⟩ := trodAll_cons r1
  obtain ⟨rfl, rfl, rfl⟩ := trodAll_nil r2
  obtain rfl : args = #[v0, v1, v2] := by cases args; simp_all
  obtain ⟨rfl, rfl⟩ := trodVars_none hV
  have hsz : (DataW.weightsEach Tryd.prog [22, 22, 22] [d0, d1, d2]).all (· ≤ reachBytes) = true := hsz0
  have k0 := h0
  have lt0 : ∀ x ∈ p0, x.block < W.heap.size := by obtain ⟨m, hm⟩ := k0; exact DataW.trod_lt m _ _ _ hm
  obtain ⟨a0, len0, cap0, z0, rfl, w0⟩ := bytes_open 0 (hval 0 22 v0 rfl rfl) h0 hsz rfl rfl
  have k1 := h1
  have lt1 : ∀ x ∈ p1, x.block < W.heap.size := by obtain ⟨m, hm⟩ := k1; exact DataW.trod_lt m _ _ _ hm
  obtain ⟨a1, len1, cap1, z1, rfl, w1⟩ := bytes_open 1 (hval 1 22 v1 rfl rfl) h1 hsz rfl rfl
  have k2 := h2
  have lt2 : ∀ x ∈ p2, x.block < W.heap.size := by obtain ⟨m, hm⟩ := k2; exact DataW.trod_lt m _ _ _ hm
  obtain ⟨a2, len2, cap2, z2, rfl, w2⟩ := bytes_open 2 (hval 2 22 v2 rfl rfl) h2 hsz rfl rfl
  clear hA0
  refine (walk a0 len0 cap0 z0 a1 len1 cap1 z1 a2 len2 cap2 z2 W (tab_of hL) w0 w1 w2).mono fun e W' ⟨he, bel⟩ => ?_
  subst he
  exact ⟨_, rfl, _, _, _, [], _, [], hW', trodAll_mk1 (shut_bool Tryd.underlying4 _), (trodAll_cons_mk (Below.trod laidOut (by kernel_rfl) (of_decide_eq_true (by kernel_rfl)) k0 bel lt0) (trodAll_cons_mk (Below.trod laidOut (by kernel_rfl) (of_decide_eq_true (by kernel_rfl)) k1 bel lt1) (trodAll_cons_mk (Below.trod laidOut (by kernel_rfl) (of_decide_eq_true (by kernel_rfl)) k2 bel lt2) trodAll_mk0))), rfl, bel.frame _, fun h => by cases h⟩

theorem laid_met (os : Os) : laidMet Tryd.prog Rows.shaForksRow.laid (({ World.holding Tryd.prog os ⟨#[], #[], []⟩ with heap := (((World.holding Tryd.prog os ⟨#[], #[], []⟩).heap.modify 0 (fun
      | .cells _ t frozen => .cells #[.int .u32 1779033703, .int .u32 3144134277, .int .u32 1013904242, .int .u32 2773480762, .int .u32 1359893119, .int .u32 2600822924, .int .u32 528734635, .int .u32 1541459225] t frozen
      | o => o)).modify 1 (fun
      | .cells _ t frozen => .cells #[.int .u32 1116352408, .int .u32 1899447441, .int .u32 3049323471, .int .u32 3921009573, .int .u32 961987163, .int .u32 1508970993, .int .u32 2453635748, .int .u32 2870763221, .int .u32 3624381080, .int .u32 310598401, .int .u32 607225278, .int .u32 1426881987, .int .u32 1925078388, .int .u32 2162078206, .int .u32 2614888103, .int .u32 3248222580, .int .u32 3835390401, .int .u32 4022224774, .int .u32 264347078, .int .u32 604807628, .int .u32 770255983, .int .u32 1249150122, .int .u32 1555081692, .int .u32 1996064986, .int .u32 2554220882, .int .u32 2821834349, .int .u32 2952996808, .int .u32 3210313671, .int .u32 3336571891, .int .u32 3584528711, .int .u32 113926993, .int .u32 338241895, .int .u32 666307205, .int .u32 773529912, .int .u32 1294757372, .int .u32 1396182291, .int .u32 1695183700, .int .u32 1986661051, .int .u32 2177026350, .int .u32 2456956037, .int .u32 2730485921, .int .u32 2820302411, .int .u32 3259730800, .int .u32 3345764771, .int .u32 3516065817, .int .u32 3600352804, .int .u32 4094571909, .int .u32 275423344, .int .u32 430227734, .int .u32 506948616, .int .u32 659060556, .int .u32 883997877, .int .u32 958139571, .int .u32 1322822218, .int .u32 1537002063, .int .u32 1747873779, .int .u32 1955562222, .int .u32 2024104815, .int .u32 2227730452, .int .u32 2361852424, .int .u32 2428436474, .int .u32 2756734187, .int .u32 3204031479, .int .u32 3329325298] t frozen
      | o => o)) } : World).forCall (fun _ _ => 0) ⟨#[], #[.slice none 0 0, .slice none 0 0, .slice none 0 0], []⟩).memory :=
  laidMet_of_run' 8 (by kernel_rfl) (by kernel_rfl)
theorem reads (os : Os) {H : Type} (enc : TypeId × Value → H) : ∃ places, DataW.whole enc Tryd.prog (({ World.holding Tryd.prog os ⟨#[], #[], []⟩ with heap := (((World.holding Tryd.prog os ⟨#[], #[], []⟩).heap.modify 0 (fun
      | .cells _ t frozen => .cells #[.int .u32 1779033703, .int .u32 3144134277, .int .u32 1013904242, .int .u32 2773480762, .int .u32 1359893119, .int .u32 2600822924, .int .u32 528734635, .int .u32 1541459225] t frozen
      | o => o)).modify 1 (fun
      | .cells _ t frozen => .cells #[.int .u32 1116352408, .int .u32 1899447441, .int .u32 3049323471, .int .u32 3921009573, .int .u32 961987163, .int .u32 1508970993, .int .u32 2453635748, .int .u32 2870763221, .int .u32 3624381080, .int .u32 310598401, .int .u32 607225278, .int .u32 1426881987, .int .u32 1925078388, .int .u32 2162078206, .int .u32 2614888103, .int .u32 3248222580, .int .u32 3835390401, .int .u32 4022224774, .int .u32 264347078, .int .u32 604807628, .int .u32 770255983, .int .u32 1249150122, .int .u32 1555081692, .int .u32 1996064986, .int .u32 2554220882, .int .u32 2821834349, .int .u32 2952996808, .int .u32 3210313671, .int .u32 3336571891, .int .u32 3584528711, .int .u32 113926993, .int .u32 338241895, .int .u32 666307205, .int .u32 773529912, .int .u32 1294757372, .int .u32 1396182291, .int .u32 1695183700, .int .u32 1986661051, .int .u32 2177026350, .int .u32 2456956037, .int .u32 2730485921, .int .u32 2820302411, .int .u32 3259730800, .int .u32 3345764771, .int .u32 3516065817, .int .u32 3600352804, .int .u32 4094571909, .int .u32 275423344, .int .u32 430227734, .int .u32 506948616, .int .u32 659060556, .int .u32 883997877, .int .u32 958139571, .int .u32 1322822218, .int .u32 1537002063, .int .u32 1747873779, .int .u32 1955562222, .int .u32 2024104815, .int .u32 2227730452, .int .u32 2361852424, .int .u32 2428436474, .int .u32 2756734187, .int .u32 3204031479, .int .u32 3329325298] t frozen
      | o => o)) } : World).forCall (fun _ _ => 0) ⟨#[], #[.slice none 0 0, .slice none 0 0, .slice none 0 0], []⟩).memory Tryd.f6.params.toList Rows.shaForksSpec.vars false #[Value.slice none 0 0, .slice none 0 0, .slice none 0 0].toList 8 = some ([.nil, .nil, .nil], [], places) :=
  ⟨[], by kernel_rfl⟩

set_option maxRecDepth 100000 in
theorem lifted (os : Os) (started : os.Started) (H : Type) (enc : TypeId × Value → H) (F : Stop.Interp) :
    ReturnsInHanded {} Tryd.checked os 6 .any ((OpenSpec.ofChange Rows.shaForksSpec).preRow enc Tryd.prog Tryd.f6 Rows.shaForksRow.domain false Rows.shaForksRow.laid) (((OpenSpec.ofChange Rows.shaForksSpec).at F).post enc Tryd.prog Tryd.f6 false true false false) := by
  obtain ⟨places, hx⟩ := reads os enc
  refine returnsInHanded_of_row (C := Tryd.checked) (s := OpenSpec.ofChange Rows.shaForksSpec) own started (by kernel_rfl) Tryd.func6
    (witness_row_at (enc := enc) (C := Tryd.checked) false ({ World.holding Tryd.prog os ⟨#[], #[], []⟩ with heap := (((World.holding Tryd.prog os ⟨#[], #[], []⟩).heap.modify 0 (fun
      | .cells _ t frozen => .cells #[.int .u32 1779033703, .int .u32 3144134277, .int .u32 1013904242, .int .u32 2773480762, .int .u32 1359893119, .int .u32 2600822924, .int .u32 528734635, .int .u32 1541459225] t frozen
      | o => o)).modify 1 (fun
      | .cells _ t frozen => .cells #[.int .u32 1116352408, .int .u32 1899447441, .int .u32 3049323471, .int .u32 3921009573, .int .u32 961987163, .int .u32 1508970993, .int .u32 2453635748, .int .u32 2870763221, .int .u32 3624381080, .int .u32 310598401, .int .u32 607225278, .int .u32 1426881987, .int .u32 1925078388, .int .u32 2162078206, .int .u32 2614888103, .int .u32 3248222580, .int .u32 3835390401, .int .u32 4022224774, .int .u32 264347078, .int .u32 604807628, .int .u32 770255983, .int .u32 1249150122, .int .u32 1555081692, .int .u32 1996064986, .int .u32 2554220882, .int .u32 2821834349, .int .u32 2952996808, .int .u32 3210313671, .int .u32 3336571891, .int .u32 3584528711, .int .u32 113926993, .int .u32 338241895, .int .u32 666307205, .int .u32 773529912, .int .u32 1294757372, .int .u32 1396182291, .int .u32 1695183700, .int .u32 1986661051, .int .u32 2177026350, .int .u32 2456956037, .int .u32 2730485921, .int .u32 2820302411, .int .u32 3259730800, .int .u32 3345764771, .int .u32 3516065817, .int .u32 3600352804, .int .u32 4094571909, .int .u32 275423344, .int .u32 430227734, .int .u32 506948616, .int .u32 659060556, .int .u32 883997877, .int .u32 958139571, .int .u32 1322822218, .int .u32 1537002063, .int .u32 1747873779, .int .u32 1955562222, .int .u32 2024104815, .int .u32 2227730452, .int .u32 2361852424, .int .u32 2428436474, .int .u32 2756734187, .int .u32 3204031479, .int .u32 3329325298] t frozen
      | o => o)) } : World) #[.slice none 0 0, .slice none 0 0, .slice none 0 0] rfl (by kernel_rfl) (by kernel_rfl) (by kernel_rfl)
      (OpenSpec.preRow_of_cond 8 hx (by kernel_rfl) (fun k hk => by cases hk) (by kernel_rfl) (laid_met os))) ?_
  intro W base args ds gs before hval hW _ _ hsz hL _ _
  exact contract H enc W base args ds gs before hval hW hL hsz

theorem said : Rows.ShaForksSaid :=
  OpenClaim.holds_of_cond 6 Tryd.f6 rfl rfl rfl rfl rfl rfl rfl ⟨rfl, rfl, rfl, rfl, rfl⟩ rfl rfl rfl rfl rfl (by kernel_rfl) Tryd.func6 (by kernel_rfl)
    (of_decide_eq_true (by kernel_rfl)) (by unfold Func.isWrapper; first | (rw [if_pos (by decide +kernel)]; kernel_rfl) | (rw [if_neg (by decide +kernel)]; exact ⟨rfl, rfl⟩))
    (fun os started H enc _ F => by rw [OpenClaim.pre_eq_preRow]; exact lifted os started H enc F)

theorem plain (f : FuncId) (fn : Func) (hf : Tryd.pinned.checked.prog.funcNamed "sumpter/sumpterlaw04.ShaForks" = some f) (hfn : Tryd.pinned.checked.prog.funcs[f]? = some fn) :
    false = Tryd.pinned.checked.prog.looks [] ∧ ∀ (j : Nat) t, fn.params[j]? = some t → Tryd.pinned.checked.prog.wantsStandIn t = false := by
  obtain rfl : f = 6 := Option.some.inj ((show Tryd.prog.funcNamed "sumpter/sumpterlaw04.ShaForks" = some 6 by kernel_rfl).symm.trans hf) |>.symm
  obtain rfl : fn = Tryd.f6 := (Option.some.inj (Tryd.func6.symm.trans hfn)).symm
  refine ⟨by kernel_rfl, fun j t ht => ?_⟩
  rw [Tryd.params6] at ht
  have hm : t ∈ [22, 22, 22] := by simpa using Array.mem_of_getElem? ht
  have hall : ([22, 22, 22].all fun u => !Tryd.prog.wantsStandIn u) = true := by kernel_rfl
  exact (show Tryd.prog.wantsStandIn t = false by simpa using List.all_eq_true.1 hall t hm)
end Go.Proofs.YthcpnhafikojnaaDoor.shaForks

namespace Go.Proofs.YthcpnhafikojnaaDoor
/-- The card of ShaForks. -/
theorem shaForks_card : Rows.ShaForksCardSaid :=
  Claim7.holds_tied_plain_at .later [] _ _ _ _ shaForks.said (fun _ h => by cases h) (by kernel_rfl) (fun _ h => by cases h) shaForks_row_tie rfl ⟨rfl, rfl⟩ (by kernel_rfl) rfl shaForks.plain (by kernel_rfl)
#print axioms shaForks_card
end Go.Proofs.YthcpnhafikojnaaDoor
