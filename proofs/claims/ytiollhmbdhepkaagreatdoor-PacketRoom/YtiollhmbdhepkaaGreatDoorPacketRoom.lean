/-
  A packet whose body fills its room has just as many bytes as a packet may; with one more it is refused. No conditions but the given statement's own.
-/
import Derived.Test.YtiollhmbdhepkaaGreatDoorZbt
namespace Go.Proofs.YtiollhmbdhepkaaGreatDoor.packetRoom
open Go.ChangeShapes Go.WideShapes Go.ChangeAt Go.RowKit Go.Deep Go.ChangeMaps
set_option maxRecDepth 100000

set_option maxHeartbeats 16000000 in
theorem walk (K : List Int) (v1 : Value) (L1 : PkI) (w : World) (ht : Tb w ∧ Mc.Tabs w) (hK : K.length = 32) (hKb : Sh.Pl.Byt K) (h1 : PktI w v1 L1) :
    Calls Tryz.prog 7 #[.agg (Sh.u8s K), v1] w fun e w' => e = .returned (.bool true) ∧ Below w.heap.size w w' := by
  obtain ⟨k, c, n, a, m, cp, X⟩ := L1
  obtain ⟨rfl, hs, hk, -, -⟩ := h1
  simp only at hs hk ⊢
  obtain ⟨W1, hW1⟩ : ∃ W1, W1 = w.alloc (.cells (Sh.u8s K) 47) := ⟨_, rfl⟩
  obtain ⟨w2, hW2⟩ : ∃ w2, w2 = W1.alloc (.cells #[.int .u8 k, .int .i64 c, .int .i64 n, .slice a m cp] 49) := ⟨_, rfl⟩
  have b1 : Below w.heap.size w W1 := by rw [hW1]; exact al_below _ _
  have z1 : W1.heap.size = w.heap.size + 1 := by rw [hW1]; simp
  have b12 : Below W1.heap.size W1 w2 := by rw [hW2]; exact al_below _ _
  have HB2 : Hid (Below w.heap.size w w2) := b1.trans (b12.mono b1.size)
  have hg1 : W1.heap[w.heap.size]? = some (.cells (Sh.u8s K) 47 (0, 0)) := by rw [hW1]; exact heap_alloc_new _ _
  have HG2 : Hid (QB w2 (w.heap.size + 1) k c n (.slice a m cp)) := by unfold Hid; rw [← z1, hW2]; exact QB.new _ _ _ _ _
  have HK2 : Hid (w2.heap[w.heap.size]? = some (.cells (Sh.u8s K) 47 (0, 0))) := blk_kept hg1 b12 (blk_lt hg1)
  have HT : Hid (Tb w ∧ Mc.Tabs w) := ht
  have HKK : Hid (K.length = 32 ∧ Sh.Pl.Byt K) := ⟨hK, hKb⟩
  have HKB : Hid (0 ≤ k ∧ k < 256) := hk
  have HI : Hid ((Tryz.prog.info? 47).map (·.size) = some (Sh.u8s K).size) := by unfold Hid; rw [Sh.u8s_size, hK]; exact Sh.size26
  have hW2' : w2 = (w.alloc (.cells (Sh.u8s K) 47)).alloc (.cells #[.int .u8 k, .int .i64 c, .int .i64 n, .slice a m cp] 49) := by rw [hW2, hW1]
  have HAW : Hid (∀ x, Below w.heap.size w x → Calls Tryz.prog 18 #[] x fun e w' => e = .returned (.bool true) ∧ Below x.heap.size x w') := fun x hx => pawake_any x (ht.1.next hx) (ht.2.kept hx)
  have HSE : Hid (∀ (x : World) (k c n : Int) (b : Option Addr) (q qc : Nat) (Y : List Int), Below w.heap.size w x → 0 ≤ k ∧ k < 256 → Sl x (.slice b q qc) Y → q = Y.length → Calls Tryz.prog 19 #[.agg (Sh.u8s K), .agg #[.int .u8 k, .int .i64 c, .int .i64 n, .slice b q qc]] x fun e w' => ∃ a2 c2, e = .returned (.tuple #[.slice a2 (selL K k c n Y).length c2, .int .i64 (selE k c n Y.length)]) ∧ Below x.heap.size x w') := fun x k c n b q qc Y hx hk sx hq => (pseal_any K k c n b q qc Y x (ht.2.kept hx) hK hKb hk sx hq).mono fun e w' ⟨v, e1, e2, e3⟩ => by
    obtain ⟨a2, c2, rfl⟩ : ∃ a2 c2, v = .slice a2 (selL K k c n Y).length c2 := by
      rcases e2.2 with ⟨e4, h0⟩ | ⟨g, cap, cur, e4, -⟩
      · exact ⟨none, 0, by rw [e4, h0]⟩
      · exact ⟨_, _, e4⟩
    exact ⟨a2, c2, e1, e3⟩
  have cr := room_any k c n a m cp w2 (ht.2.kept HB2.out).2 hk
  clear hW2 b1 b12 hg1 z1 hs hk ht hK hKb
  have hW2 := hW2'
  clear hW2' hW1
  generalize hku : Sh.u8s K = KU at *
  cases hmb : mb k c n
  · rw [rmI_no hmb] at cr
    have hse : selE k c n ([] : List Int).length = 2 := by
      rcases selE_cases k c n ([] : List Int).length with ⟨_, q⟩ | ⟨q, _⟩ | ⟨q, _⟩
      · exact q
      · rw [hmb] at q; cases q
      · rw [hmb] at q; cases q
    have HS0 : Hid (selE k c n ([] : List Int).length = 2) := hse
    have HLL : Hid (selL K k c n ([] : List Int) = []) := selL_no (by rw [hse]; decide)
    clear hmb hse hku
    go_enter Tryz.func7, Tryz.ntmps7
    go_upto_region 1 with fail
    rw [← hW2]
    clear hW2
    go_wp2_with (refine wpList_load_row rfl 49 _ rfl (w.heap.size + 1) rfl 49 #[.int .u8 k, .int .i64 c, .int .i64 n, .slice a m cp] (0, 0) _ HG2.out Tryz.underlying49 rfl infoQ ?_)
    refine cr.mono ?_
    rintro e w3 ⟨rfl, b3⟩
    have HB3 : Hid (Below w.heap.size w w3) := HB2.out.trans (b3.mono HB2.out.size)
    have HG3 : Hid (QB w3 (w.heap.size + 1) k c n (.slice a m cp)) := HG2.out.kept b3
    have HK3 : Hid (w3.heap[w.heap.size]? = some (.cells KU 47 (0, 0))) := blk_kept HK2.out b3 (blk_lt HK2.out)
    obtain ⟨c0, c1, c2, c3⟩ := HG3.out.kc
    have cs := HSE.out w3 k c n none 0 0 [] HB3.out HKB.out (Sl.none _) rfl
    rw [HS0.out, HLL.out] at cs
    clear cr b3 HB2 HG2 HK2 HSE HS0 HLL
    go_wp2_with (refine wpList_load_row rfl 47 _ rfl w.heap.size rfl 47 KU (0, 0) _ HK3.out Tryz.underlying47 rfl HI.out ?_)
    refine cs.mono ?_
    rintro e w4 ⟨a4, q4, rfl, b4⟩
    have HB4 : Hid (Below w.heap.size w w4) := HB3.out.trans (b4.mono HB3.out.size)
    have ca := HAW.out w4 HB4.out
    clear cs b4 HB3 HG3 HK3 c0 c1 c2 c3
    go_wp2_with fail
    refine ca.mono ?_
    rintro e w5 ⟨rfl, b5⟩
    have HB5 : Hid (Below w.heap.size w w5) := HB4.out.trans (b5.mono HB4.out.size)
    clear ca b5
    go_wp2
    go_ret
    exact ⟨rfl, HB5.out⟩
  · have hr := rmI_yes hmb
    have hl17 := hdL_le k c n
    have hl1 := hdL_pos k c n
    obtain ⟨N, hN⟩ : ∃ N : Nat, rmI k c n = (N : Int) := ⟨(rmI k c n).toNat, by omega⟩
    obtain ⟨N1, hN1⟩ : ∃ N1 : Nat, N1 = N + 1 := ⟨_, rfl⟩
    have hNb : N ≤ 1183 ∧ 1167 ≤ N := by omega
    have hse0 : selE k c n (List.replicate N (0 : Int)).length = 0 := by
      rw [List.length_replicate]
      rcases selE_cases k c n N with ⟨q, _⟩ | ⟨_, q, _⟩ | ⟨_, _, q⟩
      · rw [hmb] at q; cases q
      · omega
      · exact q
    have hse5 : selE k c n (List.replicate N1 (0 : Int)).length = 5 := by
      rw [List.length_replicate]
      rcases selE_cases k c n N1 with ⟨q, _⟩ | ⟨_, _, q⟩ | ⟨_, q, _⟩
      · rw [hmb] at q; cases q
      · exact q
      · omega
    have HS0 : Hid (selE k c n (List.replicate N (0 : Int)).length = 0) := hse0
    have HS5 : Hid (selE k c n (List.replicate N1 (0 : Int)).length = 5) := hse5
    have HL0 : Hid ((selL K k c n (List.replicate N (0 : Int))).length = 1200) := by
      unfold Hid
      rw [selL_yes hse0, List.length_append, List.length_append, List.length_replicate]
      have : (Mc.btag K (hdL k c n) (List.replicate N (0 : Int))).length = 16 := Mc.tagB_len _ _
      omega
    have HL5 : Hid (selL K k c n (List.replicate N1 (0 : Int)) = []) := selL_no (by rw [hse5]; decide)
    rw [hN] at cr
    have k1 : ((N : Int) == 0) = false := by simp; omega
    have k2 : IntKind.i64.wrap ((N : Int) + 1) = (N1 : Int) := by rw [wrP (by omega) (by omega)]; omega
    have mk1 := mkN N (by omega)
    have mk2 := mkN N1 (by omega)
    have HN2 : Hid (N ≤ 2000 ∧ N1 ≤ 2000) := ⟨by omega, by omega⟩
    clear hmb hr hl17 hl1 hN hN1 hNb hse0 hse5 hku
    go_enter Tryz.func7, Tryz.ntmps7
    go_upto_region 1 with fail
    rw [← hW2]
    clear hW2
    go_wp2_with (refine wpList_load_row rfl 49 _ rfl (w.heap.size + 1) rfl 49 #[.int .u8 k, .int .i64 c, .int .i64 n, .slice a m cp] (0, 0) _ HG2.out Tryz.underlying49 rfl infoQ ?_)
    refine cr.mono ?_
    rintro e w3 ⟨rfl, b3⟩
    have HB3 : Hid (Below w.heap.size w w3) := HB2.out.trans (b3.mono HB2.out.size)
    have HG3 : Hid (QB w3 (w.heap.size + 1) k c n (.slice a m cp)) := HG2.out.kept b3
    have HK3 : Hid (w3.heap[w.heap.size]? = some (.cells KU 47 (0, 0))) := blk_kept HK2.out b3 (blk_lt HK2.out)
    obtain ⟨z4, hz4⟩ : ∃ x, x = w3.alloc (.cells (Sh.u8s (List.replicate N 0)) 5) := ⟨_, rfl⟩
    have bz4 : Below w3.heap.size w3 z4 := by rw [hz4]; exact al_below _ _
    have gz4 : QB z4 (w.heap.size + 1) k c n (.slice a m cp) := HG3.out.kept bz4
    have kf := gz4.frz 3
    have kq := gz4.kc.c3
    obtain ⟨w4, hw4⟩ : ∃ x, x = z4.setCell ⟨w.heap.size + 1, 3, none⟩ (.slice (some ⟨w3.heap.size, 0, none⟩) N N) := ⟨_, rfl⟩
    have Hz : Hid (Below w.heap.size w z4) := HB3.out.trans (bz4.mono HB3.out.size)
    have HB4 : Hid (Below w.heap.size w w4) := by unfold Hid; rw [hw4]; exact bt_set Hz.out (Nat.le_succ _)
    have HG4 : Hid (QB w4 (w.heap.size + 1) k c n (.slice (some ⟨w3.heap.size, 0, none⟩) N N)) := by unfold Hid; rw [hw4]; exact gz4.set3
    have HK4 : Hid (w4.heap[w.heap.size]? = some (.cells KU 47 (0, 0))) := by unfold Hid; rw [hw4]; exact other_set (blk_kept HK3.out bz4 (blk_lt HK3.out)) (by omega)
    have HX4 : Hid (Sl w4 (.slice (some ⟨w3.heap.size, 0, none⟩) N N) (List.replicate N 0)) := by
      unfold Hid
      rw [hw4, hz4]
      exact sl_other (sl_zero w3 N (by have := HN2.out; omega)) (by have := blk_lt HG3.out; omega)
    have sz := hz4.symm
    clear cr b3 HB2 HG2 HK2 HB3 HK3 bz4 Hz hz4
    go_upto_region 6 with fail
    try rw [← hw4]
    clear sz hw4 kq kf mk1 k1 gz4 HG3
    have cs := HSE.out w4 k c n _ N N _ HB4.out HKB.out HX4.out (by simp)
    rw [HS0.out, HL0.out] at cs
    go_wp2_with (first | refine wpList_load_row rfl 47 _ rfl w.heap.size rfl 47 KU (0, 0) _ HK4.out Tryz.underlying47 rfl HI.out ?_ | refine wpList_load_row rfl 49 _ rfl (w.heap.size + 1) rfl 49 #[.int .u8 k, .int .i64 c, .int .i64 n, (.slice (some ⟨w3.heap.size, 0, none⟩) N N)] (0, 0) _ HG4.out Tryz.underlying49 rfl infoQ ?_)
    go_wp2_with (first | refine wpList_load_row rfl 47 _ rfl w.heap.size rfl 47 KU (0, 0) _ HK4.out Tryz.underlying47 rfl HI.out ?_ | refine wpList_load_row rfl 49 _ rfl (w.heap.size + 1) rfl 49 #[.int .u8 k, .int .i64 c, .int .i64 n, (.slice (some ⟨w3.heap.size, 0, none⟩) N N)] (0, 0) _ HG4.out Tryz.underlying49 rfl infoQ ?_)
    try go_wp2_with fail
    refine cs.mono ?_
    rintro e w5 ⟨a5, q5, rfl, b5⟩
    have HB5 : Hid (Below w.heap.size w w5) := HB4.out.trans (b5.mono HB4.out.size)
    have HG5 : Hid (QB w5 (w.heap.size + 1) k c n (.slice (some ⟨w3.heap.size, 0, none⟩) N N)) := HG4.out.kept b5
    have HK5 : Hid (w5.heap[w.heap.size]? = some (.cells KU 47 (0, 0))) := blk_kept HK4.out b5 (blk_lt HK4.out)
    obtain ⟨z6, hz6⟩ : ∃ x, x = w5.alloc (.cells (Sh.u8s (List.replicate N1 0)) 5) := ⟨_, rfl⟩
    have bz6 : Below w5.heap.size w5 z6 := by rw [hz6]; exact al_below _ _
    have gz6 : QB z6 (w.heap.size + 1) k c n (.slice (some ⟨w3.heap.size, 0, none⟩) N N) := HG5.out.kept bz6
    have kf := gz6.frz 3
    have kq := gz6.kc.c3
    obtain ⟨w6, hw6⟩ : ∃ x, x = z6.setCell ⟨w.heap.size + 1, 3, none⟩ (.slice (some ⟨w5.heap.size, 0, none⟩) N1 N1) := ⟨_, rfl⟩
    have Hz : Hid (Below w.heap.size w z6) := HB5.out.trans (bz6.mono HB5.out.size)
    have HB6 : Hid (Below w.heap.size w w6) := by unfold Hid; rw [hw6]; exact bt_set Hz.out (Nat.le_succ _)
    have HG6 : Hid (QB w6 (w.heap.size + 1) k c n (.slice (some ⟨w5.heap.size, 0, none⟩) N1 N1)) := by unfold Hid; rw [hw6]; exact gz6.set3
    have HK6 : Hid (w6.heap[w.heap.size]? = some (.cells KU 47 (0, 0))) := by unfold Hid; rw [hw6]; exact other_set (blk_kept HK5.out bz6 (blk_lt HK5.out)) (by omega)
    have HX6 : Hid (Sl w6 (.slice (some ⟨w5.heap.size, 0, none⟩) N1 N1) (List.replicate N1 0)) := by
      unfold Hid
      rw [hw6, hz6]
      exact sl_other (sl_zero w5 N1 (by have := HN2.out; omega)) (by have := blk_lt HG5.out; omega)
    have sz := hz6.symm
    clear cs b5 HB4 HG4 HK4 HX4 HB5 HK5 bz6 Hz hz6
    go_upto_region 8 with fail
    try rw [← hw6]
    clear sz hw6 kq kf mk2 k2 gz6 HG5
    have cs := HSE.out w6 k c n _ N1 N1 _ HB6.out HKB.out HX6.out (by simp)
    rw [HS5.out, HL5.out] at cs
    go_wp2_with (first | refine wpList_load_row rfl 47 _ rfl w.heap.size rfl 47 KU (0, 0) _ HK6.out Tryz.underlying47 rfl HI.out ?_ | refine wpList_load_row rfl 49 _ rfl (w.heap.size + 1) rfl 49 #[.int .u8 k, .int .i64 c, .int .i64 n, (.slice (some ⟨w5.heap.size, 0, none⟩) N1 N1)] (0, 0) _ HG6.out Tryz.underlying49 rfl infoQ ?_)
    go_wp2_with (first | refine wpList_load_row rfl 47 _ rfl w.heap.size rfl 47 KU (0, 0) _ HK6.out Tryz.underlying47 rfl HI.out ?_ | refine wpList_load_row rfl 49 _ rfl (w.heap.size + 1) rfl 49 #[.int .u8 k, .int .i64 c, .int .i64 n, (.slice (some ⟨w5.heap.size, 0, none⟩) N1 N1)] (0, 0) _ HG6.out Tryz.underlying49 rfl infoQ ?_)
    try go_wp2_with fail
    refine cs.mono ?_
    rintro e w7 ⟨a7, q7, rfl, b7⟩
    have HB7 : Hid (Below w.heap.size w w7) := HB6.out.trans (b7.mono HB6.out.size)
    have ca := HAW.out w7 HB7.out
    clear cs b7 HB6 HG6 HK6 HX6 HSE
    go_wp2_with fail
    refine ca.mono ?_
    rintro e w8 ⟨rfl, b8⟩
    have HB8 : Hid (Below w.heap.size w w8) := HB7.out.trans (b8.mono HB7.out.size)
    clear ca b8
    go_wp2
    go_ret
    exact ⟨rfl, HB8.out⟩

theorem contract (H : Type) (enc : TypeId × Value → H) (W : World) (base : Nat) (args : Array Value) (ds gs : List (DataW H)) (before : List MemPlace)
    (hval : ∀ (j : Nat) t v, Tryz.f7.params[j]? = some t → args[j]? = some v → Value.okWide Tryz.prog W .any base t v)
    (hW : DataW.Whole enc Tryz.prog Tryz.f7.params.toList Rows.packetRoomSpec.vars false W args.toList ds gs before) (hL : laidMetH Tryz.prog Rows.packetRoomRow.laid W)
    (hsz0 : (DataW.weightsEach Tryz.prog (Tryz.f7.params.toList ++ Rows.packetRoomSpec.plain.varTypes Tryz.prog) (ds ++ gs)).all (· ≤ reachBytes) = true) :
    Calls Tryz.prog 7 args W fun e W' => ∃ v, e = .returned v ∧ Rows.packetRoomSpec.post enc Tryz.prog Tryz.f7 false true false false W args v W' := by
  have hW' := hW
  obtain ⟨p, q, hA0, hV, rfl, hfz, hnd⟩ := hW
  have hA : DataW.TrodAll enc Tryz.prog W 0 (fun _ => true) true Tryz.f7.params.toList args.toList ds p := hA0
  rw [Tryz.params7] at hA hval hsz0
  obtain ⟨v0, vs0, d0, ds0, p0, q0, hargs, rfl, rfl, h0, r0⟩ := trodAll_cons hA
  obtain ⟨v1, vs1, d1, ds1, p1, q1, rfl, rfl, rfl, h1, r1⟩ := trodAll_cons r0
  obtain ⟨rfl, rfl, rfl⟩ := trodAll_nil r1
  obtain rfl : args = #[v0, v1] := by cases args; simp_all
  obtain ⟨rfl, rfl⟩ := trodVars_none hV
  have k0 := h0
  have lt0 : ∀ x ∈ p0, x.block < W.heap.size := by obtain ⟨m, hm⟩ := k0; exact DataW.trod_lt m _ _ _ hm
  obtain ⟨A0, rfl, wl0, wb0⟩ := hash_open (hval 0 47 v0 rfl rfl) h0
  have k1 := h1
  have lt1 : ∀ x ∈ p1, x.block < W.heap.size := by obtain ⟨m, hm⟩ := k1; exact DataW.trod_lt m _ _ _ hm
  obtain ⟨L1, w1⟩ := pkt_in (hval 1 49 v1 rfl rfl) h1
  clear hA0
  refine (walk A0 v1 L1 W (tbs_of hL) wl0 wb0 w1).mono fun e W' ⟨he, bel⟩ => ?_
  subst he
  exact ⟨_, rfl, _, _, _, [], _, [], hW', trodAll_mk1 (shut_bool Tryz.underlying4 _), (trodAll_cons_mk (Below.trod laidOut (by kernel_rfl) (of_decide_eq_true (by kernel_rfl)) k0 bel lt0) (trodAll_cons_mk (Below.trod laidOut (by kernel_rfl) (of_decide_eq_true (by kernel_rfl)) k1 bel lt1) trodAll_mk0)), rfl, bel.frame _, fun h => by cases h⟩

theorem laid_met (os : Os) : laidMet Tryz.prog Rows.packetRoomRow.laid (({ World.holding Tryz.prog os ⟨#[], #[], []⟩ with heap := (((((World.holding Tryz.prog os ⟨#[], #[], []⟩).heap.modify 0 (fun
      | .cells _ t frozen => .cells shpT t frozen
      | o => o)).modify 1 (fun
      | .cells _ t frozen => .cells widT t frozen
      | o => o)).modify 2 (fun
      | .cells _ t frozen => .cells firT t frozen
      | o => o)).modify 3 (fun
      | .cells _ t frozen => .cells rndT t frozen
      | o => o)) } : World).forCall (fun _ _ => 0) ⟨#[], #[.agg #[.int .u8 0, .int .u8 0, .int .u8 0, .int .u8 0, .int .u8 0, .int .u8 0, .int .u8 0, .int .u8 0, .int .u8 0, .int .u8 0, .int .u8 0, .int .u8 0, .int .u8 0, .int .u8 0, .int .u8 0, .int .u8 0, .int .u8 0, .int .u8 0, .int .u8 0, .int .u8 0, .int .u8 0, .int .u8 0, .int .u8 0, .int .u8 0, .int .u8 0, .int .u8 0, .int .u8 0, .int .u8 0, .int .u8 0, .int .u8 0, .int .u8 0, .int .u8 0], .agg #[.int .u8 0, .int .i64 0, .int .i64 0, .slice none 0 0]], []⟩).memory :=
  laidMet_of_run' 8 (by kernel_rfl) (by kernel_rfl)
theorem reads (os : Os) {H : Type} (enc : TypeId × Value → H) : ∃ places, DataW.whole enc Tryz.prog (({ World.holding Tryz.prog os ⟨#[], #[], []⟩ with heap := (((((World.holding Tryz.prog os ⟨#[], #[], []⟩).heap.modify 0 (fun
      | .cells _ t frozen => .cells shpT t frozen
      | o => o)).modify 1 (fun
      | .cells _ t frozen => .cells widT t frozen
      | o => o)).modify 2 (fun
      | .cells _ t frozen => .cells firT t frozen
      | o => o)).modify 3 (fun
      | .cells _ t frozen => .cells rndT t frozen
      | o => o)) } : World).forCall (fun _ _ => 0) ⟨#[], #[.agg #[.int .u8 0, .int .u8 0, .int .u8 0, .int .u8 0, .int .u8 0, .int .u8 0, .int .u8 0, .int .u8 0, .int .u8 0, .int .u8 0, .int .u8 0, .int .u8 0, .int .u8 0, .int .u8 0, .int .u8 0, .int .u8 0, .int .u8 0, .int .u8 0, .int .u8 0, .int .u8 0, .int .u8 0, .int .u8 0, .int .u8 0, .int .u8 0, .int .u8 0, .int .u8 0, .int .u8 0, .int .u8 0, .int .u8 0, .int .u8 0, .int .u8 0, .int .u8 0], .agg #[.int .u8 0, .int .i64 0, .int .i64 0, .slice none 0 0]], []⟩).memory Tryz.f7.params.toList Rows.packetRoomSpec.vars false #[Value.agg #[.int .u8 0, .int .u8 0, .int .u8 0, .int .u8 0, .int .u8 0, .int .u8 0, .int .u8 0, .int .u8 0, .int .u8 0, .int .u8 0, .int .u8 0, .int .u8 0, .int .u8 0, .int .u8 0, .int .u8 0, .int .u8 0, .int .u8 0, .int .u8 0, .int .u8 0, .int .u8 0, .int .u8 0, .int .u8 0, .int .u8 0, .int .u8 0, .int .u8 0, .int .u8 0, .int .u8 0, .int .u8 0, .int .u8 0, .int .u8 0, .int .u8 0, .int .u8 0], .agg #[.int .u8 0, .int .i64 0, .int .i64 0, .slice none 0 0]].toList 8 = some ([.agg [.lit (.int .u8 0), .lit (.int .u8 0), .lit (.int .u8 0), .lit (.int .u8 0), .lit (.int .u8 0), .lit (.int .u8 0), .lit (.int .u8 0), .lit (.int .u8 0), .lit (.int .u8 0), .lit (.int .u8 0), .lit (.int .u8 0), .lit (.int .u8 0), .lit (.int .u8 0), .lit (.int .u8 0), .lit (.int .u8 0), .lit (.int .u8 0), .lit (.int .u8 0), .lit (.int .u8 0), .lit (.int .u8 0), .lit (.int .u8 0), .lit (.int .u8 0), .lit (.int .u8 0), .lit (.int .u8 0), .lit (.int .u8 0), .lit (.int .u8 0), .lit (.int .u8 0), .lit (.int .u8 0), .lit (.int .u8 0), .lit (.int .u8 0), .lit (.int .u8 0), .lit (.int .u8 0), .lit (.int .u8 0)], .agg [.lit (.int .u8 0), .lit (.int .i64 0), .lit (.int .i64 0), .nil]], [], places) :=
  ⟨[], by kernel_rfl⟩

set_option maxRecDepth 100000 in
theorem lifted (os : Os) (started : os.Started) (H : Type) (enc : TypeId × Value → H) (F : Stop.Interp) :
    ReturnsInHanded {} Tryz.checked os 7 .any ((OpenSpec.ofChange Rows.packetRoomSpec).preRow enc Tryz.prog Tryz.f7 Rows.packetRoomRow.domain false Rows.packetRoomRow.laid) (((OpenSpec.ofChange Rows.packetRoomSpec).at F).post enc Tryz.prog Tryz.f7 false true false false) := by
  obtain ⟨places, hx⟩ := reads os enc
  refine returnsInHanded_of_row (C := Tryz.checked) (s := OpenSpec.ofChange Rows.packetRoomSpec) own started (by kernel_rfl) Tryz.func7
    (witness_row_at (enc := enc) (C := Tryz.checked) false ({ World.holding Tryz.prog os ⟨#[], #[], []⟩ with heap := (((((World.holding Tryz.prog os ⟨#[], #[], []⟩).heap.modify 0 (fun
      | .cells _ t frozen => .cells shpT t frozen
      | o => o)).modify 1 (fun
      | .cells _ t frozen => .cells widT t frozen
      | o => o)).modify 2 (fun
      | .cells _ t frozen => .cells firT t frozen
      | o => o)).modify 3 (fun
      | .cells _ t frozen => .cells rndT t frozen
      | o => o)) } : World) #[.agg #[.int .u8 0, .int .u8 0, .int .u8 0, .int .u8 0, .int .u8 0, .int .u8 0, .int .u8 0, .int .u8 0, .int .u8 0, .int .u8 0, .int .u8 0, .int .u8 0, .int .u8 0, .int .u8 0, .int .u8 0, .int .u8 0, .int .u8 0, .int .u8 0, .int .u8 0, .int .u8 0, .int .u8 0, .int .u8 0, .int .u8 0, .int .u8 0, .int .u8 0, .int .u8 0, .int .u8 0, .int .u8 0, .int .u8 0, .int .u8 0, .int .u8 0, .int .u8 0], .agg #[.int .u8 0, .int .i64 0, .int .i64 0, .slice none 0 0]] rfl (by kernel_rfl) (by kernel_rfl) (by kernel_rfl)
      (OpenSpec.preRow_of_cond 8 hx (by kernel_rfl) (fun k hk => by cases hk) (by kernel_rfl) (laid_met os))) ?_
  intro W base args ds gs before hval hW _ _ hsz hL _ _
  exact contract H enc W base args ds gs before hval hW hL hsz

theorem said : Rows.PacketRoomSaid :=
  OpenClaim.holds_of_cond 7 Tryz.f7 rfl rfl rfl rfl rfl rfl rfl ⟨rfl, rfl, rfl, rfl, rfl⟩ rfl rfl rfl rfl rfl (by kernel_rfl) Tryz.func7 (by kernel_rfl)
    (of_decide_eq_true (by kernel_rfl)) (by unfold Func.isWrapper; first | (rw [if_pos (by decide +kernel)]; kernel_rfl) | (rw [if_neg (by decide +kernel)]; exact ⟨rfl, rfl⟩))
    (fun os started H enc _ F => by rw [OpenClaim.pre_eq_preRow]; exact lifted os started H enc F)

theorem plain (f : FuncId) (fn : Func) (hf : Tryz.pinned.checked.prog.funcNamed "sumpter/sumpterlaw19.PacketRoom" = some f) (hfn : Tryz.pinned.checked.prog.funcs[f]? = some fn) :
    true = Tryz.pinned.checked.prog.looks [] ∧ ∀ (j : Nat) t, fn.params[j]? = some t → Tryz.pinned.checked.prog.wantsStandIn t = false := by
  obtain rfl : f = 7 := Option.some.inj ((show Tryz.prog.funcNamed "sumpter/sumpterlaw19.PacketRoom" = some 7 by kernel_rfl).symm.trans hf) |>.symm
  obtain rfl : fn = Tryz.f7 := (Option.some.inj (Tryz.func7.symm.trans hfn)).symm
  refine ⟨by kernel_rfl, fun j t ht => ?_⟩
  rw [Tryz.params7] at ht
  have hm : t ∈ [47, 49] := by simpa using Array.mem_of_getElem? ht
  have hall : ([47, 49].all fun u => !Tryz.prog.wantsStandIn u) = true := by kernel_rfl
  exact (show Tryz.prog.wantsStandIn t = false by simpa using List.all_eq_true.1 hall t hm)
end Go.Proofs.YtiollhmbdhepkaaGreatDoor.packetRoom

namespace Go.Proofs.YtiollhmbdhepkaaGreatDoor
/-- The card of PacketRoom. -/
theorem packetRoom_card : Rows.PacketRoomCardSaid :=
  Claim7.holds_tied_plain_at .later [] _ _ _ _ packetRoom.said (fun _ h => by cases h) (by kernel_rfl) (fun _ h => by cases h) packetRoom_row_tie rfl ⟨rfl, rfl⟩ (by kernel_rfl) rfl packetRoom.plain (by kernel_rfl)
#print axioms packetRoom_card
end Go.Proofs.YtiollhmbdhepkaaGreatDoor
