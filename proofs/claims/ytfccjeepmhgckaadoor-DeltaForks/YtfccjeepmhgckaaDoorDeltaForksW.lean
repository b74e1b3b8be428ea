/- walk -/
import Derived.Test.YtfccjeepmhgckaaDoorFr
import Derived.Test.YtfccjeepmhgckaaDoorFd3
import Derived.Deep.DeepCutAuto
namespace Go.Proofs.YtfccjeepmhgckaaDoor.deltaForks
open Go.ChangeShapes Go.WideShapes Go.ChangeAt Go.RowKit Go.Deep Go.ChangeMaps
set_option maxRecDepth 100000
set_option maxHeartbeats 16000000 in
theorem walk (v0 : Value) (Za : List Int) (v1 : Value) (Zb : List Int) (v2 : Value) (Zc : List Int) (w : World) (hw : Fi.Wid w) (h0 : SlX w v0 Za) (h1 : SlX w v1 Zb) (h2 : SlX w v2 Zc) :
    Calls Tryd.prog 4 #[v0, v1, v2] w fun e w' => e = .returned (.bool true) ∧ Below w.heap.size w w' := by
  have CA : Hid (∀ W, Below w.heap.size w W → Calls Tryd.prog 5 #[] W fun e w' => e = .returned (.bool true) ∧ Below w.heap.size w w') := fun W hb => by
    refine (awake_any W (Wid.kept hw hb)).mono ?_
    rintro e w' ⟨rfl, b⟩
    exact ⟨rfl, hb.trans (b.mono hb.size)⟩
  have HT : Hid (∀ W, Below w.heap.size w W → Fi.Wid W) := fun W hb => Wid.kept hw hb
  obtain ⟨a0, c0, rfl, hc0, hm0, -⟩ := id h0.1
  obtain ⟨a1, c1, rfl, hc1, hm1, -⟩ := id h1.1
  obtain ⟨a2, c2, rfl, hc2, hm2, -⟩ := id h2.1
  have HV0 : Hid (∀ W, Below w.heap.size w W → Sl W (.slice a0 Za.length c0) Za) := fun W hb => h0.1.kept hb
  have HV1 : Hid (∀ W, Below w.heap.size w W → Sl W (.slice a1 Zb.length c1) Zb) := fun W hb => h1.1.kept hb
  have HV2 : Hid (∀ W, Below w.heap.size w W → Sl W (.slice a2 Zc.length c2) Zc) := fun W hb => h2.1.kept hb
  obtain ⟨LA, hLA⟩ : ∃ LA, LA = Za.length := ⟨_, rfl⟩
  obtain ⟨LB, hLB⟩ : ∃ LB, LB = Zb.length := ⟨_, rfl⟩
  obtain ⟨LC, hLC⟩ : ∃ LC, LC = Zc.length := ⟨_, rfl⟩
  have HLA : Hid (LA = Za.length) := hLA
  have HLB : Hid (LB = Zb.length) := hLB
  have HLC : Hid (LC = Zc.length) := hLC
  rw [← hLA] at HV0 hc0 ⊢
  rw [← hLB] at HV1 hc1 ⊢
  rw [← hLC] at HV2 hc2 ⊢
  unfold maxLen at hm0 hm1 hm2
  clear h0 h1 h2 hw hLA hLB hLC
  by_cases q0 : 2000 < LA
  · have q1 : (2000 : Int) < (LA : Int) := by omega
    have c := CA.out w (Below.refl _ _)
    clear HV0 HV1 HV2
    go_enter Tryd.func4, Tryd.ntmps4
    go_wp2_with fail
    refine c.mono ?_
    rintro e wz ⟨rfl, bz⟩
    clear c
    go_wp2
    go_ret
    exact ⟨rfl, bz⟩
  have q1 : ¬ (2000 : Int) < (LA : Int) := by omega
  by_cases q2 : 2000 < LB
  · have q3 : (2000 : Int) < (LB : Int) := by omega
    have c := CA.out w (Below.refl _ _)
    clear HV0 HV1 HV2
    go_enter Tryd.func4, Tryd.ntmps4
    go_wp2_with fail
    refine c.mono ?_
    rintro e wz ⟨rfl, bz⟩
    clear c
    go_wp2
    go_ret
    exact ⟨rfl, bz⟩
  have q3 : ¬ (2000 : Int) < (LB : Int) := by omega
  by_cases q4 : 2000 < LC
  · have q5 : (2000 : Int) < (LC : Int) := by omega
    have c := CA.out w (Below.refl _ _)
    clear HV0 HV1 HV2
    go_enter Tryd.func4, Tryd.ntmps4
    go_wp2_with fail
    refine c.mono ?_
    rintro e wz ⟨rfl, bz⟩
    clear c
    go_wp2
    go_ret
    exact ⟨rfl, bz⟩
  have q5 : ¬ (2000 : Int) < (LC : Int) := by omega
  have cn := dnew_any 100 w (by decide)
  go_enter Tryd.func4, Tryd.ntmps4
  go_wp2_with fail
  refine cn.mono ?_
  rintro e w1 ⟨rfl, d1, b1⟩
  clear cn
  obtain ⟨W2, hW2⟩ : ∃ W2, W2 = w1.alloc (.cells #[.int .i64 100, .int .i64 0, .slice none 0 0, .int .i64 0] 28) := ⟨_, rfl⟩
  have b2 : Below w1.heap.size w1 W2 := by rw [hW2]; exact al_below _ _
  have ST0 : Hid (ST w W2 w.heap.size w1.heap.size (.slice none 0 0) (.slice none 0 0) ⟨100, 0, [], 0⟩) := by
    refine ⟨d1.kept b2, ?_, ⟨Sl.none _, fun x n c e _ => (by cases e)⟩, b1.trans (b2.mono b1.size), fun k e => (by cases e), fun k e => (by cases e), ?_, b1.size⟩
    · rw [hW2]; exact heap_alloc_new _ _
    · have := d1.lt; omega
  clear d1 b1 b2
  have c := feed_keep W2 w.heap.size w.heap.size (.slice none 0 0) _ ⟨100, 0, [], 0⟩ Za ST0.out.dc (HV0.out W2 ST0.out.bel) (fun W hb => HT.out W (ST0.out.bel.trans hb)) (by have := HLA.out; simp only [List.length_nil]; omega)
  go_wp2_with fail
  rw [← hW2]
  clear hW2
  generalize w1.heap.size = gx at *
  refine c.mono ?_
  intro e w3 hf
  obtain ⟨lv, rv1, rfl, sm, hkeep⟩ := ST0.out.fedq hf
  clear c hf
  have HB1 : Hid ((feedP ⟨100, 0, [], 0⟩ Za).1.rest.length ≤ 2000) := by
    have := (feedP_len (D := ⟨100, 0, [], 0⟩) Za (Int.le_refl _) (by decide)).1
    have := HLA.out
    simp only [List.length_nil] at *
    unfold Hid
    omega
  have HNW := feedP_new 100 Za
  have cf := rfeed_any ⟨100, 0, [], 0⟩ (.slice none 0 0) _ Za w3 sm.s (HV0.out w3 sm.bel) (Int.le_refl _) (by decide) (by decide) (by have := HLA.out; simp only [List.length_nil]; omega)
  unfold RF at cf
  generalize feedP ⟨100, 0, [], 0⟩ Za = P at *
  obtain ⟨D1, l1, z1⟩ := P
  simp only at cf sm hkeep HB1 HNW ⊢
  have HSF : Hid (∀ W, DC W w.heap.size w.heap.size rv1 D1 → Sl W rv1 D1.rest) := fun W hd => by
    rcases HNW with e | ⟨e, e2⟩
    · exact (hd.2.2.2.1 e).sl
    · rw [hkeep e, e2]
      exact Sl.none _
  obtain ⟨la, lc, rfl, -, -, -⟩ := sm.ox.shape
  obtain ⟨x0, x1, x2, x3⟩ := sm.x.cells
  have SM3 : Hid (SM w w3 w.heap.size gx rv1 (.slice none 0 0) (.slice la l1.length lc) ⟨100, 0, [], 0⟩ D1 l1) := sm
  clear sm hkeep HNW ST0
  go_wp2_with fail
  refine cf.mono ?_
  rintro e w4 ⟨b4, bv1, mv, rfl, sx4, ox4, hbv4⟩
  clear cf x0 x1 x2 x3
  have x4 := (SM3.out.kept b4).x
  obtain ⟨x0, x1, x2, x3⟩ := x4.cells
  have fx := x4.free
  have st5 := (SM3.out.both b4 sx4 ox4 (hbv4.imp id fun q i e => (q i e).1) (fun i e => by
    rcases hbv4 with rfl | q
    · cases e
    · exact (q i e).2)).1
  have ST5 : Hid (ST w (st4 w4 gx (.int .i64 D1.old) (.int .i64 D1.made) bv1 (.int .i64 D1.err)) w.heap.size gx rv1 bv1 D1) := st5
  obtain ⟨ba, bc, rfl, -⟩ := id sx4.1
  obtain ⟨n1, hn1⟩ : ∃ n1, n1 = D1.rest.length := ⟨_, rfl⟩
  have HN1 : Hid (n1 = D1.rest.length) := hn1
  rw [← hn1] at ST5 HB1 ⊢
  clear st5 x4 b4 sx4 ox4 hbv4 SM3 hn1
  go_upto_region 6 with fail
  rw [st4_eq]
  generalize st4 w4 gx (.int .i64 D1.old) (.int .i64 D1.made) (.slice ba n1 bc) (.int .i64 D1.err) = W5 at *
  clear x0 x1 x2 x3 fx
  have CFk : Hid (∀ W, Below W5.heap.size W5 W → Calls Tryd.prog 12 #[.pointer (some ⟨w.heap.size, 0, none⟩)] W fun e w' => ∃ rf, e = .returned (.pointer (some ⟨W.heap.size, 0, none⟩)) ∧ DC w' W.heap.size W.heap.size rf D1 ∧ Below W.heap.size W w' ∧ W.heap.size < w'.heap.size ∧ ∀ k, rf.ownBlock = some k → W.heap.size < k) := fun W hb => fork_any W _ _ rv1 D1 (ST5.out.kept hb).dc (HSF.out W (ST5.out.kept hb).dc) (by have := HB1.out; have := HN1.out; omega)
  have FT : Hid (∀ W, Below W5.heap.size W5 W → W.cell? ⟨gx, 0, none⟩ = some (.int .i64 D1.old) ∧ W.cell? ⟨gx, 1, none⟩ = some (.int .i64 D1.made) ∧ W.cell? ⟨gx, 2, none⟩ = some (.slice ba n1 bc) ∧ W.cell? ⟨gx, 3, none⟩ = some (.int .i64 D1.err)) := fun W hb => (ST5.out.kept hb).x.cells
  obtain ⟨x0, x1, x2, x3⟩ := ST5.out.x.cells
  have ng5 : gx < W5.heap.size := World.block_lt_of_cell? _ _ x0
  have ng6 : ¬ gx = W5.heap.size := by omega
  have a1 : Below W5.heap.size W5 (W5.drew.alloc (.cells zrd 28)) := (Below.refl _ _).drew.alloc (Nat.le_refl _) _
  obtain ⟨y0, y1, y2, y3⟩ := FT.out _ a1
  clear a1
  go_cut [9, 10] (fun s9 s10 wx => ∃ gf gy rf, s9 = .pointer (some ⟨gf, 0, none⟩) ∧ s10 = .pointer (some ⟨gy, 0, none⟩) ∧ ST w wx w.heap.size gx rv1 (.slice ba n1 bc) D1 ∧ ST w wx gf gy rf (.slice ba n1 bc) D1 ∧ AS w.heap.size gx rv1 (.slice ba n1 bc) gf gy rf (.slice ba n1 bc))
  case first =>
    go_region_with ((go_at_call 12; refine (CFk.out _ (by first | exact (Below.refl _ _).drew | exact ((Below.refl _ _).drew.alloc (Nat.le_refl _) _))).mono ?_; rintro e w6 ⟨rf, rfl, dc6, b6, s6, hrf⟩; obtain ⟨z0, z1, z2, z3⟩ := FT.out w6 (by first | exact ((Below.refl W5.heap.size W5).drew).trans b6 | exact ((Below.refl W5.heap.size W5).drew.alloc (Nat.le_refl _) _).trans (b6.mono (by simp))); have ng7 : gx < w6.heap.size := World.block_lt_of_cell? _ _ z0; have ng8 : ¬ gx = w6.heap.size := (by omega); (first | (have gy : w6.heap[W5.heap.size]? = some (.cells zrd 28 (0, 0)) := (b6.block W5.heap.size (by simp)).trans (heap_alloc_new W5.drew (.cells zrd 28)); obtain ⟨p0, p1, p2, p3⟩ := cell4 gy; have fp : ∀ i, w6.frozen? ⟨W5.heap.size, i, none⟩ = false := fun _ => frozen_of_row _ _ _ _ _ gy) | skip)))
    all_goals
      first
        | (have gy' := gy
           have hsz : (W5.alloc (.cells zrd 28)).drew.heap.size = W5.heap.size + 1 := by simp
           have hsz2 : (W5.drew.alloc (.cells zrd 28)).heap.size = W5.heap.size + 1 := by simp
           first | rw [hsz] at dc6 hrf s6 | rw [hsz2] at dc6 hrf s6
           have bb6 : Below W5.heap.size W5 w6 := by
             first
               | exact ((Below.refl W5.heap.size W5).drew.alloc (Nat.le_refl _) (.cells zrd 28)).trans (b6.mono (by simp))
               | exact ((al_below W5 (.cells zrd 28)).drew).trans (b6.mono (by simp))
           have HQ : Hid (ST w (st4 w6 W5.heap.size (.int .i64 D1.old) (.int .i64 D1.made) (.slice ba n1 bc) (.int .i64 D1.err)) w.heap.size gx rv1 (.slice ba n1 bc) D1 ∧ ST w (st4 w6 W5.heap.size (.int .i64 D1.old) (.int .i64 D1.made) (.slice ba n1 bc) (.int .i64 D1.err)) (W5.heap.size + 1) W5.heap.size rf (.slice ba n1 bc) D1 ∧ AS w.heap.size gx rv1 (.slice ba n1 bc) (W5.heap.size + 1) W5.heap.size rf (.slice ba n1 bc)) :=
             ST5.out.forked (bb6.trans (st4_below _ _ _ _ _ _ _ (Nat.le_refl _))) ((dc6.mono (Nat.le_succ _)).off (show RB w6 W5.heap.size 0 0 (.slice none 0 0) 0 from gy) (by omega) _ _ _ _) (RB.st (show RB w6 W5.heap.size 0 0 (.slice none 0 0) 0 from gy) _ _ _ _) (Nat.le_succ _) (Nat.le_refl _) (by omega) (fun k e => by have := hrf k e; exact ⟨by omega, by omega⟩)
           clear dc6 b6 s6 hrf bb6 gy gy' p0 p1 p2 p3 fp hsz hsz2
           rw [st4_eq]
           generalize st4 w6 W5.heap.size (.int .i64 D1.old) (.int .i64 D1.made) (.slice ba n1 bc) (.int .i64 D1.err) = W7 at *
           go_wp2_with fail
           go_meet
           exact ⟨_, _, rf, rfl, rfl, HQ.out⟩)
        | (have bb6 : Below W5.heap.size W5 w6 := (Below.refl W5.heap.size W5).drew.trans b6
           have s6' : W5.heap.size < w6.heap.size := s6
           have b67 := al_below w6 (.cells #[.int .i64 D1.old, .int .i64 D1.made, .slice ba n1 bc, .int .i64 D1.err] 28)
           have HQ : Hid (ST w (w6.alloc (.cells #[.int .i64 D1.old, .int .i64 D1.made, .slice ba n1 bc, .int .i64 D1.err] 28)) w.heap.size gx rv1 (.slice ba n1 bc) D1 ∧ ST w (w6.alloc (.cells #[.int .i64 D1.old, .int .i64 D1.made, .slice ba n1 bc, .int .i64 D1.err] 28)) W5.heap.size w6.heap.size rf (.slice ba n1 bc) D1 ∧ AS w.heap.size gx rv1 (.slice ba n1 bc) W5.heap.size w6.heap.size rf (.slice ba n1 bc)) :=
             ST5.out.forked (bb6.trans (b67.mono bb6.size)) ((show DC w6 W5.heap.size W5.heap.size rf D1 from dc6).kept b67) (heap_alloc_new _ _) (Nat.le_refl _) (by omega) (by omega) (fun k e => ⟨Nat.le_of_lt (hrf k e), by have := (dc6.2.2.2.2.1 k e).2; omega⟩)
           clear dc6 b6 s6 hrf bb6 s6' b67
           generalize w6.alloc (.cells #[.int .i64 D1.old, .int .i64 D1.made, .slice ba n1 bc, .int .i64 D1.err] 28) = W7 at *
           go_wp2_with fail
           go_meet
           exact ⟨_, _, rf, rfl, rfl, HQ.out⟩)
  case rest =>
    obtain ⟨gf, gy, rf, rfl, rfl, st1, st2, aa⟩ := hcut
    clear CFk FT x0 x1 x2 x3 y0 y1 y2 y3 ng5 ng6 HSF ST5
    have HD1 : Hid (0 ≤ D1.made ∧ D1.made ≤ 65536 ∧ D1.old ≤ 9223372036854775807 ∧ D1.rest.length ≤ 2000) := by
      obtain ⟨-, -, -, -, -, j6, j7, j8⟩ := st1.dc
      exact ⟨j6, j7, j8, by have := HB1.out; have := HN1.out; omega⟩
    obtain ⟨k1, k2, k3, k4⟩ := HD1.out
    have c := feed_any wc w.heap.size w.heap.size rv1 _ D1 Zb st1.dc (HV1.out wc st1.bel) (fun W hb => HT.out W (st1.bel.trans hb)) (by have := HLB.out; omega)
    have HF : Hid (∀ e w8, FP D1 Zb w.heap.size w.heap.size rv1 wc e w8 → ∃ lv rv', e = .returned (.tuple #[lv, .int .i64 (feedP D1 Zb).2.2]) ∧ SM w w8 w.heap.size gx rv' (.slice ba n1 bc) lv D1 (feedP D1 Zb).1 (feedP D1 Zb).2.1 ∧ ST w w8 gf gy rf (.slice ba n1 bc) D1 ∧ AS w.heap.size gx rv' (.slice ba n1 bc) gf gy rf (.slice ba n1 bc)) := fun e w8 hf => st1.fed2 st2 aa hf
    clear st1 st2 aa k1 k2 k3 k4
    go_wp2_with fail
    refine c.mono ?_
    intro e w8 hf
    obtain ⟨lv2, rv2, rfl, sm, st2, aa⟩ := HF.out e w8 hf
    clear c hf HF
    obtain ⟨k1, k2, k3, k4⟩ := HD1.out
    have cf := rfeed_any D1 _ _ Zb w8 sm.s (HV1.out w8 sm.bel) k1 k2 k3 (by have := HLB.out; omega)
    unfold RF at cf
    generalize feedP D1 Zb = P at *
    obtain ⟨⟨o2, m2, r2, e2⟩, l2, z2⟩ := P
    simp only at cf sm ⊢
    obtain ⟨x0, x1, x2, x3⟩ := sm.x.cells
    have SM8 : Hid (SM w w8 w.heap.size gx rv2 (.slice ba n1 bc) lv2 D1 ⟨o2, m2, r2, e2⟩ l2) := sm
    have ST8 : Hid (ST w w8 gf gy rf (.slice ba n1 bc) D1) := st2
    have AA8 : Hid (AS w.heap.size gx rv2 (.slice ba n1 bc) gf gy rf (.slice ba n1 bc)) := aa
    clear sm st2 aa k1 k2 k3 k4
    go_wp2_with fail
    refine cf.mono ?_
    rintro e w9 ⟨b9, bv2, mv2, rfl, sx9, ox9, hbv9⟩
    clear cf x0 x1 x2 x3
    have x9 := (SM8.out.kept b9).x
    obtain ⟨x0, x1, x2, x3⟩ := x9.cells
    have fx := x9.free
    obtain ⟨st1, -, -, st2, aa⟩ := SM8.out.both2 ST8.out AA8.out b9 sx9 ox9 hbv9
    obtain ⟨xa, xc, rfl, -⟩ := id sx9.1
    have HST : Hid (ST w (st4 w9 gx (.int .i64 o2) (.int .i64 m2) (.slice xa r2.length xc) (.int .i64 e2)) w.heap.size gx rv2 (.slice xa r2.length xc) ⟨o2, m2, r2, e2⟩ ∧ ST w (st4 w9 gx (.int .i64 o2) (.int .i64 m2) (.slice xa r2.length xc) (.int .i64 e2)) gf gy rf (.slice ba n1 bc) D1 ∧ AS w.heap.size gx rv2 (.slice xa r2.length xc) gf gy rf (.slice ba n1 bc)) := ⟨st1, st2, aa⟩
    obtain ⟨n2, hn2⟩ : ∃ n2, n2 = r2.length := ⟨_, rfl⟩
    have HN2 : Hid (n2 = r2.length) := hn2
    rw [← hn2] at HST ⊢
    clear st1 st2 aa x9 b9 sx9 ox9 hbv9 SM8 ST8 AA8 hn2
    go_wp2_with fail
    rw [st4_eq]
    generalize st4 w9 gx (.int .i64 o2) (.int .i64 m2) (.slice xa n2 xc) (.int .i64 e2) = W10 at *
    clear x0 x1 x2 x3 fx
    obtain ⟨st1, st2, aa⟩ := HST.out
    obtain ⟨k1, k2, k3, k4⟩ := HD1.out
    have c := feed_any W10 w.heap.size gf rf _ D1 Zc st2.dc (HV2.out W10 st2.bel) (fun W hb => HT.out W (st2.bel.trans hb)) (by have := HLC.out; omega)
    have HF : Hid (∀ e w11, FP D1 Zc w.heap.size gf rf W10 e w11 → ∃ lv rv', e = .returned (.tuple #[lv, .int .i64 (feedP D1 Zc).2.2]) ∧ SM w w11 gf gy rv' (.slice ba n1 bc) lv D1 (feedP D1 Zc).1 (feedP D1 Zc).2.1 ∧ ST w w11 w.heap.size gx rv2 (.slice xa n2 xc) ⟨o2, m2, r2, e2⟩ ∧ AS gf gy rv' (.slice ba n1 bc) w.heap.size gx rv2 (.slice xa n2 xc)) := fun e w11 hf => st2.fed2 st1 aa.symm hf
    clear st1 st2 aa k1 k2 k3 k4 HST
    refine c.mono ?_
    intro e w11 hf
    obtain ⟨lv3, rf3, rfl, sm, st1, aa⟩ := HF.out e w11 hf
    clear c hf HF
    obtain ⟨k1, k2, k3, k4⟩ := HD1.out
    have HB3 : Hid ((feedP D1 Zc).2.1.length ≤ 100000) := by
      have := (feedP_len Zc k1 k2).2
      have := HLC.out
      unfold Hid
      omega
    have cf := rfeed_any D1 _ _ Zc w11 sm.s (HV2.out w11 sm.bel) k1 k2 k3 (by have := HLC.out; omega)
    unfold RF at cf
    generalize feedP D1 Zc = P at *
    obtain ⟨⟨o3, m3, r3, e3⟩, l3, z3⟩ := P
    simp only at cf sm HB3 ⊢
    obtain ⟨x0, x1, x2, x3⟩ := sm.x.cells
    obtain ⟨ua, uc, rfl, -, -, -⟩ := sm.ox.shape
    have SM11 : Hid (SM w w11 gf gy rf3 (.slice ba n1 bc) (.slice ua l3.length uc) D1 ⟨o3, m3, r3, e3⟩ l3) := sm
    have ST11 : Hid (ST w w11 w.heap.size gx rv2 (.slice xa n2 xc) ⟨o2, m2, r2, e2⟩) := st1
    have AA11 : Hid (AS gf gy rf3 (.slice ba n1 bc) w.heap.size gx rv2 (.slice xa n2 xc)) := aa
    obtain ⟨n4, hn4⟩ : ∃ n4, n4 = l3.length := ⟨_, rfl⟩
    have HN4 : Hid (n4 = l3.length) := hn4
    rw [← hn4] at SM11 ⊢
    clear sm st1 aa k1 k2 k3 k4 hn4
    go_wp2_with fail
    refine cf.mono ?_
    rintro e w12 ⟨b12, bv3, mv3, rfl, sx12, ox12, hbv12⟩
    clear cf x0 x1 x2 x3
    have x12 := (SM11.out.kept b12).x
    obtain ⟨x0, x1, x2, x3⟩ := x12.cells
    have fx := x12.free
    obtain ⟨st2, lx, mx, st1, -⟩ := SM11.out.both2 ST11.out AA11.out b12 sx12 ox12 hbv12
    obtain ⟨ya, yc, rfl, -⟩ := id sx12.1
    obtain ⟨ma, mc, rfl, -, -, -⟩ := ox12.shape
    have HST : Hid (∀ W, Below (st4 w12 gy (.int .i64 o3) (.int .i64 m3) (.slice ya r3.length yc) (.int .i64 e3)).heap.size (st4 w12 gy (.int .i64 o3) (.int .i64 m3) (.slice ya r3.length yc) (.int .i64 e3)) W → ST w W w.heap.size gx rv2 (.slice xa n2 xc) ⟨o2, m2, r2, e2⟩ ∧ ST w W gf gy rf3 (.slice ya r3.length yc) ⟨o3, m3, r3, e3⟩ ∧ XS W (.slice ua n4 uc) l3 ∧ XS W (.slice ma l3.length mc) l3) := fun W hb => ⟨st1.kept hb, st2.kept hb, (lx.below hb).xs, (mx.below hb).xs⟩
    obtain ⟨n3, hn3⟩ : ∃ n3, n3 = r3.length := ⟨_, rfl⟩
    have HN3 : Hid (n3 = r3.length) := hn3
    rw [← hn3] at HST ⊢
    rw [← HN4.out] at HST ⊢
    clear st1 st2 lx mx x12 b12 sx12 ox12 hbv12 SM11 ST11 AA11 hn3
    have cn := fun W => feed_nil W (.slice a0 LA c0)
    go_wp2_with fail
    rw [st4_eq]
    generalize st4 w12 gy (.int .i64 o3) (.int .i64 m3) (.slice ya n3 yc) (.int .i64 e3) = W13 at *
    clear x0 x1 x2 x3 fx
    refine (cn W13).mono ?_
    rintro e wq ⟨rfl, hq⟩
    replace hq := hq.symm
    subst hq
    clear cn
    go_wp2_with fail
    have HP : Hid (∀ W, Below W13.heap.size W13 W → (W.cell? ⟨gx, 1, none⟩ = some (.int .i64 m2) ∧ W.cell? ⟨gx, 2, none⟩ = some (.slice xa n2 xc)) ∧ W.cell? ⟨gy, 1, none⟩ = some (.int .i64 m3) ∧ W.cell? ⟨gy, 2, none⟩ = some (.slice ya n3 yc)) := fun W hb => ⟨⟨(HST.out W hb).1.x.cells.2.1, (HST.out W hb).1.x.cells.2.2.1⟩, (HST.out W hb).2.1.x.cells.2.1, (HST.out W hb).2.1.x.cells.2.2.1⟩
    have CS : Hid (∀ W, Below W13.heap.size W13 W → Calls Tryd.prog 9 #[.slice ua n4 uc, .slice ma n4 mc] W fun e w' => e = .returned (.bool true) ∧ Below W.heap.size W w') := fun W hb => by
      have := rsame_any _ _ l3 l3 W (HST.out W hb).2.2.1 (HST.out W hb).2.2.2 HB3.out HB3.out
      rwa [saX_self] at this
    have CMd : Hid (∀ W, Below W13.heap.size W13 W → Calls Tryd.prog 10 #[.pointer (some ⟨w.heap.size, 0, none⟩)] W fun e w' => e = .returned (.int .i64 m2) ∧ w' = W) := fun W hb => made_any W _ _ _ _ (HST.out W hb).1.dc
    have CRd : Hid (∀ W, Below W13.heap.size W13 W → Calls Tryd.prog 11 #[.pointer (some ⟨w.heap.size, 0, none⟩)] W fun e w' => e = .returned (.int .i64 (n2 : Nat)) ∧ w' = W) := fun W hb => by
      have := rest_any W _ _ _ _ (HST.out W hb).1.dc
      rw [HN2.out]
      exact this
    have CMf : Hid (∀ W, Below W13.heap.size W13 W → Calls Tryd.prog 10 #[.pointer (some ⟨gf, 0, none⟩)] W fun e w' => e = .returned (.int .i64 m3) ∧ w' = W) := fun W hb => made_any W _ _ _ _ (HST.out W hb).2.1.dc
    have CRf : Hid (∀ W, Below W13.heap.size W13 W → Calls Tryd.prog 11 #[.pointer (some ⟨gf, 0, none⟩)] W fun e w' => e = .returned (.int .i64 (n3 : Nat)) ∧ w' = W) := fun W hb => by
      have := rest_any W _ _ _ _ (HST.out W hb).2.1.dc
      rw [HN3.out]
      exact this
    have CM0 : Hid (∀ W, Calls Tryd.prog 10 #[.pointer none] W fun e w' => e = .returned (.int .i64 0) ∧ w' = W) := fun W => made_nil W
    have CR0 : Hid (∀ W, Calls Tryd.prog 11 #[.pointer none] W fun e w' => e = .returned (.int .i64 0) ∧ w' = W) := fun W => rest_nil W
    have CF0 : Hid (∀ W, Calls Tryd.prog 12 #[.pointer none] W fun e w' => e = .returned (.pointer none) ∧ w' = W) := fun W => fork_nil W
    have CAW : Hid (∀ W, Below W13.heap.size W13 W → Calls Tryd.prog 5 #[] W fun e w' => e = .returned (.bool true) ∧ Below W13.heap.size W13 w') := fun W hb => by
      refine (awake_any W (HT.out W (HST.out W hb).1.bel)).mono ?_
      rintro e w' ⟨rfl, b⟩
      exact ⟨rfl, hb.trans (b.mono hb.size)⟩
    go_region_held3 (fun W => (W.cell? ⟨gx, 1, none⟩ = some (.int .i64 m2) ∧ W.cell? ⟨gx, 2, none⟩ = some (.slice xa n2 xc)) ∧ W.cell? ⟨gy, 1, none⟩ = some (.int .i64 m3) ∧ W.cell? ⟨gy, 2, none⟩ = some (.slice ya n3 yc)) (first | exact HP.out _ (Below.refl _ _) | exact HP.out _ (Below.refl _ _).drew | exact HP.out _ d9 | exact HP.out _ dz) (first
      | (go_at_call 9; refine (CS.out _ (Below.refl _ _).drew).mono ?_; rintro e w14 ⟨rfl, b14⟩; have d9 : Below W13.heap.size W13 w14 := (Below.refl W13.heap.size W13).drew.trans b14)
      | (go_at_call_of 10 (Value.pointer (some ⟨gf, 0, none⟩)); refine (CMf.out _ d9).mono ?_; rintro e wq ⟨rfl, hq⟩; replace hq := hq.symm; subst hq)
      | (go_at_call_of 11 (Value.pointer (some ⟨gf, 0, none⟩)); refine (CRf.out _ d9).mono ?_; rintro e wq ⟨rfl, hq⟩; replace hq := hq.symm; subst hq)
      | (go_at_call_of 10 (Value.pointer (some ⟨w.heap.size, 0, none⟩)); refine (CMd.out _ d9).mono ?_; rintro e wq ⟨rfl, hq⟩; replace hq := hq.symm; subst hq)
      | (go_at_call_of 11 (Value.pointer (some ⟨w.heap.size, 0, none⟩)); refine (CRd.out _ d9).mono ?_; rintro e wq ⟨rfl, hq⟩; replace hq := hq.symm; subst hq)
      | (go_at_call_of 10 (Value.pointer none); refine (CM0.out _).mono ?_; rintro e wq ⟨rfl, hq⟩; replace hq := hq.symm; subst hq)
      | (go_at_call_of 11 (Value.pointer none); refine (CR0.out _).mono ?_; rintro e wq ⟨rfl, hq⟩; replace hq := hq.symm; subst hq)
      | (go_at_call 12; refine (CF0.out _).mono ?_; rintro e wq ⟨rfl, hq⟩; replace hq := hq.symm; subst hq)
      | (go_at_call 5; refine (CAW.out _ d9).mono ?_; rintro e wz ⟨rfl, dz⟩))
    have HBZ : Hid (Below w.heap.size w wz) := (HST.out wz dz).1.bel
    clear HST HP CS CMd CRd CMf CRf CM0 CR0 CF0 CAW dz
    go_wp2
    go_ret
    exact ⟨rfl, HBZ.out⟩
end Go.Proofs.YtfccjeepmhgckaaDoor.deltaForks
