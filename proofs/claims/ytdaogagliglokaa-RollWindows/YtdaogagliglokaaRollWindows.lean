/-
  RollWindows: whatever the bytes and the calls, the law answers true, and they read as before. No condition.
-/
import Derived.Test.YtdaogagliglokaaEmp
namespace Go.Proofs.Ytdaogagliglokaa.rollWindows
open Go.ChangeShapes Go.WideShapes Go.ChangeAt Go.RowKit Go.Deep Go.ChangeMaps

theorem keepWin {u n : World} {base g : Nat} {hv : Value} {Z : List Int} (h : Hid (Win u base g hv Z)) (hb : Below u.heap.size u n) : Hid (Win n base g hv Z) := h.out.kept hb
theorem keepOfs {u n : World} {r : Nat} {v : Value} {Z : List Int} (h : Hid (Ofs u r v Z)) (hb : Below u.heap.size u n) : Hid (Ofs n r v Z) := h.out.kept hb
theorem kinds (k : Int) (h0 : 0 ≤ k) : ∃ m : Int, Int.tmod k 3 = m ∧ (m = 0 ∨ m = 1 ∨ m = 2) := by
  refine ⟨k % 3, Int.tmod_eq_emod_of_nonneg h0, ?_⟩
  omega

set_option maxHeartbeats 8000000 in
set_option maxRecDepth 100000 in
theorem walk (a : Option Addr) (len cap : Nat) (zs : List Int) (a2 : Option Addr) (n cap2 : Nat) (K N : Nat → Int) (w : World) (hb : Bytes w a len cap zs) (hl : Acts w a2 n cap2 K N) :
    Calls Try.prog 5 #[.slice a len cap, .slice a2 n cap2] w fun e w' => e = .returned (.bool true) ∧ Below w.heap.size w w' := by
  have HA : Hid (∀ W, Calls Try.prog 9 #[] W fun e w' => e = .returned (.bool true) ∧ Below W.heap.size W w') := awake_any
  have sl := hb.sl
  obtain ⟨hlc, hcm, htl⟩ := hb.len_le
  obtain ⟨hn1, hn2, hacts⟩ := hl
  replace hn2 : cap2 ≤ 9223372036854775807 := by unfold maxLen at hn2; omega
  by_cases hl : 2000 < len
  · have hl' : (2000 : Int) < len := by omega
    clear hb sl htl hacts
    have ca := HA.out w
    go_enter Try.func5, Try.ntmps5
    go_wp2_with fail
    refine ca.mono ?_
    rintro e w1 ⟨rfl, bel⟩
    clear ca
    go_wp2_with fail
    go_ret
    exact ⟨rfl, bel⟩
  have hl' : ¬ (2000 : Int) < len := by omega
  by_cases hl2 : 300 < n
  · have hl2' : (300 : Int) < n := by omega
    clear hb sl htl hacts
    have ca := HA.out w
    go_enter Try.func5, Try.ntmps5
    go_wp2_with fail
    refine ca.mono ?_
    rintro e w1 ⟨rfl, bel⟩
    clear ca
    go_wp2_with fail
    go_ret
    exact ⟨rfl, bel⟩
  have hl2' : ¬ (300 : Int) < n := by omega
  have cn := wnew_any _ _ w sl (by omega)
  have HACT : Hid (n = 0 ∨ ∃ b off, a2 = some ⟨b, off, none⟩ ∧ ∀ W, Below w.heap.size w W → ∀ i, i < n → W.cell? ⟨b, off + i * 2, none⟩ = some (.int .u8 (K i)) ∧ W.cell? ⟨b, off + i * 2 + 1, none⟩ = some (.int .u8 (N i)) ∧ 0 ≤ K i ∧ K i ≤ 255 ∧ 0 ≤ N i ∧ N i ≤ 255) := by
    rcases hacts with h | ⟨b, off, e, hc⟩
    · exact .inl h
    · refine .inr ⟨b, off, e, fun W hB i hi => ?_⟩
      obtain ⟨c1, c2, c3⟩ := hc i hi
      exact ⟨(hB.cell (p := ⟨b, off + i * 2, none⟩) (World.block_lt_of_cell? _ _ c1)).trans c1, (hB.cell (p := ⟨b, off + i * 2 + 1, none⟩) (World.block_lt_of_cell? _ _ c2)).trans c2, c3⟩
  have HSL : Hid (∀ W, Below w.heap.size w W → Sl W (.slice a len cap) (zs.take len)) := fun W hB => sl.kept hB
  have HTL : Hid ((zs.take len).length = len) := htl
  clear hb sl htl hacts
  generalize zs.take len = X at *
  go_enter Try.func5, Try.ntmps5
  go_wp2_with fail
  refine cn.mono ?_
  rintro e w1 ⟨g, hv1, rfl, win1, bel1⟩
  clear cn
  have bE : Below w1.heap.size w1 (w1.alloc (.cells #[] 5)) := al_below _ _
  have W1 : Hid (Win (w1.alloc (.cells #[] 5)) w.heap.size g hv1 X) := win1.kept bE
  have B1 : Hid (Below w.heap.size w (w1.alloc (.cells #[] 5))) := bel1.trans (bE.mono bel1.size)
  have E1 : Hid ((w1.alloc (.cells #[] 5)).heap[w1.heap.size]? = some (.cells #[] 5 (0, 0))) := heap_alloc_new _ _
  have SX : Hid (Sl (w1.alloc (.cells #[] 5)) (.slice a len cap) X) := HSL.out _ B1.out
  have HXL : Hid (X.length ≤ 1000000) := by unfold Hid; rw [HTL.out]; omega
  have D1 : Hid (∀ k, hv1.ownBlock = some k → k < w1.heap.size) := win1.own_lt
  have hs1 := bel1.size
  clear win1 bel1 bE
  go_wp2_with (at_builtin; refine wpList_append_new rfl _ _ rfl w1.heap.size w1.heap.size (Nat.le_refl _) rfl E1.out _ X rfl SX.out HXL.out ?_)
  intro v2 w2 r2 o2 hr2 g2
  have win2 : Win w2 w.heap.size g hv1 X := W1.out.grown g2 (fun e => by have h1 := W1.out.tag; obtain ⟨_, h1⟩ := h1; rw [← e, E1.out] at h1; cases h1) (fun e => by have := D1.out _ e; omega)
  have B2 : Below w.heap.size w w2 := B1.out.grown g2 B1.out.size (fun k hk => by cases hk; exact hs1)
  have D2 : hv1.ownBlock ≠ some r2 := fun e => by have := D1.out _ e; omega
  have R2 : w.heap.size ≤ r2 := by omega
  clear W1 B1 E1 SX D1 g2
  go_wp2_with fail
  go_loopw [6, 7] (fun v i wr => ∃ (j r : Nat) (hv : Value) (H : List Int), j ≤ n ∧ i = .int .i64 (j : Int) ∧ Win wr w.heap.size g hv H ∧ Ofs wr r v H ∧ hv.ownBlock ≠ some r ∧ w.heap.size ≤ r ∧ H.length ≤ 2000 + j ∧ Below w.heap.size w wr) (fun _ i _ => n - (intOf i).toNat)
  case atStart => exact ⟨0, r2, hv1, X, by omega, rfl, win2, o2, D2, R2, by rw [HTL.out]; omega, B2⟩
  case round =>
    clear win2 B2 D2 R2 o2 hr2
    obtain ⟨j, r, hv, H, hj, rfl, win, ofs, dis, hr, hlen, bel⟩ := hrel
    by_cases hlt : j < n
    · obtain ⟨b, off, rfl, hact⟩ : ∃ b off, a2 = some ⟨b, off, none⟩ ∧ ∀ W, Below w.heap.size w W → ∀ i, i < n → W.cell? ⟨b, off + i * 2, none⟩ = some (.int .u8 (K i)) ∧ W.cell? ⟨b, off + i * 2 + 1, none⟩ = some (.int .u8 (N i)) ∧ 0 ≤ K i ∧ K i ≤ 255 ∧ 0 ≤ N i ∧ N i ≤ 255 := by
        rcases HACT.out with h | h
        · omega
        · exact h
      have HC : Hid (∀ W, Below w.heap.size w W → W.cell? ⟨b, off + j * 2 + 1, none⟩ = some (.int .u8 (N j))) := fun W hB => (hact W hB j hlt).2.1
      obtain ⟨dK, dN, hK0, hK1, hN0, hN1⟩ := hact wr bel j hlt
      obtain ⟨m, hm, hm3⟩ := kinds (K j) hK0
      have HZ : Hid (0 ≤ N j ∧ N j < 256) := ⟨hN0, by omega⟩
      clear hact
      generalize N j = z at *
      generalize K j = kk at *
      have WR : Hid (Win wr w.heap.size g hv H) := win
      have OR : Hid (Ofs wr r _ H) := ofs
      have BR : Hid (Below w.heap.size w wr) := bel
      clear win ofs bel
      obtain ⟨o1, cp, cu, rfl, -, k3, k4, -⟩ := id OR.out
      replace k4 : cp ≤ 9223372036854775807 := by unfold maxLen at k4; omega
      obtain ⟨L, hL⟩ : ∃ L, L = H.length := ⟨_, rfl⟩
      have HL : Hid (L = H.length) := hL
      rw [← hL] at k3 OR hlen ⊢
      clear hL
      rcases hm3 with rfl | rfl | rfl
      · -- In
        have ci := win_any _ g hv H z wr WR.out (by have := HL.out; omega) HZ.out.1 HZ.out.2
        go_wp2_with fail
        refine ci.mono ?_
        rintro e w3 ⟨rfl, hv3, win3, fr3, at3⟩
        clear ci
        have bel3 : Below w.heap.size w w3 := BR.out.trans (WR.out.fr fr3)
        have ofs3 := OR.out.fr WR.out fr3 dis
        have dis3 : hv3.ownBlock ≠ some r := by
          rcases at3 with e | e
          · rw [e]; exact dis
          · intro h
            have h1 := e r h
            have h2 := OR.out.lt
            omega
        have dN3 := HC.out w3 bel3
        have bA : Below w3.heap.size w3 (w3.alloc (.cells #[.int .u8 z] 5)) := al_below _ _
        have W4 : Hid (Win (w3.alloc (.cells #[.int .u8 z] 5)) w.heap.size g hv3 (H ++ [z])) := win3.kept bA
        have O4 : Hid (Ofs (w3.alloc (.cells #[.int .u8 z] 5)) r (.slice (some ⟨r, o1, none⟩) L cp) H) := ofs3.kept bA
        have S4 : Hid (Sl (w3.alloc (.cells #[.int .u8 z] 5)) (.slice (some ⟨w3.heap.size, 0, none⟩) 1 1) [z]) := sl_one w3 z HZ.out.1 HZ.out.2
        have B4 : Hid (Below w.heap.size w (w3.alloc (.cells #[.int .u8 z] 5))) := bel3.trans (bA.mono bel3.size)
        have HB4 : Hid (H.length ≤ 1000000) := by unfold Hid; have := HL.out; omega
        have D4 : Hid (hv3.ownBlock ≠ some r) := dis3
        clear win3 fr3 at3 ofs3 dis3 bA bel3 dN dK
        go_wp2_with (at_builtin; refine wpList_append_ofs rfl _ _ rfl r _ H rfl O4.out _ z rfl S4.out HB4.out ?_)
        intro v5 w5 r5 o5 g5 at5
        have WT : Hid (Win w5 w.heap.size g hv3 (H ++ [z])) := W4.out.grown g5 (win_ofs W4.out O4.out) D4.out
        have OT : Hid (Ofs w5 r5 v5 (H ++ [z])) := o5
        have BT : Hid (Below w.heap.size w w5) := B4.out.grown g5 B4.out.size (fun k hk => by cases hk; exact hr)
        have DT : Hid (hv3.ownBlock ≠ some r5) := by
          rcases at5 with rfl | e
          · exact D4.out
          · intro h
            have := W4.out.own_lt _ h
            simp at this
            omega
        have RT : Hid (w.heap.size ≤ r5) := by
          rcases at5 with rfl | e
          · exact hr
          · have := B4.out.size
            simp at this
            unfold Hid
            omega
        have LT : Hid ((H ++ [z]).length ≤ 2000 + (j + 1)) := by unfold Hid; have := HL.out; simp; omega
        clear W4 O4 S4 B4 D4 o5 g5 at5 OR WR BR dN3
        generalize H ++ [z] = HT at *
        have t1 := wsum_any _ g hv3 HT w5 WT.out
        have t2 := rsum_any v5 HT w5 OT.out.sl
        have t3 := wlen_any _ g hv3 HT w5 WT.out (by have := LT.out; omega)
        obtain ⟨offT, capT, curT, rfl, -, k3T, k4T, -⟩ := id OT.out
        replace k4T : capT ≤ 9223372036854775807 := by unfold maxLen at k4T; omega
        obtain ⟨LT2, hLT2⟩ : ∃ LT2, LT2 = HT.length := ⟨_, rfl⟩
        rw [← hLT2] at t2 t3 k3T OT ⊢
        clear hLT2
        generalize rs HT = rT at *
        go_wp2_with fail
        refine t1.mono ?_
        rintro e xT ⟨rfl, rfl⟩
        clear t1
        go_wp2_with fail
        refine t2.mono ?_
        rintro e xT ⟨rfl, rfl⟩
        clear t2
        go_wp2_with fail
        refine t3.mono ?_
        rintro e yT ⟨rfl, bT, hT⟩
        clear hT t3
        have WT' := keepWin WT bT
        have OT' := keepOfs OT bT
        have BT' : Hid (Below w.heap.size w yT) := BT.out.trans (bT.mono BT.out.size)
        clear bT WT OT BT
        go_wp2_with fail
        go_roundw
        case rel => exact ⟨j + 1, r5, hv3, HT, by omega, by go_num, WT'.out, OT'.out, DT.out, RT.out, by have := LT.out; omega, BT'.out⟩
        case measure => simp [intOf]; omega
      · -- Out
        cases H with
        | nil =>
          have hL0 : L = 0 := HL.out
          subst hL0
          have co := wout_none _ g hv wr WR.out
          go_wp2_with fail
          refine co.mono ?_
          rintro e w3 ⟨rfl, b3, h3⟩
          clear co h3
          have WT : Hid (Win w3 w.heap.size g hv []) := WR.out.kept b3
          have OT : Hid (Ofs w3 r (.slice (some ⟨r, o1, none⟩) 0 cp) []) := OR.out.kept b3
          have BT : Hid (Below w.heap.size w w3) := BR.out.trans (b3.mono BR.out.size)
          have DT : Hid (hv.ownBlock ≠ some r) := dis
          have RT : Hid (w.heap.size ≤ r) := hr
          have LT : Hid (([] : List Int).length ≤ 2000 + (j + 1)) := by unfold Hid; simp
          clear b3 WR OR BR dis dK dN HC
          have t1 := wsum_any _ g hv ([]:List Int) w3 WT.out
          have t2 := rsum_any (.slice (some ⟨r, o1, none⟩) 0 cp) ([]:List Int) w3 OT.out.sl
          have t3 := wlen_any _ g hv ([]:List Int) w3 WT.out (by have := LT.out; omega)
          rw [show (([]:List Int).length : Nat) = 0 from rfl] at t3
          generalize rs ([]:List Int) = rT at *
          go_wp2_with fail
          refine t1.mono ?_
          rintro e xT ⟨rfl, rfl⟩
          clear t1
          go_wp2_with fail
          refine t2.mono ?_
          rintro e xT ⟨rfl, rfl⟩
          clear t2
          go_wp2_with fail
          refine t3.mono ?_
          rintro e yT ⟨rfl, bT, hT⟩
          clear hT t3
          have WT' := keepWin WT bT
          have OT' := keepOfs OT bT
          have BT' : Hid (Below w.heap.size w yT) := BT.out.trans (bT.mono BT.out.size)
          clear bT WT OT BT
          go_wp2_with fail
          go_roundw
          case rel => exact ⟨j + 1, r, hv, ([]:List Int), by omega, by go_num, WT'.out, OT'.out, DT.out, RT.out, by have := LT.out; omega, BT'.out⟩
          case measure => simp [intOf]; omega
        | cons c t =>
          obtain ⟨o9, c9, e9, k5, k6, dc, hcut⟩ := OR.out.cut
          have HLL : L = t.length + 1 := HL.out
          obtain ⟨rfl, rfl⟩ : o9 = o1 ∧ c9 = cp := by cases e9; exact ⟨rfl, rfl⟩
          clear e9
          have co := wout_some _ g hv c t wr WR.out (by omega)
          have hL0 : 0 < L := by omega
          have HCC : Hid (∀ W, Fr g hv.ownBlock wr W → W.cell? ⟨r, o9, none⟩ = some (.int .u8 c)) := fun W f => by
            rw [World.cell?_of_block (w := wr) (a := ⟨r, o9, none⟩) (f.block r OR.out.lt (win_ofs WR.out OR.out) (fun e => dis e.symm))]
            exact dc
          have HOC : Hid (∀ (W : World) (v : Value) (T : List Int), Fr g hv.ownBlock wr W → Ofs wr r v T → Ofs W r v T) := fun W v T f o => o.fr WR.out f dis
          have HFIN : Hid (∀ (W : World) (hv3 : Value), Fr g hv.ownBlock wr W → (hv3.ownBlock = hv.ownBlock ∨ ∀ k, hv3.ownBlock = some k → wr.heap.size ≤ k) → hv3.ownBlock ≠ some r ∧ Below w.heap.size w W) := fun W hv3 f at3 => by
            refine ⟨?_, BR.out.trans (WR.out.fr f)⟩
            rcases at3 with e | e
            · rw [e]; exact dis
            · intro h
              have h1 := e r h
              have h2 := OR.out.lt
              omega
          have LT : Hid (t.length ≤ 2000 + (j + 1)) := by unfold Hid; omega
          have RT : Hid (w.heap.size ≤ r) := hr
          have HLT : Hid (L = t.length + 1) := HLL
          clear HLL k6 dc dN HC
          rcases hcut with ⟨hc1, ofs1⟩ | ⟨hc1, ofs1⟩
          · subst hc1
            obtain rfl : L = 1 := by have := HLT.out; omega
            have O9 : Hid (Ofs wr r (.slice (some ⟨r, o9, none⟩) 0 0) t) := ofs1
            clear ofs1
            have HT0 : Hid (t.length = 0) := by unfold Hid; have := HLT.out; omega
            go_wp2_with fail
            refine co.mono ?_
            rintro e w3 ⟨rfl, hv3, win3, fr3, at3⟩
            clear co
            have dc3 := HCC.out w3 fr3
            have OT : Hid (Ofs w3 r (.slice (some ⟨r, o9, none⟩) 0 0) t) := HOC.out w3 _ _ fr3 O9.out
            obtain ⟨d3, b3⟩ := HFIN.out w3 hv3 fr3 at3
            have WT : Hid (Win w3 w.heap.size g hv3 t) := win3
            have DT : Hid (hv3.ownBlock ≠ some r) := d3
            have BT : Hid (Below w.heap.size w w3) := b3
            clear win3 fr3 at3 d3 b3 HOC HFIN HCC O9 OR WR BR dis
            have t1 := wsum_any _ g hv3 t w3 WT.out
            have t2 := rsum_any (.slice (some ⟨r, o9, none⟩) 0 0) t w3 OT.out.sl
            have t3 := wlen_any _ g hv3 t w3 WT.out (by have := LT.out; omega)
            rw [HT0.out] at t3
            generalize rs t = rT at *
            go_wp2_with fail
            refine t1.mono ?_
            rintro e xT ⟨rfl, rfl⟩
            clear t1
            go_wp2_with fail
            refine t2.mono ?_
            rintro e xT ⟨rfl, rfl⟩
            clear t2
            go_wp2_with fail
            refine t3.mono ?_
            rintro e yT ⟨rfl, bT, hT⟩
            clear hT t3
            have WT' := keepWin WT bT
            have OT' := keepOfs OT bT
            have BT' : Hid (Below w.heap.size w yT) := BT.out.trans (bT.mono BT.out.size)
            clear bT WT OT BT
            go_wp2_with fail
            go_roundw
            case rel => exact ⟨j + 1, r, hv3, t, by omega, by go_num, WT'.out, OT'.out, DT.out, RT.out, by have := LT.out; omega, BT'.out⟩
            case measure => simp [intOf]; omega
          · have O9 : Hid (Ofs wr r (.slice (some ⟨r, o9 + 1, none⟩) t.length (c9 - 1)) t) := ofs1
            clear ofs1
            have hc2 : ¬ (c9 : Int) = 1 := by omega
            obtain ⟨tl, htl⟩ : ∃ tl, tl = t.length := ⟨_, rfl⟩
            rw [← htl] at O9 HLT k5
            have hL1 : L - 1 = tl := by have := HLT.out; omega
            have HTT : Hid (tl = t.length) := htl
            clear htl
            go_wp2_with fail
            refine co.mono ?_
            rintro e w3 ⟨rfl, hv3, win3, fr3, at3⟩
            clear co
            have dc3 := HCC.out w3 fr3
            have OT : Hid (Ofs w3 r (.slice (some ⟨r, o9 + 1, none⟩) tl (c9 - 1)) t) := HOC.out w3 _ _ fr3 O9.out
            obtain ⟨d3, b3⟩ := HFIN.out w3 hv3 fr3 at3
            have WT : Hid (Win w3 w.heap.size g hv3 t) := win3
            have DT : Hid (hv3.ownBlock ≠ some r) := d3
            have BT : Hid (Below w.heap.size w w3) := b3
            clear win3 fr3 at3 d3 b3 HOC HFIN HCC O9 OR WR BR dis
            have t1 := wsum_any _ g hv3 t w3 WT.out
            have t2 := rsum_any (.slice (some ⟨r, o9 + 1, none⟩) tl (c9 - 1)) t w3 OT.out.sl
            have t3 := wlen_any _ g hv3 t w3 WT.out (by have := LT.out; omega)
            rw [← HTT.out] at t3
            generalize rs t = rT at *
            go_wp2_with fail
            refine t1.mono ?_
            rintro e xT ⟨rfl, rfl⟩
            clear t1
            go_wp2_with fail
            refine t2.mono ?_
            rintro e xT ⟨rfl, rfl⟩
            clear t2
            go_wp2_with fail
            refine t3.mono ?_
            rintro e yT ⟨rfl, bT, hT⟩
            clear hT t3
            have WT' := keepWin WT bT
            have OT' := keepOfs OT bT
            have BT' : Hid (Below w.heap.size w yT) := BT.out.trans (bT.mono BT.out.size)
            clear bT WT OT BT
            go_wp2_with fail
            go_roundw
            case rel => exact ⟨j + 1, r, hv3, t, by omega, by go_num, WT'.out, OT'.out, DT.out, RT.out, by have := LT.out; omega, BT'.out⟩
            case measure => simp [intOf]; omega
      · -- Roll
        cases H with
        | nil =>
          have hL0 : L = 0 := HL.out
          subst hL0
          have co := wroll_none _ g hv z wr WR.out
          go_wp2_with fail
          refine co.mono ?_
          rintro e w3 ⟨rfl, b3, h3⟩
          clear co h3
          have WT : Hid (Win w3 w.heap.size g hv []) := WR.out.kept b3
          have OT : Hid (Ofs w3 r (.slice (some ⟨r, o1, none⟩) 0 cp) []) := OR.out.kept b3
          have BT : Hid (Below w.heap.size w w3) := BR.out.trans (b3.mono BR.out.size)
          have DT : Hid (hv.ownBlock ≠ some r) := dis
          have RT : Hid (w.heap.size ≤ r) := hr
          have LT : Hid (([] : List Int).length ≤ 2000 + (j + 1)) := by unfold Hid; simp
          clear b3 WR OR BR dis dK dN HC
          have t1 := wsum_any _ g hv ([]:List Int) w3 WT.out
          have t2 := rsum_any (.slice (some ⟨r, o1, none⟩) 0 cp) ([]:List Int) w3 OT.out.sl
          have t3 := wlen_any _ g hv ([]:List Int) w3 WT.out (by have := LT.out; omega)
          rw [show (([]:List Int).length : Nat) = 0 from rfl] at t3
          generalize rs ([]:List Int) = rT at *
          go_wp2_with fail
          refine t1.mono ?_
          rintro e xT ⟨rfl, rfl⟩
          clear t1
          go_wp2_with fail
          refine t2.mono ?_
          rintro e xT ⟨rfl, rfl⟩
          clear t2
          go_wp2_with fail
          refine t3.mono ?_
          rintro e yT ⟨rfl, bT, hT⟩
          clear hT t3
          have WT' := keepWin WT bT
          have OT' := keepOfs OT bT
          have BT' : Hid (Below w.heap.size w yT) := BT.out.trans (bT.mono BT.out.size)
          clear bT WT OT BT
          go_wp2_with fail
          go_roundw
          case rel => exact ⟨j + 1, r, hv, ([]:List Int), by omega, by go_num, WT'.out, OT'.out, DT.out, RT.out, by have := LT.out; omega, BT'.out⟩
          case measure => simp [intOf]; omega
        | cons c T =>
          have HLL : L = T.length + 1 := HL.out
          have co := wroll_some _ g hv c z T wr WR.out (by omega) HZ.out.1 HZ.out.2
          have hL0 : 0 < L := by omega
          have LT : Hid ((T ++ [z]).length ≤ 2000 + (j + 1)) := by unfold Hid; simp; omega
          have HLT : Hid (L = T.length + 1) := HLL
          have hTL : Hid (T.length ≤ 200000000000000 ∧ T.length ≤ 1000000) := by unfold Hid; omega
          have HTB : Hid (∀ i, 0 ≤ T.getD i 0 ∧ T.getD i 0 < 256) := fun i => by have := OR.out.sl.bytes (i + 1); simpa using this
          clear HLL
          go_wp2_with fail
          refine co.mono ?_
          rintro e w3 ⟨rfl, hv3, win3, fr3, at3⟩
          clear co
          have B3 : Hid (Below w.heap.size w w3) := BR.out.trans (WR.out.fr fr3)
          have O3 := OR.out.fr WR.out fr3 dis
          have W3 : Hid (Win w3 w.heap.size g hv3 (T ++ [z])) := win3
          have FL : Hid (∀ x, From w3 x → x.cell? ⟨b, off + j * 2 + 1, none⟩ = some (.int .u8 z)) := fun x hx => HC.out x (B3.out.trans (Below.mono hx B3.out.size))
          obtain ⟨o9, c9, e9, k5, k6, dc, hcut⟩ := O3.cut
          obtain ⟨rfl, rfl⟩ : o9 = o1 ∧ c9 = cp := by cases e9; exact ⟨rfl, rfl⟩
          clear e9 dc k6 win3 fr3 at3 O3 OR WR BR dis dK dN HC
          rcases hcut with ⟨hc1, ofs1⟩ | ⟨hc1, ofs1⟩
          · subst hc1
            obtain rfl : L = 1 := by have := HLT.out; omega
            have FH : Hid (∀ x, From w3 x → Sl x (.slice (some ⟨r, o9, none⟩) 0 0) T) := fun x hx => ofs1.sl.kept hx
            clear ofs1
            go_wp2_with fail
            refine wp_region_held_drew (S := From w3) (by kernel_rfl) (Below.drew (Below.refl _ _)) (fun _ => ?_)
            refine wpAnyH_name (fun u0 hu0 => ?_)
            have bu0 : Below w3.heap.size w3 u0 := by rw [hu0.out]; exact Below.drew (Below.refl _ _)
            refine wpAnyH_take (i := 1) (oi := { dst := some 51, op := Op.move (Operand.tmp 6), type := 22, pos := "law.go:63", after := #[], guard := none }) (v := ?vq1) rfl (by kernel_rfl) (by kernel_rfl) (by kernel_rfl) (fun _ _ _ h => h) (Or.inl ⟨by rfl, ?yq1⟩) bu0 ?rq1
            case yq1 => (intro w hSw; go_simp; try with_reducible rfl)
            try simp only [Act.put, List.setIfInBounds_toArray, List.set_cons_zero, List.set_cons_succ]
            refine wpAnyH_take (i := 2) (oi := { dst := some 52, op := Op.slice 22 (Operand.tmp 51) (some (Operand.const (Value.int IntKind.i64 1))) none none, type := 22, pos := "law.go:63", after := #[{ on := 1, ground := Ground.data }], guard := none }) (v := ?vq2) rfl (by kernel_rfl) (by kernel_rfl) (by kernel_rfl) (fun _ _ _ h => h) (Or.inl ⟨by rfl, ?yq2⟩) bu0 ?rq2
            case yq2 => (intro w hSw; go_simp; try with_reducible rfl)
            try simp only [Act.put, List.setIfInBounds_toArray, List.set_cons_zero, List.set_cons_succ]
            refine wpAnyH_take (i := 4) (oi := { dst := some 54, op := Op.move (Operand.tmp 1), type := 35, pos := "law.go:63", after := #[], guard := none }) (v := ?vq3) rfl (by kernel_rfl) (by kernel_rfl) (by kernel_rfl) (fun _ _ _ h => h) (Or.inl ⟨by rfl, ?yq3⟩) bu0 ?rq3
            case yq3 => (intro w hSw; go_simp; try with_reducible rfl)
            try simp only [Act.put, List.setIfInBounds_toArray, List.set_cons_zero, List.set_cons_succ]
            refine wpAnyH_take (i := 5) (oi := { dst := some 55, op := Op.move (Operand.tmp 7), type := 3, pos := "law.go:63", after := #[], guard := none }) (v := ?vq4) rfl (by kernel_rfl) (by kernel_rfl) (by kernel_rfl) (fun _ _ _ h => h) (Or.inl ⟨by rfl, ?yq4⟩) bu0 ?rq4
            case yq4 => (intro w hSw; go_simp; try with_reducible rfl)
            try simp only [Act.put, List.setIfInBounds_toArray, List.set_cons_zero, List.set_cons_succ]
            refine wpAnyH_take (i := 6) (oi := { dst := some 56, op := Op.indexAddr 35 (Operand.tmp 54) (Operand.tmp 55), type := 0, pos := "law.go:63", after := #[{ on := 4, ground := Ground.data }, { on := 5, ground := Ground.data }], guard := none }) (v := ?vq5) rfl (by kernel_rfl) (by kernel_rfl) (by kernel_rfl) (fun _ _ _ h => h) (Or.inl ⟨by rfl, ?yq5⟩) bu0 ?rq5
            case yq5 => (intro w hSw; go_simp; try with_reducible rfl)
            try simp only [Act.put, List.setIfInBounds_toArray, List.set_cons_zero, List.set_cons_succ]
            refine wpAnyH_take (i := 7) (oi := { dst := some 57, op := Op.fieldAddr 39 (Operand.tmp 56) 1, type := 0, pos := "law.go:63", after := #[{ on := 6, ground := Ground.data }], guard := none }) (v := ?vq6) rfl (by kernel_rfl) (by kernel_rfl) (by kernel_rfl) (fun _ _ _ h => h) (Or.inl ⟨by rfl, ?yq6⟩) bu0 ?rq6
            case yq6 => (intro w hSw; go_simp; try with_reducible rfl)
            try simp only [Act.put, List.setIfInBounds_toArray, List.set_cons_zero, List.set_cons_succ]
            refine wpAnyH_take (i := 8) (oi := { dst := some 58, op := Op.load 5 (Operand.tmp 57), type := 5, pos := "law.go:63", after := #[{ on := 7, ground := Ground.data }], guard := none }) (v := ?vq7) rfl (by kernel_rfl) (by kernel_rfl) (by kernel_rfl) (fun _ _ _ h => h) (Or.inl ⟨by rfl, ?yq7⟩) bu0 ?rq7
            case yq7 => (intro w hSw; have t := FL.out w hSw; go_simp; try with_reducible rfl)
            try simp only [Act.put, List.setIfInBounds_toArray, List.set_cons_zero, List.set_cons_succ]
            refine wpAnyH_ready (rs := [0, 9]) (by kernel_rfl) (by simp) ?_
            refine AllReadyH.cons (o := { dst := some 50, op := Op.buildSlice 22 0 #[], type := 22, pos := "law.go:63", after := #[], guard := none }) rfl (fun KK hKK => ?_) ?_
            · go_simp
              refine hKK.out _ _ (bu0.trans (Below.mono (al_below _ _) bu0.size)) (fun _ => ?_)
              clear hKK KK
              try simp only [Act.put, List.setIfInBounds_toArray, List.set_cons_zero, List.set_cons_succ]
              refine wpAnyH_name (fun u8 hu8 => ?_)
              have bu8 : Below w3.heap.size w3 u8 := by rw [hu8.out]; exact (bu0.trans (Below.mono (al_below _ _) bu0.size))
              have bbu8 : Below u0.heap.size u0 u8 := by rw [hu8.out]; exact al_below _ _
              have E0 : Hid (u8.heap[u0.heap.size]? = some (.cells #[] 5 (0, 0))) := by unfold Hid; rw [hu8.out]; exact heap_alloc_new _ _
              (try replace S9 := keepSl S9 bbu8)
              refine wpAnyH_ready (rs := [3, 9]) (by kernel_rfl) (by simp) ?_
              refine AllReadyH.cons (o := { dst := some 53, op := Op.call { callee := Callee.builtin Builtin.append, args := #[Operand.tmp 50, Operand.tmp 52], argTypes := #[22, 22] }, type := 22, pos := "law.go:63", after := #[{ on := 0, ground := Ground.data }, { on := 2, ground := Ground.data }], guard := none }) rfl (fun KK hKK => ?_) ?_
              · rw [if_pos (by rfl)]
                refine wp_append_emp _ _ rfl _ rfl E0.out _ T rfl (FH.out _ bu8) hTL.out.1 ?_
                intro v3 u9' e3 bu9'
                refine hKK.out _ _ (bu8.trans (Below.mono (bu9') bu8.size)) (fun _ => ?_)
                clear hKK KK
                try simp only [Act.put, List.setIfInBounds_toArray, List.set_cons_zero, List.set_cons_succ]
                refine wpAnyH_name (fun u9 hu9 => ?_)
                have bu9 : Below w3.heap.size w3 u9 := by rw [hu9.out]; exact (bu8.trans (Below.mono (bu9') bu8.size))
                have bbu9 : Below u8.heap.size u8 u9 := by rw [hu9.out]; exact bu9'
                have E3 : Hid (Emp u9 w3.heap.size v3 T) := by unfold Hid; rw [hu9.out]; exact e3.mono bu8.size
                (try replace S9 := keepSl S9 bbu9)
                clear e3
                refine wpAnyH_ready (rs := [9]) (by kernel_rfl) (by simp) ?_
                refine AllReadyH.cons (o := { dst := some 59, op := Op.buildSlice 22 1 #[(0, Operand.tmp 58)], type := 22, pos := "law.go:63", after := #[{ on := 8, ground := Ground.data }], guard := none }) rfl (fun KK hKK => ?_) ?_
                · go_simp
                  refine hKK.out _ _ (bu9.trans (Below.mono (al_below _ _) bu9.size)) (fun _ => ?_)
                  clear hKK KK
                  try simp only [Act.put, List.setIfInBounds_toArray, List.set_cons_zero, List.set_cons_succ]
                  refine wpAnyH_name (fun u10 hu10 => ?_)
                  have bu10 : Below w3.heap.size w3 u10 := by rw [hu10.out]; exact (bu9.trans (Below.mono (al_below _ _) bu9.size))
                  have bbu10 : Below u9.heap.size u9 u10 := by rw [hu10.out]; exact al_below _ _
                  have S9 : Hid (Sl u10 (.slice (some ⟨u9.heap.size, 0, none⟩) 1 1) [z]) := by unfold Hid; rw [hu10.out]; exact sl_one u9 z HZ.out.1 HZ.out.2
                  (try replace E0 := keepE E0 bbu10)
                  (try replace E3 := keepEmp E3 bbu10)
                  refine wpAnyH_ready (rs := [10]) (by kernel_rfl) (by simp) ?_
                  refine AllReadyH.cons (o := { dst := some 60, op := Op.call { callee := Callee.builtin Builtin.append, args := #[Operand.tmp 53, Operand.tmp 59], argTypes := #[22, 22] }, type := 22, pos := "law.go:63", after := #[{ on := 3, ground := Ground.data }, { on := 9, ground := Ground.data }, { on := 3, ground := Ground.chain }], guard := none }) rfl (fun KK hKK => ?_) ?_
                  · rw [if_pos (by rfl)]
                    refine wp_append_emp3 _ _ rfl w3.heap.size _ T rfl E3.out bu10.size HTB.out _ z rfl S9.out hTL.out.2 ?_
                    intro v10 u11' r10 o10 k10 bu11'
                    refine hKK.out _ _ (bu10.trans bu11') (fun _ => ?_)
                    clear hKK KK
                    try simp only [Act.put, List.setIfInBounds_toArray, List.set_cons_zero, List.set_cons_succ]
                    refine wpAnyH_name (fun u11 hu11 => ?_)
                    have bu11 : Below w3.heap.size w3 u11 := by rw [hu11.out]; exact (bu10.trans bu11')
                    have O10 : Hid (Ofs u11 r10 v10 (T ++ [z])) := by unfold Hid; rw [hu11.out]; exact o10
                    clear o10 E3 S9
                    refine wpAnyH_take (i := 11) (oi := { dst := some 6, op := Op.assign (Operand.tmp 60), type := 22, pos := "law.go:63", after := #[{ on := 10, ground := Ground.data }, { on := 10, ground := Ground.chain }, { on := 0, ground := Ground.phase }, { on := 1, ground := Ground.phase }, { on := 2, ground := Ground.phase }, { on := 3, ground := Ground.phase }, { on := 4, ground := Ground.phase }, { on := 5, ground := Ground.phase }, { on := 6, ground := Ground.phase }, { on := 7, ground := Ground.phase }, { on := 8, ground := Ground.phase }, { on := 9, ground := Ground.phase }, { on := 10, ground := Ground.phase }], guard := none }) (v := ?vq12) rfl (by kernel_rfl) (by kernel_rfl) (by kernel_rfl) (fun _ _ _ h => h) (Or.inl ⟨by rfl, ?yq12⟩) bu11 ?rq12
                    case yq12 => (intro w hSw; go_simp; try with_reducible rfl)
                    try simp only [Act.put, List.setIfInBounds_toArray, List.set_cons_zero, List.set_cons_succ]
                    refine wpAnyH_done (by kernel_rfl) ?_ _
                    have BZ : Below w3.heap.size w3 u11 := bu11
                    have WT : Hid (Win u11 w.heap.size g hv3 (T ++ [z])) := W3.out.kept BZ
                    have OT : Hid (Ofs u11 r10 v10 (T ++ [z])) := O10.out
                    have DT : Hid (hv3.ownBlock ≠ some r10) := fun h => by have := W3.out.own_lt _ h; omega
                    have RT : Hid (w.heap.size ≤ r10) := Nat.le_trans B3.out.size k10
                    have BT : Hid (Below w.heap.size w u11) := B3.out.trans (BZ.mono B3.out.size)
                    have b10 : Hid (Below w3.heap.size w3 u11) := BZ
                    clear BZ O10 W3 B3 FH FL hTL HTB k10 b10
                    generalize T ++ [z] = HT at *
                    have t1 := wsum_any _ g hv3 HT u11 WT.out
                    have t2 := rsum_any v10 HT u11 OT.out.sl
                    have t3 := wlen_any _ g hv3 HT u11 WT.out (by have := LT.out; omega)
                    obtain ⟨offT, capT, curT, rfl, -, k3T, k4T, -⟩ := id OT.out
                    replace k4T : capT ≤ 9223372036854775807 := by unfold maxLen at k4T; omega
                    obtain ⟨LT2, hLT2⟩ : ∃ LT2, LT2 = HT.length := ⟨_, rfl⟩
                    rw [← hLT2] at t2 t3 k3T OT ⊢
                    clear hLT2
                    generalize rs HT = rT at *
                    go_wp2_with fail
                    refine t1.mono ?_
                    rintro e xT ⟨rfl, rfl⟩
                    clear t1
                    go_wp2_with fail
                    refine t2.mono ?_
                    rintro e xT ⟨rfl, rfl⟩
                    clear t2
                    go_wp2_with fail
                    refine t3.mono ?_
                    rintro e yT ⟨rfl, bT, hT⟩
                    clear hT t3
                    have WT' := keepWin WT bT
                    have OT' := keepOfs OT bT
                    have BT' : Hid (Below w.heap.size w yT) := BT.out.trans (bT.mono BT.out.size)
                    clear bT WT OT BT
                    go_wp2_with fail
                    go_roundw
                    case rel => exact ⟨j + 1, r10, hv3, HT, by omega, by go_num, WT'.out, OT'.out, DT.out, RT.out, by have := LT.out; omega, BT'.out⟩
                    case measure => simp [intOf]; omega
                  exact AllReadyH.nil
                exact AllReadyH.nil
              refine AllReadyH.cons (o := { dst := some 59, op := Op.buildSlice 22 1 #[(0, Operand.tmp 58)], type := 22, pos := "law.go:63", after := #[{ on := 8, ground := Ground.data }], guard := none }) rfl (fun KK hKK => ?_) ?_
              · go_simp
                refine hKK.out _ _ (bu8.trans (Below.mono (al_below _ _) bu8.size)) (fun _ => ?_)
                clear hKK KK
                try simp only [Act.put, List.setIfInBounds_toArray, List.set_cons_zero, List.set_cons_succ]
                refine wpAnyH_name (fun u13 hu13 => ?_)
                have bu13 : Below w3.heap.size w3 u13 := by rw [hu13.out]; exact (bu8.trans (Below.mono (al_below _ _) bu8.size))
                have bbu13 : Below u8.heap.size u8 u13 := by rw [hu13.out]; exact al_below _ _
                have S9 : Hid (Sl u13 (.slice (some ⟨u8.heap.size, 0, none⟩) 1 1) [z]) := by unfold Hid; rw [hu13.out]; exact sl_one u8 z HZ.out.1 HZ.out.2
                (try replace E0 := keepE E0 bbu13)
                (try replace E3 := keepEmp E3 bbu13)
                refine wpAnyH_ready (rs := [3]) (by kernel_rfl) (by simp) ?_
                refine AllReadyH.cons (o := { dst := some 53, op := Op.call { callee := Callee.builtin Builtin.append, args := #[Operand.tmp 50, Operand.tmp 52], argTypes := #[22, 22] }, type := 22, pos := "law.go:63", after := #[{ on := 0, ground := Ground.data }, { on := 2, ground := Ground.data }], guard := none }) rfl (fun KK hKK => ?_) ?_
                · rw [if_pos (by rfl)]
                  refine wp_append_emp _ _ rfl _ rfl E0.out _ T rfl (FH.out _ bu13) hTL.out.1 ?_
                  intro v3 u14' e3 bu14'
                  refine hKK.out _ _ (bu13.trans (Below.mono (bu14') bu13.size)) (fun _ => ?_)
                  clear hKK KK
                  try simp only [Act.put, List.setIfInBounds_toArray, List.set_cons_zero, List.set_cons_succ]
                  refine wpAnyH_name (fun u14 hu14 => ?_)
                  have bu14 : Below w3.heap.size w3 u14 := by rw [hu14.out]; exact (bu13.trans (Below.mono (bu14') bu13.size))
                  have bbu14 : Below u13.heap.size u13 u14 := by rw [hu14.out]; exact bu14'
                  have E3 : Hid (Emp u14 w3.heap.size v3 T) := by unfold Hid; rw [hu14.out]; exact e3.mono bu13.size
                  (try replace S9 := keepSl S9 bbu14)
                  clear e3
                  refine wpAnyH_ready (rs := [10]) (by kernel_rfl) (by simp) ?_
                  refine AllReadyH.cons (o := { dst := some 60, op := Op.call { callee := Callee.builtin Builtin.append, args := #[Operand.tmp 53, Operand.tmp 59], argTypes := #[22, 22] }, type := 22, pos := "law.go:63", after := #[{ on := 3, ground := Ground.data }, { on := 9, ground := Ground.data }, { on := 3, ground := Ground.chain }], guard := none }) rfl (fun KK hKK => ?_) ?_
                  · rw [if_pos (by rfl)]
                    refine wp_append_emp3 _ _ rfl w3.heap.size _ T rfl E3.out bu14.size HTB.out _ z rfl S9.out hTL.out.2 ?_
                    intro v10 u15' r10 o10 k10 bu15'
                    refine hKK.out _ _ (bu14.trans bu15') (fun _ => ?_)
                    clear hKK KK
                    try simp only [Act.put, List.setIfInBounds_toArray, List.set_cons_zero, List.set_cons_succ]
                    refine wpAnyH_name (fun u15 hu15 => ?_)
                    have bu15 : Below w3.heap.size w3 u15 := by rw [hu15.out]; exact (bu14.trans bu15')
                    have O10 : Hid (Ofs u15 r10 v10 (T ++ [z])) := by unfold Hid; rw [hu15.out]; exact o10
                    clear o10 E3 S9
                    refine wpAnyH_take (i := 11) (oi := { dst := some 6, op := Op.assign (Operand.tmp 60), type := 22, pos := "law.go:63", after := #[{ on := 10, ground := Ground.data }, { on := 10, ground := Ground.chain }, { on := 0, ground := Ground.phase }, { on := 1, ground := Ground.phase }, { on := 2, ground := Ground.phase }, { on := 3, ground := Ground.phase }, { on := 4, ground := Ground.phase }, { on := 5, ground := Ground.phase }, { on := 6, ground := Ground.phase }, { on := 7, ground := Ground.phase }, { on := 8, ground := Ground.phase }, { on := 9, ground := Ground.phase }, { on := 10, ground := Ground.phase }], guard := none }) (v := ?vq16) rfl (by kernel_rfl) (by kernel_rfl) (by kernel_rfl) (fun _ _ _ h => h) (Or.inl ⟨by rfl, ?yq16⟩) bu15 ?rq16
                    case yq16 => (intro w hSw; go_simp; try with_reducible rfl)
                    try simp only [Act.put, List.setIfInBounds_toArray, List.set_cons_zero, List.set_cons_succ]
                    refine wpAnyH_done (by kernel_rfl) ?_ _
                    have BZ : Below w3.heap.size w3 u15 := bu15
                    have WT : Hid (Win u15 w.heap.size g hv3 (T ++ [z])) := W3.out.kept BZ
                    have OT : Hid (Ofs u15 r10 v10 (T ++ [z])) := O10.out
                    have DT : Hid (hv3.ownBlock ≠ some r10) := fun h => by have := W3.out.own_lt _ h; omega
                    have RT : Hid (w.heap.size ≤ r10) := Nat.le_trans B3.out.size k10
                    have BT : Hid (Below w.heap.size w u15) := B3.out.trans (BZ.mono B3.out.size)
                    have b10 : Hid (Below w3.heap.size w3 u15) := BZ
                    clear BZ O10 W3 B3 FH FL hTL HTB k10 b10
                    generalize T ++ [z] = HT at *
                    have t1 := wsum_any _ g hv3 HT u15 WT.out
                    have t2 := rsum_any v10 HT u15 OT.out.sl
                    have t3 := wlen_any _ g hv3 HT u15 WT.out (by have := LT.out; omega)
                    obtain ⟨offT, capT, curT, rfl, -, k3T, k4T, -⟩ := id OT.out
                    replace k4T : capT ≤ 9223372036854775807 := by unfold maxLen at k4T; omega
                    obtain ⟨LT2, hLT2⟩ : ∃ LT2, LT2 = HT.length := ⟨_, rfl⟩
                    rw [← hLT2] at t2 t3 k3T OT ⊢
                    clear hLT2
                    generalize rs HT = rT at *
                    go_wp2_with fail
                    refine t1.mono ?_
                    rintro e xT ⟨rfl, rfl⟩
                    clear t1
                    go_wp2_with fail
                    refine t2.mono ?_
                    rintro e xT ⟨rfl, rfl⟩
                    clear t2
                    go_wp2_with fail
                    refine t3.mono ?_
                    rintro e yT ⟨rfl, bT, hT⟩
                    clear hT t3
                    have WT' := keepWin WT bT
                    have OT' := keepOfs OT bT
                    have BT' : Hid (Below w.heap.size w yT) := BT.out.trans (bT.mono BT.out.size)
                    clear bT WT OT BT
                    go_wp2_with fail
                    go_roundw
                    case rel => exact ⟨j + 1, r10, hv3, HT, by omega, by go_num, WT'.out, OT'.out, DT.out, RT.out, by have := LT.out; omega, BT'.out⟩
                    case measure => simp [intOf]; omega
                  exact AllReadyH.nil
                exact AllReadyH.nil
              exact AllReadyH.nil
            refine AllReadyH.cons (o := { dst := some 59, op := Op.buildSlice 22 1 #[(0, Operand.tmp 58)], type := 22, pos := "law.go:63", after := #[{ on := 8, ground := Ground.data }], guard := none }) rfl (fun KK hKK => ?_) ?_
            · go_simp
              refine hKK.out _ _ (bu0.trans (Below.mono (al_below _ _) bu0.size)) (fun _ => ?_)
              clear hKK KK
              try simp only [Act.put, List.setIfInBounds_toArray, List.set_cons_zero, List.set_cons_succ]
              refine wpAnyH_name (fun u17 hu17 => ?_)
              have bu17 : Below w3.heap.size w3 u17 := by rw [hu17.out]; exact (bu0.trans (Below.mono (al_below _ _) bu0.size))
              have bbu17 : Below u0.heap.size u0 u17 := by rw [hu17.out]; exact al_below _ _
              have S9 : Hid (Sl u17 (.slice (some ⟨u0.heap.size, 0, none⟩) 1 1) [z]) := by unfold Hid; rw [hu17.out]; exact sl_one u0 z HZ.out.1 HZ.out.2
              (try replace E0 := keepE E0 bbu17)
              (try replace E3 := keepEmp E3 bbu17)
              refine wpAnyH_ready (rs := [0]) (by kernel_rfl) (by simp) ?_
              refine AllReadyH.cons (o := { dst := some 50, op := Op.buildSlice 22 0 #[], type := 22, pos := "law.go:63", after := #[], guard := none }) rfl (fun KK hKK => ?_) ?_
              · go_simp
                refine hKK.out _ _ (bu17.trans (Below.mono (al_below _ _) bu17.size)) (fun _ => ?_)
                clear hKK KK
                try simp only [Act.put, List.setIfInBounds_toArray, List.set_cons_zero, List.set_cons_succ]
                refine wpAnyH_name (fun u18 hu18 => ?_)
                have bu18 : Below w3.heap.size w3 u18 := by rw [hu18.out]; exact (bu17.trans (Below.mono (al_below _ _) bu17.size))
                have bbu18 : Below u17.heap.size u17 u18 := by rw [hu18.out]; exact al_below _ _
                have E0 : Hid (u18.heap[u17.heap.size]? = some (.cells #[] 5 (0, 0))) := by unfold Hid; rw [hu18.out]; exact heap_alloc_new _ _
                (try replace S9 := keepSl S9 bbu18)
                refine wpAnyH_ready (rs := [3]) (by kernel_rfl) (by simp) ?_
                refine AllReadyH.cons (o := { dst := some 53, op := Op.call { callee := Callee.builtin Builtin.append, args := #[Operand.tmp 50, Operand.tmp 52], argTypes := #[22, 22] }, type := 22, pos := "law.go:63", after := #[{ on := 0, ground := Ground.data }, { on := 2, ground := Ground.data }], guard := none }) rfl (fun KK hKK => ?_) ?_
                · rw [if_pos (by rfl)]
                  refine wp_append_emp _ _ rfl _ rfl E0.out _ T rfl (FH.out _ bu18) hTL.out.1 ?_
                  intro v3 u19' e3 bu19'
                  refine hKK.out _ _ (bu18.trans (Below.mono (bu19') bu18.size)) (fun _ => ?_)
                  clear hKK KK
                  try simp only [Act.put, List.setIfInBounds_toArray, List.set_cons_zero, List.set_cons_succ]
                  refine wpAnyH_name (fun u19 hu19 => ?_)
                  have bu19 : Below w3.heap.size w3 u19 := by rw [hu19.out]; exact (bu18.trans (Below.mono (bu19') bu18.size))
                  have bbu19 : Below u18.heap.size u18 u19 := by rw [hu19.out]; exact bu19'
                  have E3 : Hid (Emp u19 w3.heap.size v3 T) := by unfold Hid; rw [hu19.out]; exact e3.mono bu18.size
                  (try replace S9 := keepSl S9 bbu19)
                  clear e3
                  refine wpAnyH_ready (rs := [10]) (by kernel_rfl) (by simp) ?_
                  refine AllReadyH.cons (o := { dst := some 60, op := Op.call { callee := Callee.builtin Builtin.append, args := #[Operand.tmp 53, Operand.tmp 59], argTypes := #[22, 22] }, type := 22, pos := "law.go:63", after := #[{ on := 3, ground := Ground.data }, { on := 9, ground := Ground.data }, { on := 3, ground := Ground.chain }], guard := none }) rfl (fun KK hKK => ?_) ?_
                  · rw [if_pos (by rfl)]
                    refine wp_append_emp3 _ _ rfl w3.heap.size _ T rfl E3.out bu19.size HTB.out _ z rfl S9.out hTL.out.2 ?_
                    intro v10 u20' r10 o10 k10 bu20'
                    refine hKK.out _ _ (bu19.trans bu20') (fun _ => ?_)
                    clear hKK KK
                    try simp only [Act.put, List.setIfInBounds_toArray, List.set_cons_zero, List.set_cons_succ]
                    refine wpAnyH_name (fun u20 hu20 => ?_)
                    have bu20 : Below w3.heap.size w3 u20 := by rw [hu20.out]; exact (bu19.trans bu20')
                    have O10 : Hid (Ofs u20 r10 v10 (T ++ [z])) := by unfold Hid; rw [hu20.out]; exact o10
                    clear o10 E3 S9
                    refine wpAnyH_take (i := 11) (oi := { dst := some 6, op := Op.assign (Operand.tmp 60), type := 22, pos := "law.go:63", after := #[{ on := 10, ground := Ground.data }, { on := 10, ground := Ground.chain }, { on := 0, ground := Ground.phase }, { on := 1, ground := Ground.phase }, { on := 2, ground := Ground.phase }, { on := 3, ground := Ground.phase }, { on := 4, ground := Ground.phase }, { on := 5, ground := Ground.phase }, { on := 6, ground := Ground.phase }, { on := 7, ground := Ground.phase }, { on := 8, ground := Ground.phase }, { on := 9, ground := Ground.phase }, { on := 10, ground := Ground.phase }], guard := none }) (v := ?vq21) rfl (by kernel_rfl) (by kernel_rfl) (by kernel_rfl) (fun _ _ _ h => h) (Or.inl ⟨by rfl, ?yq21⟩) bu20 ?rq21
                    case yq21 => (intro w hSw; go_simp; try with_reducible rfl)
                    try simp only [Act.put, List.setIfInBounds_toArray, List.set_cons_zero, List.set_cons_succ]
                    refine wpAnyH_done (by kernel_rfl) ?_ _
                    have BZ : Below w3.heap.size w3 u20 := bu20
                    have WT : Hid (Win u20 w.heap.size g hv3 (T ++ [z])) := W3.out.kept BZ
                    have OT : Hid (Ofs u20 r10 v10 (T ++ [z])) := O10.out
                    have DT : Hid (hv3.ownBlock ≠ some r10) := fun h => by have := W3.out.own_lt _ h; omega
                    have RT : Hid (w.heap.size ≤ r10) := Nat.le_trans B3.out.size k10
                    have BT : Hid (Below w.heap.size w u20) := B3.out.trans (BZ.mono B3.out.size)
                    have b10 : Hid (Below w3.heap.size w3 u20) := BZ
                    clear BZ O10 W3 B3 FH FL hTL HTB k10 b10
                    generalize T ++ [z] = HT at *
                    have t1 := wsum_any _ g hv3 HT u20 WT.out
                    have t2 := rsum_any v10 HT u20 OT.out.sl
                    have t3 := wlen_any _ g hv3 HT u20 WT.out (by have := LT.out; omega)
                    obtain ⟨offT, capT, curT, rfl, -, k3T, k4T, -⟩ := id OT.out
                    replace k4T : capT ≤ 9223372036854775807 := by unfold maxLen at k4T; omega
                    obtain ⟨LT2, hLT2⟩ : ∃ LT2, LT2 = HT.length := ⟨_, rfl⟩
                    rw [← hLT2] at t2 t3 k3T OT ⊢
                    clear hLT2
                    generalize rs HT = rT at *
                    go_wp2_with fail
                    refine t1.mono ?_
                    rintro e xT ⟨rfl, rfl⟩
                    clear t1
                    go_wp2_with fail
                    refine t2.mono ?_
                    rintro e xT ⟨rfl, rfl⟩
                    clear t2
                    go_wp2_with fail
                    refine t3.mono ?_
                    rintro e yT ⟨rfl, bT, hT⟩
                    clear hT t3
                    have WT' := keepWin WT bT
                    have OT' := keepOfs OT bT
                    have BT' : Hid (Below w.heap.size w yT) := BT.out.trans (bT.mono BT.out.size)
                    clear bT WT OT BT
                    go_wp2_with fail
                    go_roundw
                    case rel => exact ⟨j + 1, r10, hv3, HT, by omega, by go_num, WT'.out, OT'.out, DT.out, RT.out, by have := LT.out; omega, BT'.out⟩
                    case measure => simp [intOf]; omega
                  exact AllReadyH.nil
                exact AllReadyH.nil
              exact AllReadyH.nil
            exact AllReadyH.nil
          · have FH : Hid (∀ x, From w3 x → Sl x (.slice (some ⟨r, o9 + 1, none⟩) T.length (c9 - 1)) T) := fun x hx => ofs1.sl.kept hx
            clear ofs1
            have hc2 : ¬ (c9 : Int) = 1 := by omega
            obtain ⟨tl, htl⟩ : ∃ tl, tl = T.length := ⟨_, rfl⟩
            rw [← htl] at FH k5 HLT
            have hL1 : L - 1 = tl := by have := HLT.out; omega
            have hL2 : (1 : Int) ≤ (L : Int) := by omega
            clear htl
            go_wp2_with fail
            refine wp_region_held_drew (S := From w3) (by kernel_rfl) (Below.drew (Below.refl _ _)) (fun _ => ?_)
            refine wpAnyH_name (fun u0 hu0 => ?_)
            have bu0 : Below w3.heap.size w3 u0 := by rw [hu0.out]; exact Below.drew (Below.refl _ _)
            refine wpAnyH_take (i := 1) (oi := { dst := some 51, op := Op.move (Operand.tmp 6), type := 22, pos := "law.go:63", after := #[], guard := none }) (v := ?vp1) rfl (by kernel_rfl) (by kernel_rfl) (by kernel_rfl) (fun _ _ _ h => h) (Or.inl ⟨by rfl, ?yp1⟩) bu0 ?rp1
            case yp1 => (intro w hSw; go_simp; try with_reducible rfl)
            try simp only [Act.put, List.setIfInBounds_toArray, List.set_cons_zero, List.set_cons_succ]
            refine wpAnyH_take (i := 2) (oi := { dst := some 52, op := Op.slice 22 (Operand.tmp 51) (some (Operand.const (Value.int IntKind.i64 1))) none none, type := 22, pos := "law.go:63", after := #[{ on := 1, ground := Ground.data }], guard := none }) (v := ?vp2) rfl (by kernel_rfl) (by kernel_rfl) (by kernel_rfl) (fun _ _ _ h => h) (Or.inl ⟨by rfl, ?yp2⟩) bu0 ?rp2
            case yp2 => (intro w hSw; go_simp; try with_reducible rfl)
            try simp only [Act.put, List.setIfInBounds_toArray, List.set_cons_zero, List.set_cons_succ]
            refine wpAnyH_take (i := 4) (oi := { dst := some 54, op := Op.move (Operand.tmp 1), type := 35, pos := "law.go:63", after := #[], guard := none }) (v := ?vp3) rfl (by kernel_rfl) (by kernel_rfl) (by kernel_rfl) (fun _ _ _ h => h) (Or.inl ⟨by rfl, ?yp3⟩) bu0 ?rp3
            case yp3 => (intro w hSw; go_simp; try with_reducible rfl)
            try simp only [Act.put, List.setIfInBounds_toArray, List.set_cons_zero, List.set_cons_succ]
            refine wpAnyH_take (i := 5) (oi := { dst := some 55, op := Op.move (Operand.tmp 7), type := 3, pos := "law.go:63", after := #[], guard := none }) (v := ?vp4) rfl (by kernel_rfl) (by kernel_rfl) (by kernel_rfl) (fun _ _ _ h => h) (Or.inl ⟨by rfl, ?yp4⟩) bu0 ?rp4
            case yp4 => (intro w hSw; go_simp; try with_reducible rfl)
            try simp only [Act.put, List.setIfInBounds_toArray, List.set_cons_zero, List.set_cons_succ]
            refine wpAnyH_take (i := 6) (oi := { dst := some 56, op := Op.indexAddr 35 (Operand.tmp 54) (Operand.tmp 55), type := 0, pos := "law.go:63", after := #[{ on := 4, ground := Ground.data }, { on := 5, ground := Ground.data }], guard := none }) (v := ?vp5) rfl (by kernel_rfl) (by kernel_rfl) (by kernel_rfl) (fun _ _ _ h => h) (Or.inl ⟨by rfl, ?yp5⟩) bu0 ?rp5
            case yp5 => (intro w hSw; go_simp; try with_reducible rfl)
            try simp only [Act.put, List.setIfInBounds_toArray, List.set_cons_zero, List.set_cons_succ]
            refine wpAnyH_take (i := 7) (oi := { dst := some 57, op := Op.fieldAddr 39 (Operand.tmp 56) 1, type := 0, pos := "law.go:63", after := #[{ on := 6, ground := Ground.data }], guard := none }) (v := ?vp6) rfl (by kernel_rfl) (by kernel_rfl) (by kernel_rfl) (fun _ _ _ h => h) (Or.inl ⟨by rfl, ?yp6⟩) bu0 ?rp6
            case yp6 => (intro w hSw; go_simp; try with_reducible rfl)
            try simp only [Act.put, List.setIfInBounds_toArray, List.set_cons_zero, List.set_cons_succ]
            refine wpAnyH_take (i := 8) (oi := { dst := some 58, op := Op.load 5 (Operand.tmp 57), type := 5, pos := "law.go:63", after := #[{ on := 7, ground := Ground.data }], guard := none }) (v := ?vp7) rfl (by kernel_rfl) (by kernel_rfl) (by kernel_rfl) (fun _ _ _ h => h) (Or.inl ⟨by rfl, ?yp7⟩) bu0 ?rp7
            case yp7 => (intro w hSw; have t := FL.out w hSw; go_simp; try with_reducible rfl)
            try simp only [Act.put, List.setIfInBounds_toArray, List.set_cons_zero, List.set_cons_succ]
            refine wpAnyH_ready (rs := [0, 9]) (by kernel_rfl) (by simp) ?_
            refine AllReadyH.cons (o := { dst := some 50, op := Op.buildSlice 22 0 #[], type := 22, pos := "law.go:63", after := #[], guard := none }) rfl (fun KK hKK => ?_) ?_
            · go_simp
              refine hKK.out _ _ (bu0.trans (Below.mono (al_below _ _) bu0.size)) (fun _ => ?_)
              clear hKK KK
              try simp only [Act.put, List.setIfInBounds_toArray, List.set_cons_zero, List.set_cons_succ]
              refine wpAnyH_name (fun u8 hu8 => ?_)
              have bu8 : Below w3.heap.size w3 u8 := by rw [hu8.out]; exact (bu0.trans (Below.mono (al_below _ _) bu0.size))
              have bbu8 : Below u0.heap.size u0 u8 := by rw [hu8.out]; exact al_below _ _
              have E0 : Hid (u8.heap[u0.heap.size]? = some (.cells #[] 5 (0, 0))) := by unfold Hid; rw [hu8.out]; exact heap_alloc_new _ _
              (try replace S9 := keepSl S9 bbu8)
              refine wpAnyH_ready (rs := [3, 9]) (by kernel_rfl) (by simp) ?_
              refine AllReadyH.cons (o := { dst := some 53, op := Op.call { callee := Callee.builtin Builtin.append, args := #[Operand.tmp 50, Operand.tmp 52], argTypes := #[22, 22] }, type := 22, pos := "law.go:63", after := #[{ on := 0, ground := Ground.data }, { on := 2, ground := Ground.data }], guard := none }) rfl (fun KK hKK => ?_) ?_
              · rw [if_pos (by rfl)]
                refine wp_append_emp _ _ rfl _ rfl E0.out _ T rfl (FH.out _ bu8) hTL.out.1 ?_
                intro v3 u9' e3 bu9'
                refine hKK.out _ _ (bu8.trans (Below.mono (bu9') bu8.size)) (fun _ => ?_)
                clear hKK KK
                try simp only [Act.put, List.setIfInBounds_toArray, List.set_cons_zero, List.set_cons_succ]
                refine wpAnyH_name (fun u9 hu9 => ?_)
                have bu9 : Below w3.heap.size w3 u9 := by rw [hu9.out]; exact (bu8.trans (Below.mono (bu9') bu8.size))
                have bbu9 : Below u8.heap.size u8 u9 := by rw [hu9.out]; exact bu9'
                have E3 : Hid (Emp u9 w3.heap.size v3 T) := by unfold Hid; rw [hu9.out]; exact e3.mono bu8.size
                (try replace S9 := keepSl S9 bbu9)
                clear e3
                refine wpAnyH_ready (rs := [9]) (by kernel_rfl) (by simp) ?_
                refine AllReadyH.cons (o := { dst := some 59, op := Op.buildSlice 22 1 #[(0, Operand.tmp 58)], type := 22, pos := "law.go:63", after := #[{ on := 8, ground := Ground.data }], guard := none }) rfl (fun KK hKK => ?_) ?_
                · go_simp
                  refine hKK.out _ _ (bu9.trans (Below.mono (al_below _ _) bu9.size)) (fun _ => ?_)
                  clear hKK KK
                  try simp only [Act.put, List.setIfInBounds_toArray, List.set_cons_zero, List.set_cons_succ]
                  refine wpAnyH_name (fun u10 hu10 => ?_)
                  have bu10 : Below w3.heap.size w3 u10 := by rw [hu10.out]; exact (bu9.trans (Below.mono (al_below _ _) bu9.size))
                  have bbu10 : Below u9.heap.size u9 u10 := by rw [hu10.out]; exact al_below _ _
                  have S9 : Hid (Sl u10 (.slice (some ⟨u9.heap.size, 0, none⟩) 1 1) [z]) := by unfold Hid; rw [hu10.out]; exact sl_one u9 z HZ.out.1 HZ.out.2
                  (try replace E0 := keepE E0 bbu10)
                  (try replace E3 := keepEmp E3 bbu10)
                  refine wpAnyH_ready (rs := [10]) (by kernel_rfl) (by simp) ?_
                  refine AllReadyH.cons (o := { dst := some 60, op := Op.call { callee := Callee.builtin Builtin.append, args := #[Operand.tmp 53, Operand.tmp 59], argTypes := #[22, 22] }, type := 22, pos := "law.go:63", after := #[{ on := 3, ground := Ground.data }, { on := 9, ground := Ground.data }, { on := 3, ground := Ground.chain }], guard := none }) rfl (fun KK hKK => ?_) ?_
                  · rw [if_pos (by rfl)]
                    refine wp_append_emp3 _ _ rfl w3.heap.size _ T rfl E3.out bu10.size HTB.out _ z rfl S9.out hTL.out.2 ?_
                    intro v10 u11' r10 o10 k10 bu11'
                    refine hKK.out _ _ (bu10.trans bu11') (fun _ => ?_)
                    clear hKK KK
                    try simp only [Act.put, List.setIfInBounds_toArray, List.set_cons_zero, List.set_cons_succ]
                    refine wpAnyH_name (fun u11 hu11 => ?_)
                    have bu11 : Below w3.heap.size w3 u11 := by rw [hu11.out]; exact (bu10.trans bu11')
                    have O10 : Hid (Ofs u11 r10 v10 (T ++ [z])) := by unfold Hid; rw [hu11.out]; exact o10
                    clear o10 E3 S9
                    refine wpAnyH_take (i := 11) (oi := { dst := some 6, op := Op.assign (Operand.tmp 60), type := 22, pos := "law.go:63", after := #[{ on := 10, ground := Ground.data }, { on := 10, ground := Ground.chain }, { on := 0, ground := Ground.phase }, { on := 1, ground := Ground.phase }, { on := 2, ground := Ground.phase }, { on := 3, ground := Ground.phase }, { on := 4, ground := Ground.phase }, { on := 5, ground := Ground.phase }, { on := 6, ground := Ground.phase }, { on := 7, ground := Ground.phase }, { on := 8, ground := Ground.phase }, { on := 9, ground := Ground.phase }, { on := 10, ground := Ground.phase }], guard := none }) (v := ?vp12) rfl (by kernel_rfl) (by kernel_rfl) (by kernel_rfl) (fun _ _ _ h => h) (Or.inl ⟨by rfl, ?yp12⟩) bu11 ?rp12
                    case yp12 => (intro w hSw; go_simp; try with_reducible rfl)
                    try simp only [Act.put, List.setIfInBounds_toArray, List.set_cons_zero, List.set_cons_succ]
                    refine wpAnyH_done (by kernel_rfl) ?_ _
                    have BZ : Below w3.heap.size w3 u11 := bu11
                    have WT : Hid (Win u11 w.heap.size g hv3 (T ++ [z])) := W3.out.kept BZ
                    have OT : Hid (Ofs u11 r10 v10 (T ++ [z])) := O10.out
                    have DT : Hid (hv3.ownBlock ≠ some r10) := fun h => by have := W3.out.own_lt _ h; omega
                    have RT : Hid (w.heap.size ≤ r10) := Nat.le_trans B3.out.size k10
                    have BT : Hid (Below w.heap.size w u11) := B3.out.trans (BZ.mono B3.out.size)
                    have b10 : Hid (Below w3.heap.size w3 u11) := BZ
                    clear BZ O10 W3 B3 FH FL hTL HTB k10 b10
                    generalize T ++ [z] = HT at *
                    have t1 := wsum_any _ g hv3 HT u11 WT.out
                    have t2 := rsum_any v10 HT u11 OT.out.sl
                    have t3 := wlen_any _ g hv3 HT u11 WT.out (by have := LT.out; omega)
                    obtain ⟨offT, capT, curT, rfl, -, k3T, k4T, -⟩ := id OT.out
                    replace k4T : capT ≤ 9223372036854775807 := by unfold maxLen at k4T; omega
                    obtain ⟨LT2, hLT2⟩ : ∃ LT2, LT2 = HT.length := ⟨_, rfl⟩
                    rw [← hLT2] at t2 t3 k3T OT ⊢
                    clear hLT2
                    generalize rs HT = rT at *
                    go_wp2_with fail
                    refine t1.mono ?_
                    rintro e xT ⟨rfl, rfl⟩
                    clear t1
                    go_wp2_with fail
                    refine t2.mono ?_
                    rintro e xT ⟨rfl, rfl⟩
                    clear t2
                    go_wp2_with fail
                    refine t3.mono ?_
                    rintro e yT ⟨rfl, bT, hT⟩
                    clear hT t3
                    have WT' := keepWin WT bT
                    have OT' := keepOfs OT bT
                    have BT' : Hid (Below w.heap.size w yT) := BT.out.trans (bT.mono BT.out.size)
                    clear bT WT OT BT
                    go_wp2_with fail
                    go_roundw
                    case rel => exact ⟨j + 1, r10, hv3, HT, by omega, by go_num, WT'.out, OT'.out, DT.out, RT.out, by have := LT.out; omega, BT'.out⟩
                    case measure => simp [intOf]; omega
                  exact AllReadyH.nil
                exact AllReadyH.nil
              refine AllReadyH.cons (o := { dst := some 59, op := Op.buildSlice 22 1 #[(0, Operand.tmp 58)], type := 22, pos := "law.go:63", after := #[{ on := 8, ground := Ground.data }], guard := none }) rfl (fun KK hKK => ?_) ?_
              · go_simp
                refine hKK.out _ _ (bu8.trans (Below.mono (al_below _ _) bu8.size)) (fun _ => ?_)
                clear hKK KK
                try simp only [Act.put, List.setIfInBounds_toArray, List.set_cons_zero, List.set_cons_succ]
                refine wpAnyH_name (fun u13 hu13 => ?_)
                have bu13 : Below w3.heap.size w3 u13 := by rw [hu13.out]; exact (bu8.trans (Below.mono (al_below _ _) bu8.size))
                have bbu13 : Below u8.heap.size u8 u13 := by rw [hu13.out]; exact al_below _ _
                have S9 : Hid (Sl u13 (.slice (some ⟨u8.heap.size, 0, none⟩) 1 1) [z]) := by unfold Hid; rw [hu13.out]; exact sl_one u8 z HZ.out.1 HZ.out.2
                (try replace E0 := keepE E0 bbu13)
                (try replace E3 := keepEmp E3 bbu13)
                refine wpAnyH_ready (rs := [3]) (by kernel_rfl) (by simp) ?_
                refine AllReadyH.cons (o := { dst := some 53, op := Op.call { callee := Callee.builtin Builtin.append, args := #[Operand.tmp 50, Operand.tmp 52], argTypes := #[22, 22] }, type := 22, pos := "law.go:63", after := #[{ on := 0, ground := Ground.data }, { on := 2, ground := Ground.data }], guard := none }) rfl (fun KK hKK => ?_) ?_
                · rw [if_pos (by rfl)]
                  refine wp_append_emp _ _ rfl _ rfl E0.out _ T rfl (FH.out _ bu13) hTL.out.1 ?_
                  intro v3 u14' e3 bu14'
                  refine hKK.out _ _ (bu13.trans (Below.mono (bu14') bu13.size)) (fun _ => ?_)
                  clear hKK KK
                  try simp only [Act.put, List.setIfInBounds_toArray, List.set_cons_zero, List.set_cons_succ]
                  refine wpAnyH_name (fun u14 hu14 => ?_)
                  have bu14 : Below w3.heap.size w3 u14 := by rw [hu14.out]; exact (bu13.trans (Below.mono (bu14') bu13.size))
                  have bbu14 : Below u13.heap.size u13 u14 := by rw [hu14.out]; exact bu14'
                  have E3 : Hid (Emp u14 w3.heap.size v3 T) := by unfold Hid; rw [hu14.out]; exact e3.mono bu13.size
                  (try replace S9 := keepSl S9 bbu14)
                  clear e3
                  refine wpAnyH_ready (rs := [10]) (by kernel_rfl) (by simp) ?_
                  refine AllReadyH.cons (o := { dst := some 60, op := Op.call { callee := Callee.builtin Builtin.append, args := #[Operand.tmp 53, Operand.tmp 59], argTypes := #[22, 22] }, type := 22, pos := "law.go:63", after := #[{ on := 3, ground := Ground.data }, { on := 9, ground := Ground.data }, { on := 3, ground := Ground.chain }], guard := none }) rfl (fun KK hKK => ?_) ?_
                  · rw [if_pos (by rfl)]
                    refine wp_append_emp3 _ _ rfl w3.heap.size _ T rfl E3.out bu14.size HTB.out _ z rfl S9.out hTL.out.2 ?_
                    intro v10 u15' r10 o10 k10 bu15'
                    refine hKK.out _ _ (bu14.trans bu15') (fun _ => ?_)
                    clear hKK KK
                    try simp only [Act.put, List.setIfInBounds_toArray, List.set_cons_zero, List.set_cons_succ]
                    refine wpAnyH_name (fun u15 hu15 => ?_)
                    have bu15 : Below w3.heap.size w3 u15 := by rw [hu15.out]; exact (bu14.trans bu15')
                    have O10 : Hid (Ofs u15 r10 v10 (T ++ [z])) := by unfold Hid; rw [hu15.out]; exact o10
                    clear o10 E3 S9
                    refine wpAnyH_take (i := 11) (oi := { dst := some 6, op := Op.assign (Operand.tmp 60), type := 22, pos := "law.go:63", after := #[{ on := 10, ground := Ground.data }, { on := 10, ground := Ground.chain }, { on := 0, ground := Ground.phase }, { on := 1, ground := Ground.phase }, { on := 2, ground := Ground.phase }, { on := 3, ground := Ground.phase }, { on := 4, ground := Ground.phase }, { on := 5, ground := Ground.phase }, { on := 6, ground := Ground.phase }, { on := 7, ground := Ground.phase }, { on := 8, ground := Ground.phase }, { on := 9, ground := Ground.phase }, { on := 10, ground := Ground.phase }], guard := none }) (v := ?vp16) rfl (by kernel_rfl) (by kernel_rfl) (by kernel_rfl) (fun _ _ _ h => h) (Or.inl ⟨by rfl, ?yp16⟩) bu15 ?rp16
                    case yp16 => (intro w hSw; go_simp; try with_reducible rfl)
                    try simp only [Act.put, List.setIfInBounds_toArray, List.set_cons_zero, List.set_cons_succ]
                    refine wpAnyH_done (by kernel_rfl) ?_ _
                    have BZ : Below w3.heap.size w3 u15 := bu15
                    have WT : Hid (Win u15 w.heap.size g hv3 (T ++ [z])) := W3.out.kept BZ
                    have OT : Hid (Ofs u15 r10 v10 (T ++ [z])) := O10.out
                    have DT : Hid (hv3.ownBlock ≠ some r10) := fun h => by have := W3.out.own_lt _ h; omega
                    have RT : Hid (w.heap.size ≤ r10) := Nat.le_trans B3.out.size k10
                    have BT : Hid (Below w.heap.size w u15) := B3.out.trans (BZ.mono B3.out.size)
                    have b10 : Hid (Below w3.heap.size w3 u15) := BZ
                    clear BZ O10 W3 B3 FH FL hTL HTB k10 b10
                    generalize T ++ [z] = HT at *
                    have t1 := wsum_any _ g hv3 HT u15 WT.out
                    have t2 := rsum_any v10 HT u15 OT.out.sl
                    have t3 := wlen_any _ g hv3 HT u15 WT.out (by have := LT.out; omega)
                    obtain ⟨offT, capT, curT, rfl, -, k3T, k4T, -⟩ := id OT.out
                    replace k4T : capT ≤ 9223372036854775807 := by unfold maxLen at k4T; omega
                    obtain ⟨LT2, hLT2⟩ : ∃ LT2, LT2 = HT.length := ⟨_, rfl⟩
                    rw [← hLT2] at t2 t3 k3T OT ⊢
                    clear hLT2
                    generalize rs HT = rT at *
                    go_wp2_with fail
                    refine t1.mono ?_
                    rintro e xT ⟨rfl, rfl⟩
                    clear t1
                    go_wp2_with fail
                    refine t2.mono ?_
                    rintro e xT ⟨rfl, rfl⟩
                    clear t2
                    go_wp2_with fail
                    refine t3.mono ?_
                    rintro e yT ⟨rfl, bT, hT⟩
                    clear hT t3
                    have WT' := keepWin WT bT
                    have OT' := keepOfs OT bT
                    have BT' : Hid (Below w.heap.size w yT) := BT.out.trans (bT.mono BT.out.size)
                    clear bT WT OT BT
                    go_wp2_with fail
                    go_roundw
                    case rel => exact ⟨j + 1, r10, hv3, HT, by omega, by go_num, WT'.out, OT'.out, DT.out, RT.out, by have := LT.out; omega, BT'.out⟩
                    case measure => simp [intOf]; omega
                  exact AllReadyH.nil
                exact AllReadyH.nil
              exact AllReadyH.nil
            refine AllReadyH.cons (o := { dst := some 59, op := Op.buildSlice 22 1 #[(0, Operand.tmp 58)], type := 22, pos := "law.go:63", after := #[{ on := 8, ground := Ground.data }], guard := none }) rfl (fun KK hKK => ?_) ?_
            · go_simp
              refine hKK.out _ _ (bu0.trans (Below.mono (al_below _ _) bu0.size)) (fun _ => ?_)
              clear hKK KK
              try simp only [Act.put, List.setIfInBounds_toArray, List.set_cons_zero, List.set_cons_succ]
              refine wpAnyH_name (fun u17 hu17 => ?_)
              have bu17 : Below w3.heap.size w3 u17 := by rw [hu17.out]; exact (bu0.trans (Below.mono (al_below _ _) bu0.size))
              have bbu17 : Below u0.heap.size u0 u17 := by rw [hu17.out]; exact al_below _ _
              have S9 : Hid (Sl u17 (.slice (some ⟨u0.heap.size, 0, none⟩) 1 1) [z]) := by unfold Hid; rw [hu17.out]; exact sl_one u0 z HZ.out.1 HZ.out.2
              (try replace E0 := keepE E0 bbu17)
              (try replace E3 := keepEmp E3 bbu17)
              refine wpAnyH_ready (rs := [0]) (by kernel_rfl) (by simp) ?_
              refine AllReadyH.cons (o := { dst := some 50, op := Op.buildSlice 22 0 #[], type := 22, pos := "law.go:63", after := #[], guard := none }) rfl (fun KK hKK => ?_) ?_
              · go_simp
                refine hKK.out _ _ (bu17.trans (Below.mono (al_below _ _) bu17.size)) (fun _ => ?_)
                clear hKK KK
                try simp only [Act.put, List.setIfInBounds_toArray, List.set_cons_zero, List.set_cons_succ]
                refine wpAnyH_name (fun u18 hu18 => ?_)
                have bu18 : Below w3.heap.size w3 u18 := by rw [hu18.out]; exact (bu17.trans (Below.mono (al_below _ _) bu17.size))
                have bbu18 : Below u17.heap.size u17 u18 := by rw [hu18.out]; exact al_below _ _
                have E0 : Hid (u18.heap[u17.heap.size]? = some (.cells #[] 5 (0, 0))) := by unfold Hid; rw [hu18.out]; exact heap_alloc_new _ _
                (try replace S9 := keepSl S9 bbu18)
                refine wpAnyH_ready (rs := [3]) (by kernel_rfl) (by simp) ?_
                refine AllReadyH.cons (o := { dst := some 53, op := Op.call { callee := Callee.builtin Builtin.append, args := #[Operand.tmp 50, Operand.tmp 52], argTypes := #[22, 22] }, type := 22, pos := "law.go:63", after := #[{ on := 0, ground := Ground.data }, { on := 2, ground := Ground.data }], guard := none }) rfl (fun KK hKK => ?_) ?_
                · rw [if_pos (by rfl)]
                  refine wp_append_emp _ _ rfl _ rfl E0.out _ T rfl (FH.out _ bu18) hTL.out.1 ?_
                  intro v3 u19' e3 bu19'
                  refine hKK.out _ _ (bu18.trans (Below.mono (bu19') bu18.size)) (fun _ => ?_)
                  clear hKK KK
                  try simp only [Act.put, List.setIfInBounds_toArray, List.set_cons_zero, List.set_cons_succ]
                  refine wpAnyH_name (fun u19 hu19 => ?_)
                  have bu19 : Below w3.heap.size w3 u19 := by rw [hu19.out]; exact (bu18.trans (Below.mono (bu19') bu18.size))
                  have bbu19 : Below u18.heap.size u18 u19 := by rw [hu19.out]; exact bu19'
                  have E3 : Hid (Emp u19 w3.heap.size v3 T) := by unfold Hid; rw [hu19.out]; exact e3.mono bu18.size
                  (try replace S9 := keepSl S9 bbu19)
                  clear e3
                  refine wpAnyH_ready (rs := [10]) (by kernel_rfl) (by simp) ?_
                  refine AllReadyH.cons (o := { dst := some 60, op := Op.call { callee := Callee.builtin Builtin.append, args := #[Operand.tmp 53, Operand.tmp 59], argTypes := #[22, 22] }, type := 22, pos := "law.go:63", after := #[{ on := 3, ground := Ground.data }, { on := 9, ground := Ground.data }, { on := 3, ground := Ground.chain }], guard := none }) rfl (fun KK hKK => ?_) ?_
                  · rw [if_pos (by rfl)]
                    refine wp_append_emp3 _ _ rfl w3.heap.size _ T rfl E3.out bu19.size HTB.out _ z rfl S9.out hTL.out.2 ?_
                    intro v10 u20' r10 o10 k10 bu20'
                    refine hKK.out _ _ (bu19.trans bu20') (fun _ => ?_)
                    clear hKK KK
                    try simp only [Act.put, List.setIfInBounds_toArray, List.set_cons_zero, List.set_cons_succ]
                    refine wpAnyH_name (fun u20 hu20 => ?_)
                    have bu20 : Below w3.heap.size w3 u20 := by rw [hu20.out]; exact (bu19.trans bu20')
                    have O10 : Hid (Ofs u20 r10 v10 (T ++ [z])) := by unfold Hid; rw [hu20.out]; exact o10
                    clear o10 E3 S9
                    refine wpAnyH_take (i := 11) (oi := { dst := some 6, op := Op.assign (Operand.tmp 60), type := 22, pos := "law.go:63", after := #[{ on := 10, ground := Ground.data }, { on := 10, ground := Ground.chain }, { on := 0, ground := Ground.phase }, { on := 1, ground := Ground.phase }, { on := 2, ground := Ground.phase }, { on := 3, ground := Ground.phase }, { on := 4, ground := Ground.phase }, { on := 5, ground := Ground.phase }, { on := 6, ground := Ground.phase }, { on := 7, ground := Ground.phase }, { on := 8, ground := Ground.phase }, { on := 9, ground := Ground.phase }, { on := 10, ground := Ground.phase }], guard := none }) (v := ?vp21) rfl (by kernel_rfl) (by kernel_rfl) (by kernel_rfl) (fun _ _ _ h => h) (Or.inl ⟨by rfl, ?yp21⟩) bu20 ?rp21
                    case yp21 => (intro w hSw; go_simp; try with_reducible rfl)
                    try simp only [Act.put, List.setIfInBounds_toArray, List.set_cons_zero, List.set_cons_succ]
                    refine wpAnyH_done (by kernel_rfl) ?_ _
                    have BZ : Below w3.heap.size w3 u20 := bu20
                    have WT : Hid (Win u20 w.heap.size g hv3 (T ++ [z])) := W3.out.kept BZ
                    have OT : Hid (Ofs u20 r10 v10 (T ++ [z])) := O10.out
                    have DT : Hid (hv3.ownBlock ≠ some r10) := fun h => by have := W3.out.own_lt _ h; omega
                    have RT : Hid (w.heap.size ≤ r10) := Nat.le_trans B3.out.size k10
                    have BT : Hid (Below w.heap.size w u20) := B3.out.trans (BZ.mono B3.out.size)
                    have b10 : Hid (Below w3.heap.size w3 u20) := BZ
                    clear BZ O10 W3 B3 FH FL hTL HTB k10 b10
                    generalize T ++ [z] = HT at *
                    have t1 := wsum_any _ g hv3 HT u20 WT.out
                    have t2 := rsum_any v10 HT u20 OT.out.sl
                    have t3 := wlen_any _ g hv3 HT u20 WT.out (by have := LT.out; omega)
                    obtain ⟨offT, capT, curT, rfl, -, k3T, k4T, -⟩ := id OT.out
                    replace k4T : capT ≤ 9223372036854775807 := by unfold maxLen at k4T; omega
                    obtain ⟨LT2, hLT2⟩ : ∃ LT2, LT2 = HT.length := ⟨_, rfl⟩
                    rw [← hLT2] at t2 t3 k3T OT ⊢
                    clear hLT2
                    generalize rs HT = rT at *
                    go_wp2_with fail
                    refine t1.mono ?_
                    rintro e xT ⟨rfl, rfl⟩
                    clear t1
                    go_wp2_with fail
                    refine t2.mono ?_
                    rintro e xT ⟨rfl, rfl⟩
                    clear t2
                    go_wp2_with fail
                    refine t3.mono ?_
                    rintro e yT ⟨rfl, bT, hT⟩
                    clear hT t3
                    have WT' := keepWin WT bT
                    have OT' := keepOfs OT bT
                    have BT' : Hid (Below w.heap.size w yT) := BT.out.trans (bT.mono BT.out.size)
                    clear bT WT OT BT
                    go_wp2_with fail
                    go_roundw
                    case rel => exact ⟨j + 1, r10, hv3, HT, by omega, by go_num, WT'.out, OT'.out, DT.out, RT.out, by have := LT.out; omega, BT'.out⟩
                    case measure => simp [intOf]; omega
                  exact AllReadyH.nil
                exact AllReadyH.nil
              exact AllReadyH.nil
            exact AllReadyH.nil
    · obtain rfl : j = n := by omega
      have WR : Hid (Win wr w.heap.size g hv H) := win
      have OR : Hid (Ofs wr r _ H) := ofs
      have BR : Hid (Below w.heap.size w wr) := bel
      clear win ofs bel
      obtain ⟨o1, cp, cu, rfl, -, k3, k4, -⟩ := id OR.out
      replace k4 : cp ≤ 9223372036854775807 := by unfold maxLen at k4; omega
      obtain ⟨L, hL⟩ : ∃ L, L = H.length := ⟨_, rfl⟩
      have b1 := (Below.refl wr.heap.size wr).drew
      have belD : Below w.heap.size w wr.drew := BR.out.trans (b1.mono BR.out.size)
      have s3 := wbytes_any _ g hv H wr.drew (WR.out.kept b1) (by omega)
      have HCV : Hid (∀ W, Below wr.heap.size wr W → (convert 22 9 (.slice (some ⟨r, o1, none⟩) L cp)).run Try.prog W = .ok (.string (strB H)) W) := fun W hB => by rw [hL]; exact (OR.out.kept hB).sl.conv
      have v0 := HCV.out wr.drew b1
      have HBy : Hid (∀ i, 0 ≤ H.getD i 0 ∧ H.getD i 0 < 256) := OR.out.sl.bytes
      rw [← hL] at k3 OR hlen s3 ⊢
      clear hL WR OR
      go_wp2_with fail
      go_region_with ((first
        | (go_at_call 22; refine s3.mono ?_; rintro e w1 ⟨v1, rfl, own1, bel1⟩; have B1 := belD.trans (bel1.mono belD.size); have cv0 := HCV.out w1 (b1.trans bel1); have cv1 := sl_owned own1 HBy.out; obtain ⟨a1, cap1, rfl⟩ := own_shape own1; have cv2 := cv1.conv; clear own1 bel1 cv1)
        | (go_at_call 9; refine (HA.out _).mono ?_; rintro e w2 ⟨rfl, bel2⟩; have B2 := B1.trans (bel2.mono B1.size); clear bel2)))
      all_goals
        go_wp2_with fail
        go_ret
        exact ⟨rfl, B2⟩

theorem contract (H : Type) (enc : TypeId × Value → H) (W : World) (base : Nat) (args : Array Value) (ds gs : List (DataW H)) (before : List MemPlace)
    (hval : ∀ (j : Nat) t v, Try.f5.params[j]? = some t → args[j]? = some v → Value.okWide Try.prog W .any base t v)
    (hW : DataW.Whole enc Try.prog Try.f5.params.toList Rows.rollWindowsSpec.vars false W args.toList ds gs before) (_hL : laidMetH Try.prog Rows.rollWindowsRow.laid W)
    (hsz0 : (DataW.weightsEach Try.prog (Try.f5.params.toList ++ Rows.rollWindowsSpec.plain.varTypes Try.prog) (ds ++ gs)).all (· ≤ reachBytes) = true) :
    Calls Try.prog 5 args W fun e W' => ∃ v, e = .returned v ∧ Rows.rollWindowsSpec.post enc Try.prog Try.f5 false true false false W args v W' := by
  have hW' := hW
  obtain ⟨p, q, hA0, hV, rfl, hfz, hnd⟩ := hW
  have hA : DataW.TrodAll enc Try.prog W 0 (fun _ => true) true Try.f5.params.toList args.toList ds p := hA0
  rw [Try.params5] at hA hval hsz0
  obtain ⟨v0, vs0, d0, ds0, p0, q0, hargs, rfl, rfl, h0, r0⟩ := trodAll_cons hA
  obtain ⟨v1, vs1, d1, ds1, p1, q1, rfl, rfl, rfl, h1, r1⟩ := trodAll_cons r0
  obtain ⟨rfl, rfl, rfl⟩ := trodAll_nil r1
  obtain rfl : args = #[v0, v1] := by cases args; simp_all
  obtain ⟨rfl, rfl⟩ := trodVars_none hV
  have hsz : (DataW.weightsEach Try.prog [22, 35] [d0, d1]).all (· ≤ reachBytes) = true := hsz0
  have k0 := h0
  have lt0 : ∀ x ∈ p0, x.block < W.heap.size := by obtain ⟨m, hm⟩ := k0; exact DataW.trod_lt m _ _ _ hm
  obtain ⟨a0, len0, cap0, z0, rfl, w0⟩ := bytes_open 0 (hval 0 22 v0 rfl rfl) h0 hsz rfl rfl
  have k1 := h1
  have lt1 : ∀ x ∈ p1, x.block < W.heap.size := by obtain ⟨m, hm⟩ := k1; exact DataW.trod_lt m _ _ _ hm
  obtain ⟨a1, len1, cap1, K1, N1, rfl, w1⟩ := acts_open (hval 1 35 v1 rfl rfl) h1
  clear hA0
  refine (walk a0 len0 cap0 z0 a1 len1 cap1 K1 N1 W w0 w1).mono fun e W' ⟨he, bel⟩ => ?_
  subst he
  exact ⟨_, rfl, _, _, _, [], _, [], hW', trodAll_mk1 (shut_bool Try.underlying4 _), (trodAll_cons_mk (Below.trod laidOut (by kernel_rfl) (of_decide_eq_true (by kernel_rfl)) k0 bel lt0) (trodAll_cons_mk (Below.trod laidOut (by kernel_rfl) (of_decide_eq_true (by kernel_rfl)) k1 bel lt1) trodAll_mk0)), rfl, bel.frame _, fun h => by cases h⟩

theorem laid_met (os : Os) : laidMet Try.prog Rows.rollWindowsRow.laid ((World.holding Try.prog os ⟨#[], #[], []⟩).forCall (fun _ _ => 0) ⟨#[], #[.slice none 0 0, .slice none 0 0], []⟩).memory :=
  laidMet_of_run' 8 (by kernel_rfl) (by kernel_rfl)
theorem reads (os : Os) {H : Type} (enc : TypeId × Value → H) : ∃ places, DataW.whole enc Try.prog ((World.holding Try.prog os ⟨#[], #[], []⟩).forCall (fun _ _ => 0) ⟨#[], #[.slice none 0 0, .slice none 0 0], []⟩).memory Try.f5.params.toList Rows.rollWindowsSpec.vars false #[Value.slice none 0 0, .slice none 0 0].toList 8 = some ([.nil, .nil], [], places) :=
  ⟨[], by kernel_rfl⟩

set_option maxRecDepth 100000 in
theorem lifted (os : Os) (started : os.Started) (H : Type) (enc : TypeId × Value → H) (F : Stop.Interp) :
    ReturnsInHanded {} Try.checked os 5 .any ((OpenSpec.ofChange Rows.rollWindowsSpec).preRow enc Try.prog Try.f5 Rows.rollWindowsRow.domain false Rows.rollWindowsRow.laid) (((OpenSpec.ofChange Rows.rollWindowsSpec).at F).post enc Try.prog Try.f5 false true false false) := by
  obtain ⟨places, hx⟩ := reads os enc
  refine returnsInHanded_of_row (C := Try.checked) (s := OpenSpec.ofChange Rows.rollWindowsSpec) own started (by kernel_rfl) Try.func5
    (witness_row_at (enc := enc) (C := Try.checked) false (World.holding Try.prog os ⟨#[], #[], []⟩) #[.slice none 0 0, .slice none 0 0] rfl (by kernel_rfl) (by kernel_rfl) (by kernel_rfl)
      (OpenSpec.preRow_of_cond 8 hx (by kernel_rfl) (fun k hk => by cases hk) (by kernel_rfl) (laid_met os))) ?_
  intro W base args ds gs before hval hW _ _ hsz hL _ _
  exact contract H enc W base args ds gs before hval hW hL hsz

theorem said : Rows.RollWindowsSaid :=
  OpenClaim.holds_of_cond 5 Try.f5 rfl rfl rfl rfl rfl rfl rfl ⟨rfl, rfl, rfl, rfl, rfl⟩ rfl rfl rfl rfl rfl (by kernel_rfl) Try.func5 (by kernel_rfl)
    (of_decide_eq_true (by kernel_rfl)) (by unfold Func.isWrapper; first | (rw [if_pos (by decide +kernel)]; kernel_rfl) | (rw [if_neg (by decide +kernel)]; exact ⟨rfl, rfl⟩))
    (fun os started H enc _ F => by rw [OpenClaim.pre_eq_preRow]; exact lifted os started H enc F)

end Go.Proofs.Ytdaogagliglokaa.rollWindows

namespace Go.Proofs.Ytdaogagliglokaa
/-- RollWindows. -/
theorem rollWindows_holds : Rows.RollWindowsSaid := rollWindows.said
#print axioms rollWindows_holds
end Go.Proofs.Ytdaogagliglokaa
