/-
  What slices.Replace answers at the end of a row; what it answers where a new row is wanted.
  What slices.Replace answers where a new row is wanted; what it answers at every row of the call's own.
-/
import Derived.Maps.AppendAt
import Derived.Test.YtmplpdjkhdaniaaGreatDoorWak
namespace Go.Proofs.YtmplpdjkhdaniaaGreatDoor
open Go.RowKit Go.Shelf
set_option maxRecDepth 100000

set_option maxHeartbeats 4000000 in
theorem rep_end (g c n i m : Nat) (L vs : List Value) (u : Value) (w : World) (hg : w.heap[g]? = some (.cells L.toArray 89 (0, 0))) (hL : L.length = c * 2) (hi : i < n) (hnc : n ≤ c) (him : i + m ≤ c) (hc : c ≤ maxLen) (sr : Sr w g u m vs) :
    Calls Tryz.prog 82 #[.slice (some ⟨g, 0, none⟩) n c, .int .i64 i, .int .i64 n, u] w fun e w' => e = .returned (.slice (some ⟨g, 0, none⟩) (i + m) c) ∧
      (∃ L' : List Value, w'.heap[g]? = some (.cells L'.toArray 89 (0, 0)) ∧ L'.length = c * 2 ∧ L'.take ((i + m) * 2) = (L.take (n * 2)).take (i * 2) ++ vs) ∧ w.grownBy w' (some g) := by
  obtain ⟨i0, hi0, hz0, hzs, hzb⟩ := info_parts infoN
  have hmx : c ≤ 9223372036854775807 := by unfold maxLen at hc; omega
  have hvl := sr.1
  obtain ⟨L1, hL1⟩ : ∃ L1, L1 = upd (i * 2) vs L := ⟨_, rfl⟩
  have l1 : L1.length = c * 2 := by rw [hL1, upd_len (by omega), hL]
  have cell : ∀ (W : World) (M : List Value), W.heap[g]? = some (.cells M.toArray 89 (0, 0)) → M.length = c * 2 → (∀ k, k < c * 2 → (W.cell? ⟨g, k, none⟩).isSome = true) ∧ (∀ k, W.frozen? ⟨g, k, none⟩ = false) := fun W M hM hl =>
    ⟨fun k hk => by simp only [World.cell?, hM]; rw [List.getElem?_toArray, List.getElem?_eq_getElem (by omega)]; rfl, fun k => by simp [World.frozen?, hM]⟩
  have hap : ∀ ty, (Builtin.append_ #[23, 23] ty #[.slice (some ⟨g, 0, none⟩) i c, u]).run Tryz.prog w = .ok (.slice (some ⟨g, 0, none⟩) (i + m) c) (w.setCells g (i * 2) vs) := fun ty => by
    obtain ⟨q1, q2⟩ := cell w L hg hL
    have := run_append_room_src (P := Tryz.prog) w 23 23 ty 89 i0 Tryz.underlying23 hi0 g 0 i c u m vs (by rw [hzs]; exact sr.src (fun _ _ _ => rfl)) him (fun k hk => by rw [hzs]; exact q1 _ (by omega)) (fun k _ => q2 _)
    rw [hzs, Nat.zero_add] at this
    exact this
  have HG1 : Hid ((w.setCells g (i * 2) vs).heap[g]? = some (.cells L1.toArray 89 (0, 0))) := by unfold Hid; rw [hL1]; exact upd_block g vs _ w L _ hg (by omega)
  have HT1 : Hid (L1.take ((i + m) * 2) = (L.take (n * 2)).take (i * 2) ++ vs) := by
    unfold Hid
    rw [show (i + m) * 2 = i * 2 + vs.length by omega, hL1, upd_take (by omega), List.take_take, Nat.min_eq_left (by omega)]
  have HGW : Hid (w.grownBy (w.setCells g (i * 2) vs) (some g)) := ⟨(setCells_size _ _ _ _).2.1, (setCells_size _ _ _ _).2.2.1, (setCells_size _ _ _ _).2.2.2, by rw [(setCells_size _ _ _ _).1]; exact Nat.le_refl _, fun k hk hne => setCells_other _ _ _ _ _ (fun e => hne (by rw [e]))⟩
  have HAP : Hid (∀ ty, (Builtin.append_ #[23, 23] ty #[.slice (some ⟨g, 0, none⟩) i c, u]).run Tryz.prog w = .ok (.slice (some ⟨g, 0, none⟩) (i + m) c) (w.setCells g (i * 2) vs)) := hap
  have HL1 : Hid (L1.length = c * 2) := l1
  have HCE : Hid (∀ (W : World) (M : List Value), W.heap[g]? = some (.cells M.toArray 89 (0, 0)) → M.length = c * 2 → (∀ k, k < c * 2 → (W.cell? ⟨g, k, none⟩).isSome = true) ∧ (∀ k, W.frozen? ⟨g, k, none⟩ = false)) := cell
  obtain ⟨ua, uc, rfl⟩ := sr.shape
  clear cell hap sr hg hL hvl hL1 l1
  have x1 : (i : Int) ≤ (n : Int) := by omega
  have x2 : (n : Int) ≤ (c : Int) := by omega
  have x3 : ((i : Int) == (n : Int)) = false := by simp; omega
  have x4 : ((n : Int) == (n : Int)) = true := by simp
  have x5 : (i : Int) ≤ (c : Int) := by omega
  have x6 : ¬ ((i : Int) = (n : Int)) := by omega
  have x7 : ¬ c = i := by omega
  by_cases hlt : i + m < n
  · have HCL : Hid (∀ ty cc, (Builtin.clear_ #[23] ty #[.slice (some ⟨g, (i + m) * 2, none⟩) (n - (i + m)) cc]).run Tryz.prog (w.setCells g (i * 2) vs) = .ok (.tuple #[]) ((w.setCells g (i * 2) vs).setCells g ((i + m) * 2) (zs (n - (i + m))))) := fun ty cc => by
      obtain ⟨q1, q2⟩ := HCE.out _ L1 HG1.out HL1.out
      exact run_clear_k _ ty g ((i + m) * 2) (n - (i + m)) cc (fun k hk => q1 _ (by omega)) (fun k _ => q2 _)
    have HE : Hid ((∃ L' : List Value, ((w.setCells g (i * 2) vs).setCells g ((i + m) * 2) (zs (n - (i + m)))).heap[g]? = some (.cells L'.toArray 89 (0, 0)) ∧ L'.length = c * 2 ∧ L'.take ((i + m) * 2) = (L.take (n * 2)).take (i * 2) ++ vs) ∧ w.grownBy ((w.setCells g (i * 2) vs).setCells g ((i + m) * 2) (zs (n - (i + m)))) (some g)) := by
      have hl := HL1.out
      have q := setCells_size g (zs (n - (i + m))) ((i + m) * 2) (w.setCells g (i * 2) vs)
      refine ⟨⟨upd ((i + m) * 2) (zs (n - (i + m))) L1, upd_block g _ _ _ L1 _ HG1.out (by rw [zs_len]; omega), by rw [upd_len (by rw [zs_len]; omega)]; exact hl, by rw [upd_lo (Nat.le_refl _) (by omega)]; exact HT1.out⟩, q.2.1.trans HGW.out.os, q.2.2.1.trans HGW.out.tape, q.2.2.2.trans HGW.out.output, by rw [q.1]; exact HGW.out.size, fun k hk hne => by rw [setCells_other _ _ _ _ _ (fun e => hne (by rw [e]))]; exact HGW.out.block k hk hne⟩
    have x8 : decide (((i + m : Nat) : Int) < (n : Int)) = true := by simp; omega
    have x8' : decide (i + m < n) = true := by simpa using hlt
    have x9 : ¬ c = i + m := by omega
    have x10 : ((i + m : Nat) : Int) ≤ (n : Int) := by omega
    have x11 : (0 : Int) ≤ ((i + m : Nat) : Int) := by omega
    obtain ⟨im, him'⟩ : ∃ im, im = i + m := ⟨_, rfl⟩
    rw [← him'] at HAP HCL HE x8 x8' x9 x10 x11 ⊢
    obtain ⟨W1, hW1⟩ : ∃ W1, W1 = w.setCells g (i * 2) vs := ⟨_, rfl⟩
    rw [← hW1] at HAP HCL HE
    clear him' hlt HT1 HGW HG1 hW1 HL1 HCE
    have hcl := HCL.out
    go_enter Tryz.func82, Tryz.ntmps82
    go_wp2_with (at_builtin; refine Lib.wpList_append_run _ rfl _ _ _ _ rfl _ _ rfl rfl _ _ (HAP.out _) ?_)
    go_ret
    exact ⟨rfl, HE.out.1, HE.out.2⟩
  · have x8 : decide (((i + m : Nat) : Int) < (n : Int)) = false := by simp; omega
    have x8' : decide (i + m < n) = false := by simpa using hlt
    have HE : Hid ((∃ L' : List Value, (w.setCells g (i * 2) vs).heap[g]? = some (.cells L'.toArray 89 (0, 0)) ∧ L'.length = c * 2 ∧ L'.take ((i + m) * 2) = (L.take (n * 2)).take (i * 2) ++ vs) ∧ w.grownBy (w.setCells g (i * 2) vs) (some g)) := ⟨⟨L1, HG1.out, HL1.out, HT1.out⟩, HGW.out⟩
    obtain ⟨im, him'⟩ : ∃ im, im = i + m := ⟨_, rfl⟩
    rw [← him'] at HAP HE x8 x8' ⊢
    obtain ⟨W1, hW1⟩ : ∃ W1, W1 = w.setCells g (i * 2) vs := ⟨_, rfl⟩
    rw [← hW1] at HAP HE
    clear him' hlt HT1 HGW HG1 hW1 HL1 HCE
    go_enter Tryz.func82, Tryz.ntmps82
    go_wp2_with (at_builtin; refine Lib.wpList_append_run _ rfl _ _ _ _ rfl _ _ rfl rfl _ _ (HAP.out _) ?_)
    go_ret
    exact ⟨rfl, HE.out.1, HE.out.2⟩
set_option maxHeartbeats 4000000 in
theorem rep_endg (B g c n i m h mc : Nat) (L vs : List Value) (xs : Array Value) (w : World) (hg : w.heap[g]? = some (.cells L.toArray 89 (0, 0))) (hL : L.length = c * 2) (hi : i < n) (hnc : n ≤ c) (him : c < i + m) (hc : c ≤ maxLen) (hn : n ≤ 1000) (hm : m ≤ 1000) (hB : B ≤ w.heap.size) (hBg : B ≤ g) (h1 : ∀ y ∈ vs, y.oneCell' = true) (hvl : vs.length = m * 2)
    (hh : w.heap[h]? = some (.cells xs 89 (0, 0))) (hv : ∀ (j : Nat) y, vs[j]? = some y → xs[j]? = some y) :
    Calls Tryz.prog 82 #[.slice (some ⟨g, 0, none⟩) n c, .int .i64 i, .int .i64 n, .slice (some ⟨h, 0, none⟩) m mc] w fun e w' => ∃ v', e = .returned v' ∧ w'.ownsRow B 89 2 v' (i + m) ((L.take (n * 2)).take (i * 2) ++ vs) ∧ w.grownBy w' (some g) ∧ (v'.ownBlock = some g ∨ v'.ownBlock = some w.heap.size) := by
  obtain ⟨i0, hi0, hz0, hzs, hzb⟩ := info_parts infoN
  have hmx : c ≤ 9223372036854775807 := by unfold maxLen at hc; omega
  have HO : Hid (w.ownsRow B 89 2 (.slice (some ⟨g, 0, none⟩) i c) i ((L.take (n * 2)).take (i * 2))) := by
    refine ⟨by rw [List.length_take, List.length_take]; omega, .inr ⟨g, c, L.toArray, rfl, hBg, hg, by omega, hc, by simpa using hL, ?_⟩⟩
    rw [List.take_take, Nat.min_eq_left (by omega)]
  have HX : Hid (∀ j y, vs[j]? = some y → w.cell? ((⟨h, 0, none⟩ : Addr).add j) = some y) := fun j y hj => by
    rw [Addr.add_lit, Nat.zero_add]
    simp only [World.cell?, hh]
    exact hv j y hj
  have H1 : Hid (∀ y ∈ vs, y.oneCell' = true) := h1
  have HB : Hid (B ≤ w.heap.size) := hB
  have HVL : Hid (vs.length = m * 2) := hvl
  clear hg hL h1 hh hv hB hBg hvl
  have x1 : (i : Int) ≤ (n : Int) := by omega
  have x2 : (n : Int) ≤ (c : Int) := by omega
  have x3 : ((i : Int) == (n : Int)) = false := by simp; omega
  have x4 : ((n : Int) == (n : Int)) = true := by simp
  have x5 : (i : Int) ≤ (c : Int) := by omega
  have x6 : ¬ ((i : Int) = (n : Int)) := by omega
  have x7 : ¬ c = i := by omega
  have x8 : decide (((i + m : Nat) : Int) < (n : Int)) = false := by simp; omega
  have x8' : decide (i + m < n) = false := by simp; omega
  generalize (L.take (n * 2)).take (i * 2) = XS at *
  obtain ⟨im, him'⟩ : ∃ im, im = i + m := ⟨_, rfl⟩
  have HIM : Hid (im = i + m) := him'
  rw [← him'] at x8 x8' ⊢
  clear him'
  go_enter Tryz.func82, Tryz.ntmps82
  go_wp2_with (at_builtin; refine wpList_append_own_at _ rfl _ _ 23 rfl B 89 i0 (.agg #[.int .i64 0, .int .i64 0]) 2 16 Tryz.underlying23 hi0 hz0 hzs hzb rfl (by decide) _ i XS rfl HO.out _ m mc vs rfl HVL.out HX.out H1.out (by unfold maxLen; omega) (by omega) HB.out (Hid.out ?_))
  unfold Hid
  intro v' w' o' g' _ k'
  obtain ⟨a', c', rfl⟩ := own_shape o'
  rw [← HIM.out] at o' k' ⊢
  have O' : Hid (w'.ownsRow B 89 2 (.slice a' im c') im (XS ++ vs)) := o'
  have G' : Hid (w.grownBy w' (some g)) := g'
  have K' : Hid ((Value.slice a' im c').ownBlock = some g ∨ (Value.slice a' im c').ownBlock = some w.heap.size) := k'
  clear o' g' k' HO HX H1 HB HVL HIM
  go_wp2
  go_ret
  exact ⟨_, rfl, O'.out, G'.out, K'.out⟩
end Go.Proofs.YtmplpdjkhdaniaaGreatDoor
namespace Go.Proofs.YtmplpdjkhdaniaaGreatDoor
open Go.RowKit Go.Shelf
set_option maxRecDepth 100000

/-- What a new row is, with what was ahead, what comes, and what was behind. -/
structure NR (w : World) (W1 : World) (N G : Nat) (ROW : List Value) (i : Nat) (hd : List Value) : Prop where
  blk : W1.heap[N]? = some (.cells ROW.toArray 89 (0, 0))
  len : ROW.length = G * 2
  ahd : ROW.take (i * 2) = hd
  old : ∀ k, k < w.heap.size → W1.heap[k]? = w.heap[k]?
  siz : W1.heap.size = N + 1
  new : N = w.heap.size
  oth : W1.os = w.os ∧ W1.tape = w.tape ∧ W1.output = w.output
set_option maxHeartbeats 4000000 in
theorem rep_grow (g c n i j m : Nat) (L vs : List Value) (u : Value) (w : World) (hg : w.heap[g]? = some (.cells L.toArray 89 (0, 0))) (hL : L.length = c * 2) (hij : i < j) (hj : j < n) (hnc : n ≤ c) (htc : c < i + m + (n - j)) (hc : c ≤ maxLen) (hn : n ≤ 1000) (hm : m ≤ 1000)
    (h1 : ∀ y ∈ L.take (n * 2), y.oneCell' = true) (sr : Sr w g u m vs) :
    Calls Tryz.prog 82 #[.slice (some ⟨g, 0, none⟩) n c, .int .i64 i, .int .i64 j, u] w fun e w' => ∃ cap, e = .returned (.slice (some ⟨w.heap.size, 0, none⟩) (i + m + (n - j)) cap) ∧ i + m + (n - j) ≤ cap ∧ cap ≤ maxLen ∧
      (∃ L' : List Value, w'.heap[w.heap.size]? = some (.cells L'.toArray 89 (0, 0)) ∧ L'.length = cap * 2 ∧ L'.take ((i + m + (n - j)) * 2) = (L.take (n * 2)).take (i * 2) ++ vs ++ (L.take (n * 2)).drop (j * 2)) ∧ w.grownBy w' none := by
  obtain ⟨i0, hi0, hz0, hzs, hzb⟩ := info_parts infoN
  have hmx : c ≤ 9223372036854775807 := by unfold maxLen at hc; omega
  have hgw : g < w.heap.size := lt_of_block hg
  obtain ⟨tl, htl⟩ : ∃ tl, tl = (L.take (n * 2)).drop (j * 2) := ⟨_, rfl⟩
  obtain ⟨hd, hhd⟩ : ∃ hd, hd = (L.take (n * 2)).take (i * 2) := ⟨_, rfl⟩
  have htll : tl.length = (n - j) * 2 := by rw [htl, List.length_drop, List.length_take]; omega
  have hhdl : hd.length = i * 2 := by rw [hhd, List.length_take, List.length_take]; omega
  have hvl := sr.1
  obtain ⟨t, ht⟩ : ∃ t, t = i + m + (n - j) := ⟨_, rfl⟩
  have hk1 : ∀ W : World, W.heap = w.heap → ∀ k y, (L.take (n * 2))[k]? = some y → W.cell? ⟨g, k, none⟩ = some y := fun W hW k y hk => by
    rw [List.getElem?_take] at hk
    split at hk
    · simp only [World.cell?, hW, hg]; rw [List.getElem?_toArray]; exact hk
    · cases hk
  have HRZ : Hid (∀ W : World, W.heap = w.heap → W.os = w.os → W.tape = w.tape → W.output = w.output → ∃ (G : Nat) (ROW : List Value) (W1 : World), t ≤ G ∧ G ≤ maxLen ∧ NR w W1 w.heap.size G ROW i hd ∧ ∀ ty, (Builtin.append_ #[23, 3] ty #[.slice (some ⟨g, 0, none⟩) i c, .int .i64 ((t : Int) - (i : Int))]).run Tryz.prog W = .ok (.slice (some ⟨w.heap.size, 0, none⟩) t G) W1) := fun W hW ho htp hout => by
    have hold : (Builtin.firstCells i0.size i (.slice (some ⟨g, 0, none⟩) i c)).run Tryz.prog W.drew = .ok hd.toArray W.drew := by
      rw [hzs]
      exact run_firstCells_some W.drew 2 i ⟨g, 0, none⟩ i c hd hhdl (fun k y hk => by
        rw [Addr.add_lit, Nat.zero_add]
        show W.cell? _ = _
        rw [hhd, List.getElem?_take] at hk
        split at hk
        · exact hk1 W hW k y hk
        · cases hk)
    have hik : i + (t - i) = t := by omega
    have hkk : (t : Int) - (i : Int) = ((t - i : Nat) : Int) := by omega
    have q := fun ty => Lib.run_append_grow_zeros W 23 3 ty 89 i0 _ .i64 .i64 Tryz.underlying23 Tryz.underlying3 hi0 hz0 (some ⟨g, 0, none⟩) i c hd hold (t - i) (by omega) (by omega) (by omega) (by omega) (by rw [hzb]; omega) (by rw [hzb, hik]; exact growslice_fits (by omega) (by omega))
    rw [hik] at q
    obtain ⟨G, hG⟩ : ∃ G, G = grownCap W t c 89 := ⟨_, rfl⟩
    have hGn : t ≤ G := by rw [hG]; exact grownCap_ge W _ _ _
    have hGm : G ≤ maxLen := by rw [hG]; exact grownCap_le_maxLen W t c 89 (by unfold maxLen; omega)
    rw [← hG] at q
    refine ⟨G, (hd.toArray ++ Builtin.zeroCells (Value.agg #[.int .i64 0, .int .i64 0]).cells (t - i) ++ Builtin.zeroCells (Value.agg #[.int .i64 0, .int .i64 0]).cells (G - t)).toList, W.drew.alloc (.cells (hd.toArray ++ Builtin.zeroCells (Value.agg #[.int .i64 0, .int .i64 0]).cells (t - i) ++ Builtin.zeroCells (Value.agg #[.int .i64 0, .int .i64 0]).cells (G - t)) 89), hGn, hGm, ⟨?_, ?_, ?_, ?_, ?_, rfl, ho, htp, hout⟩, fun ty => ?_⟩
    · exact heap_new _ _ _ (by show _ = W.heap.size; rw [hW])
    · rw [Array.length_toList, Array.size_append, Array.size_append, zero3, zero3]
      simp [hhdl]
      omega
    · rw [Array.toList_append, Array.toList_append, List.append_assoc]
      exact List.take_left' hhdl
    · intro k hk
      have := Below.heap_alloc W.drew (.cells (hd.toArray ++ Builtin.zeroCells (Value.agg #[.int .i64 0, .int .i64 0]).cells (t - i) ++ Builtin.zeroCells (Value.agg #[.int .i64 0, .int .i64 0]).cells (G - t)) 89) k (by show k < W.heap.size; rw [hW]; exact hk)
      rw [this]
      show W.heap[k]? = _
      rw [hW]
    · simp [hW]
    · rw [hkk, ← hW]
      exact q ty
  have HCP : Hid (∀ (W1 W : World) (G : Nat) (ROW : List Value), NR w W1 w.heap.size G ROW i hd → t ≤ G → W.heap = W1.heap → ∀ ty dc, (Builtin.copy_ #[23, 23] ty #[.slice (some ⟨w.heap.size, i * 2, none⟩) (t - i) dc, u]).run Tryz.prog W = .ok (goInt m) (W.setCells w.heap.size (i * 2) vs)) := fun W1 W G ROW nr hG hW ty dc => by
    have hb : W.heap[w.heap.size]? = some (.cells ROW.toArray 89 (0, 0)) := by rw [hW]; exact nr.blk
    have hl := nr.len
    exact run_copy_src W ty w.heap.size (i * 2) (t - i) dc u m vs (sr.src (fun k _ hk => by rw [hW]; exact nr.old k hk)) sr.shape (by omega) (fun k hk => by simp only [World.cell?, hb]; rw [List.getElem?_toArray, List.getElem?_eq_getElem (by omega)]; rfl) (fun k _ => by simp [World.frozen?, hb])
  have HCQ : Hid (∀ (W1 W : World) (G : Nat) (ROW : List Value), NR w W1 w.heap.size G ROW i hd → t ≤ G → W.heap = (W1.setCells w.heap.size (i * 2) vs).heap → ∀ ty dc sc, (Builtin.copy_ #[23, 23] ty #[.slice (some ⟨w.heap.size, (i + m) * 2, none⟩) (n - j) dc, .slice (some ⟨g, j * 2, none⟩) (n - j) sc]).run Tryz.prog W = .ok (goInt ((n - j : Nat) : Int)) (W.setCells w.heap.size ((i + m) * 2) tl)) := fun W1 W G ROW nr hG hW ty dc sc => by
    have hl := nr.len
    have hb : W.heap[w.heap.size]? = some (.cells (upd (i * 2) vs ROW).toArray 89 (0, 0)) := by rw [hW]; exact upd_block _ _ _ W1 ROW _ nr.blk (by omega)
    have hl2 : (upd (i * 2) vs ROW).length = G * 2 := by rw [upd_len (by omega)]; exact hl
    have hgb : W.heap[g]? = some (.cells L.toArray 89 (0, 0)) := by rw [hW, setCells_other _ _ _ _ _ (by omega), nr.old g hgw]; exact hg
    exact run_copy_three W _ _ ty 89 w.heap.size ((i + m) * 2) (n - j) dc ⟨g, j * 2, none⟩ (n - j) sc tl (n - j) Tryz.underlying23 size3 (by simp only [Nat.min_def]; split <;> omega) htll
      (fun k y hk => by
        rw [Addr.add_lit]
        rw [htl, List.getElem?_drop, List.getElem?_take] at hk
        split at hk
        · simp only [World.cell?, hgb]; rw [List.getElem?_toArray]; exact hk
        · cases hk) (fun k hk => by simp only [World.cell?, hb]; rw [List.getElem?_toArray, List.getElem?_eq_getElem (by omega)]; rfl) (fun k _ => by simp [World.frozen?, hb]) (fun y hy => h1 y (by rw [htl] at hy; exact List.mem_of_mem_drop hy))
  have HE : Hid (∀ (W1 W : World) (G : Nat) (ROW : List Value), NR w W1 w.heap.size G ROW i hd → t ≤ G → W.heap = ((W1.setCells w.heap.size (i * 2) vs).setCells w.heap.size ((i + m) * 2) tl).heap → W.os = w.os → W.tape = w.tape → W.output = w.output → (∃ L' : List Value, W.heap[w.heap.size]? = some (.cells L'.toArray 89 (0, 0)) ∧ L'.length = G * 2 ∧ L'.take (t * 2) = hd ++ vs ++ tl) ∧ w.grownBy W none) := fun W1 W G ROW nr hG hW e2 e3 e4 => by
    have hl := nr.len
    have hl2 : (upd (i * 2) vs ROW).length = G * 2 := by rw [upd_len (by omega)]; exact hl
    refine ⟨⟨upd ((i + m) * 2) tl (upd (i * 2) vs ROW), by rw [hW]; exact upd_block _ _ _ _ _ _ (upd_block _ _ _ W1 ROW _ nr.blk (by omega)) (by omega), by rw [upd_len (by omega)]; exact hl2, ?_⟩, e2, e3, e4, ?_, fun k hk _ => ?_⟩
    · rw [show t * 2 = (i + m) * 2 + tl.length by omega, upd_take (by omega), show (i + m) * 2 = i * 2 + vs.length by omega, upd_take (by omega), nr.ahd]
    · rw [hW, (setCells_size _ _ _ _).1, (setCells_size _ _ _ _).1, nr.siz]; omega
    · rw [hW, setCells_other _ _ _ _ _ (by omega), setCells_other _ _ _ _ _ (by omega)]
      exact nr.old k hk
  have HS : Hid (∀ (W : World) b o (xs : List Value), (W.setCells b o xs).os = W.os ∧ (W.setCells b o xs).tape = W.tape ∧ (W.setCells b o xs).output = W.output) := fun W b o xs => (setCells_size _ _ _ _).2
  obtain ⟨ua, uc, rfl⟩ := sr.shape
  rw [← htl, ← ht, ← hhd]
  have x1 : (i : Int) ≤ (j : Int) := by omega
  have x2 : (j : Int) ≤ (c : Int) := by omega
  have x3 : ((i : Int) == (j : Int)) = false := by simp; omega
  have x4 : ((j : Int) == (n : Int)) = false := by simp; omega
  have x5 : (i : Int) ≤ (c : Int) := by omega
  have x6 : (j : Int) ≤ (n : Int) := by omega
  have x7 : IntKind.i64.wrap ((i : Int) + (m : Int)) = ((i + m : Nat) : Int) := by rw [IntKind.wrap_i64]; omega
  have x8 : IntKind.i64.wrap (((i + m : Nat) : Int) + ((n - j : Nat) : Int)) = (t : Int) := by rw [IntKind.wrap_i64]; omega
  have x9 : decide ((c : Int) < (t : Int)) = true := by simp; omega
  have x9' : decide (c < t) = true := by simp; omega
  have x12 : (i : Int) ≤ (t : Int) := by omega
  have x15 : ¬ c = i := by omega
  have x16 : ¬ c = j := by omega
  have x18 : t - (i + m) = n - j := by omega
  have x19 : ¬ ((i : Int) = (j : Int)) := by omega
  have x20 : ¬ ((j : Int) = (n : Int)) := by omega
  have HT : Hid ((i : Int) + (m : Int) + ((n - j : Nat) : Int) = (t : Int)) := by unfold Hid; omega
  have x22 : IntKind.i64.wrap ((i : Int) + (m : Int)) = (i : Int) + (m : Int) := by rw [IntKind.wrap_i64]; omega
  have x24 : (i : Int) + (m : Int) ≤ (t : Int) := by omega
  have x25 : (0 : Int) ≤ (i : Int) + (m : Int) := by omega
  have x26 : ((i : Int) + (m : Int)).toNat = i + m := by omega
  have x27 : i ≤ t := by omega
  have x28 : i + m ≤ t := by omega
  have x30 : IntKind.i64.wrap ((t : Int) - (i : Int)) = (t : Int) - (i : Int) := by rw [IntKind.wrap_i64]; omega
  have htm : t ≤ 3000 := by omega
  have hjn : 0 < n - j := by omega
  have HDW : Hid (∀ q, (w.drewN q).heap = w.heap ∧ (w.drewN q).os = w.os ∧ (w.drewN q).tape = w.tape ∧ (w.drewN q).output = w.output) := fun q => ⟨rfl, rfl, rfl, rfl⟩
  clear hk1 h1 sr hg hL htl htll hvl ht hhd hhdl htc hgw
  have mixed : Tryz.prog.follows Departure.mixedOrders = true := by kernel_rfl
  go_enter Tryz.func82, Tryz.ntmps82
  go_upto_region 9 with fail
  go_quiet (fail)
  obtain ⟨W0, hW0⟩ : ∃ W0, W0 = w.drewN nq := ⟨_, rfl⟩
  have HW0 : Hid (W0.heap = w.heap ∧ W0.os = w.os ∧ W0.tape = w.tape ∧ W0.output = w.output) := by unfold Hid; rw [hW0]; exact HDW.out nq
  rw [← hW0, HT.out]
  clear hW0 HT HDW
  obtain ⟨G, ROW, W1, hG, hGm, nr, hap⟩ := HRZ.out W0 HW0.out.1 HW0.out.2.1 HW0.out.2.2.1 HW0.out.2.2.2
  have HNR : Hid (NR w W1 w.heap.size G ROW i hd) := nr
  have HAP : Hid (∀ ty, (Builtin.append_ #[23, 3] ty #[.slice (some ⟨g, 0, none⟩) i c, .int .i64 ((t : Int) - (i : Int))]).run Tryz.prog W0 = .ok (.slice (some ⟨w.heap.size, 0, none⟩) t G) W1) := hap
  have HGB : Hid (t ≤ G ∧ G ≤ maxLen) := ⟨hG, hGm⟩
  have y1 : ¬ G = i := by omega
  have y2 : ¬ G = i + m := by omega
  have y3 : G ≤ 9223372036854775807 := by unfold maxLen at hGm; omega
  clear nr hap HRZ
  have hc1 := HCP.out W1 W1 G ROW HNR.out HGB.out.1 rfl
  go_wp2_with (at_builtin; refine Lib.wpList_append_run _ rfl _ _ _ _ rfl _ _ rfl rfl _ _ (HAP.out _) ?_)
  obtain ⟨W2, hW2⟩ : ∃ W2, W2 = W1.setCells w.heap.size (i * 2) vs := ⟨_, rfl⟩
  have HH2 : Hid (W2.heap = (W1.setCells w.heap.size (i * 2) vs).heap ∧ W2.os = w.os ∧ W2.tape = w.tape ∧ W2.output = w.output) := by
    unfold Hid
    rw [hW2]
    have q := HS.out W1 w.heap.size (i * 2) vs
    exact ⟨rfl, q.1.trans HNR.out.oth.1, q.2.1.trans HNR.out.oth.2.1, q.2.2.trans HNR.out.oth.2.2⟩
  rw [← hW2]
  clear hW2 hc1 HCP HAP HW0
  go_region_law_o (refine step_copy_runI rfl _ _ 23 23 rfl (.slice (some ⟨w.heap.size, (i + m) * 2, none⟩) (n - j) (G - (i + m))) (.slice (some ⟨g, j * 2, none⟩) (n - j) (c - j)) (by simp [Act.eval, Act.put]) (by simp [Act.eval, Act.put]) (HCQ.out W1 W2.drew G ROW HNR.out HGB.out.1 HH2.out.1 3 (G - (i + m)) (c - j)) ?_)
  have HF := HE.out W1 (W2.drew.setCells w.heap.size ((i + m) * 2) tl) G ROW HNR.out HGB.out.1 (setCells_heap _ _ _ _ _ HH2.out.1) ((HS.out _ _ _ _).1.trans HH2.out.2.1) ((HS.out _ _ _ _).2.1.trans HH2.out.2.2.1) ((HS.out _ _ _ _).2.2.trans HH2.out.2.2.2)
  have HFF : Hid (_ ∧ _) := HF
  clear HF HE HS HH2 HCQ HNR
  go_wp2_with fail
  go_ret
  exact ⟨G, rfl, HGB.out.1, HGB.out.2, HFF.out.1, HFF.out.2⟩
/-- What is laid in the place of others, at every row of the call's own. -/
theorem replace_own (B : Nat) (v : Value) (n i j m : Nat) (cs vs : List Value) (u : Value) (w : World) (ho : w.ownsRow B 89 2 v n cs) (hij : i < j) (hjn : j ≤ n) (hn : n ≤ 1000) (hm : m ≤ 1000) (hB : B ≤ w.heap.size) (h1 : ∀ y ∈ cs, y.oneCell' = true)
    (sr : ∀ g, v.ownBlock = some g → Sr w g u m vs) :
    Calls Tryz.prog 82 #[v, .int .i64 i, .int .i64 j, u] w fun e w' => ∃ v', e = .returned v' ∧ w'.ownsRow B 89 2 v' (i + m + (n - j)) (cs.take (i * 2) ++ vs ++ cs.drop (j * 2)) ∧ w.grownBy w' v.ownBlock ∧ (v'.ownBlock = v.ownBlock ∨ v'.ownBlock = some w.heap.size) := by
  have hcl := ho.1
  rcases ho.2 with ⟨_, h0⟩ | ⟨g, c, cur, rfl, hBg, hg, hnc, hcm, hsz, htk⟩
  · omega
  have S := sr g rfl
  have hvl := S.1
  obtain ⟨L, rfl⟩ : ∃ L : List Value, cur = L.toArray := ⟨cur.toList, by simp⟩
  have hL : L.length = c * 2 := by simpa using hsz
  have htk' : L.take (n * 2) = cs := by simpa using htk
  have hlen : (cs.take (i * 2) ++ vs ++ cs.drop (j * 2)).length = (i + m + (n - j)) * 2 := by
    rw [List.length_append, List.length_append, List.length_take, List.length_drop, hcl]
    omega
  rcases Nat.lt_or_ge j n with hjlt | hjge
  · rcases Nat.lt_or_ge c (i + m + (n - j)) with hr | hr
    · refine (rep_grow g c n i j m L vs u w hg hL hij hjlt hnc hr hcm hn hm (by rw [htk']; exact h1) S).mono ?_
      rintro e w' ⟨cap, rfl, k1, k2, ⟨L', k3, k4, k5⟩, k6⟩
      refine ⟨_, rfl, ⟨hlen, .inr ⟨w.heap.size, cap, L'.toArray, rfl, hB, k3, k1, k2, by simpa using k4, ?_⟩⟩, ⟨k6.os, k6.tape, k6.output, k6.size, fun k hk _ => k6.block k hk (by simp)⟩, .inr rfl⟩
      rw [htk'] at k5
      simpa using k5
    · rcases Nat.lt_or_ge j (i + m) with hx | hx
      · obtain ⟨s1, s2, ⟨_, s3⟩ | ⟨h, mc, xs, rfl, hh, hne, hv, hx0⟩⟩ := id S
        · omega
        refine (rep_exp g c n i j m h mc L vs xs w hg hL hij hjlt hx hr hcm hn hm (by rw [htk']; exact h1) S hh hne hx0).mono ?_
        rintro e w' ⟨rfl, ⟨L', k3, k4, k5⟩, k6⟩
        refine ⟨_, rfl, ⟨hlen, .inr ⟨g, c, L'.toArray, rfl, hBg, k3, hr, hcm, by simpa using k4, ?_⟩⟩, k6, .inl rfl⟩
        rw [htk'] at k5
        simpa using k5
      · refine (rep_fit g c n i j m L vs u w hg hL hij hjlt hx hnc hcm hn (by rw [htk']; exact h1) S).mono ?_
        rintro e w' ⟨rfl, ⟨L', k3, k4, k5⟩, k6⟩
        refine ⟨_, rfl, ⟨hlen, .inr ⟨g, c, L'.toArray, rfl, hBg, k3, hr, hcm, by simpa using k4, ?_⟩⟩, k6, .inl rfl⟩
        rw [htk'] at k5
        simpa using k5
  · obtain rfl : j = n := by omega
    have e2 : cs.drop (j * 2) = [] := List.drop_of_length_le (by rw [hcl]; exact Nat.le_refl _)
    rw [Nat.sub_self, Nat.add_zero] at hlen ⊢
    rw [e2, List.append_nil] at hlen ⊢
    rcases Nat.lt_or_ge c (i + m) with hr | hr
    · obtain ⟨s1, s2, ⟨_, s3⟩ | ⟨h, mc, xs, rfl, hh, hne, hv, hx0⟩⟩ := id S
      · omega
      refine (rep_endg B g c j i m h mc L vs xs w hg hL hij hnc hr hcm hn hm hB hBg s2 s1 hh hv).mono ?_
      rintro e w' ⟨v', rfl, k1, k2, k3⟩
      rw [htk'] at k1
      exact ⟨v', rfl, k1, k2, k3⟩
    · refine (rep_end g c j i m L vs u w hg hL hij hnc hr hcm S).mono ?_
      rintro e w' ⟨rfl, ⟨L', k3, k4, k5⟩, k6⟩
      refine ⟨_, rfl, ⟨hlen, .inr ⟨g, c, L'.toArray, rfl, hBg, k3, hr, hcm, by simpa using k4, ?_⟩⟩, k6, .inl rfl⟩
      rw [htk'] at k5
      simpa using k5
end Go.Proofs.YtmplpdjkhdaniaaGreatDoor
