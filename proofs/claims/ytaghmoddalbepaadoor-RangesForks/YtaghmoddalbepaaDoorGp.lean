/-
  What Gaps answers; Collect, Spans, Has, Count.
-/
import Derived.Test.YtaghmoddalbepaaDoorAp
namespace Go.Proofs.YtaghmoddalbepaaDoor
open Go.RowKit Go.Shelf
set_option maxRecDepth 100000

attribute [local go_sem] Oper.semAt_some

set_option maxHeartbeats 1000000 in
theorem mayBe_any (f t : Int) (w : World) : Calls Tryd.prog 32 #[.int .i64 f, .int .i64 t] w fun e w' => e = .returned (.bool (may f t)) ∧ w' = w := by
  have HM : Hid (may f t = (decide (0 ≤ f) && decide (f ≤ t) && decide (t ≤ 1099511627776))) := rfl
  generalize may f t = R at *
  by_cases h1 : 0 ≤ f
  · have d1 : decide (0 ≤ f) = true := by simpa using h1
    by_cases h2 : f ≤ t
    · have d2 : decide (f ≤ t) = true := by simpa using h2
      by_cases h3 : t ≤ 1099511627776
      · have d3 : decide (t ≤ 1099511627776) = true := by simpa using h3
        have HR : Hid (R = true) := by unfold Hid; rw [HM.out, d1, d2, d3]; rfl
        clear HM
        go_enter Tryd.func32, Tryd.ntmps32
        go_wp2
        go_ret
        exact ⟨by rw [HR.out]; rfl, rfl⟩
      · have d3 : decide (t ≤ 1099511627776) = false := by simpa using h3
        have HR : Hid (R = false) := by unfold Hid; rw [HM.out, d3, Bool.and_false]
        clear HM
        go_enter Tryd.func32, Tryd.ntmps32
        go_wp2
        go_ret
        exact ⟨by rw [HR.out]; rfl, rfl⟩
    · have d2 : decide (f ≤ t) = false := by simpa using h2
      have HR : Hid (R = false) := by unfold Hid; rw [HM.out, d2, Bool.and_false, Bool.false_and]
      clear HM
      go_enter Tryd.func32, Tryd.ntmps32
      go_wp2
      go_ret
      exact ⟨by rw [HR.out]; rfl, rfl⟩
  · have d1 : decide (0 ≤ f) = false := by simpa using h1
    have HR : Hid (R = false) := by unfold Hid; rw [HM.out, d1]; rfl
    clear HM
    go_enter Tryd.func32, Tryd.ntmps32
    go_wp2
    go_ret
    exact ⟨by rw [HR.out]; rfl, rfl⟩
/-- What Gaps has behind some spans. -/
def gs1 (s : List Sp × Int) (x : Sp) : List Sp × Int := (s.1 ++ (if s.2 < x.1 then [(s.2, x.1 - 1)] else []), x.2 + 1)
def gst (f : Int) (c : List Sp) : List Sp × Int := c.foldl gs1 ([], f)
theorem gst_gen (t : Int) : ∀ (c : List Sp) (a : List Sp) (f : Int), a ++ gap t f c = (c.foldl gs1 (a, f)).1 ++ (if (c.foldl gs1 (a, f)).2 ≤ t then [((c.foldl gs1 (a, f)).2, t)] else [])
  | [], a, f => rfl
  | x :: c, a, f => by
    rw [List.foldl_cons]
    unfold gap
    rw [← List.append_assoc]
    exact gst_gen t c _ _
theorem gst_gap (t f : Int) (c : List Sp) : gap t f c = (gst f c).1 ++ (if (gst f c).2 ≤ t then [((gst f c).2, t)] else []) := by
  have := gst_gen t c [] f
  rwa [List.nil_append] at this
theorem gst_snoc (f : Int) (c : List Sp) (x : Sp) : gst f (c ++ [x]) = gs1 (gst f c) x := by unfold gst; rw [List.foldl_append]; rfl
theorem gst_len (f : Int) (c : List Sp) : (gst f c).1.length ≤ c.length := by
  unfold gst
  suffices h : ∀ (c : List Sp) (s : List Sp × Int), (c.foldl gs1 s).1.length ≤ s.1.length + c.length by have := h c ([], f); simpa using this
  intro c
  induction c with
  | nil => intro s; simp
  | cons x c ih =>
    intro s
    rw [List.foldl_cons]
    have := ih (gs1 s x)
    have h2 : (gs1 s x).1.length ≤ s.1.length + 1 := by unfold gs1; simp only; rw [List.length_append]; split <;> simp
    rw [List.length_cons]
    omega
theorem BR.set {W : World} {k n₀ j : Nat} {vv u : Value} {l : List Sp} (h : BR W k n₀ vv l) (hj : j ≠ k) (hn : j < n₀) : BR (W.setCell ⟨j, 0, none⟩ u) k n₀ vv l :=
  ⟨by rw [Below.heap_setCell _ _ _ _ (fun e => hj e.symm)]; exact h.1, h.2.keep (fun i cs hi hh => by rw [Below.heap_setCell _ _ _ _ (fun e => by have e' : i = j := e; have := own_ge h.2 i hi; omega)]; exact hh)⟩
set_option maxHeartbeats 4000000 in
theorem gaps_core (w : World) (p : Addr) (f t : Int) (c : List Sp) (hq : Sq w (some p) f t c) (hm : may f t = true) :
    Calls Tryd.prog 20 #[.pointer (some p), .int .i64 f, .int .i64 t] w fun e w' => ∃ v', e = .returned v' ∧ RSp w' w.heap.size v' (gap t f c) ∧ Below w.heap.size w w' := by
  obtain ⟨i0, hi0, hz0, hzs, hzb⟩ := info_parts infoN
  refine (callsIn_wide (n := 9)).1 ?_
  refine callsIn_of_wp_marks Tryd.func20 rfl trivial ?_ rfl
  simp only [Tryd.ntmps20, List.size_toArray, List.length_cons, List.length_nil, Nat.reduceAdd, Nat.reduceSub, Array.replicate_succ, Array.replicate_zero, List.push_toArray, List.append_toArray, List.nil_append, List.cons_append]
  have cm := fun W => callsIn_wide (n := 8).2 (mayBe_any f t W)
  rw [hm] at cm
  gi_wp2_with (first
    | (refine ⟨trivial, ?_⟩; gi_at_call 32; refine (cm _).mono ?_; rintro e w' ⟨rfl, rfl⟩)
    | (refine ⟨trivial, ?_⟩; gi_at_call 39; refine (callsIn_wide.2 (within_any (some p) f t _)).mono ?_; rintro e w' ⟨rfl, rfl⟩))
  obtain ⟨V, hV⟩ : ∃ V, V = (w.alloc (.cells #[.int .i64 f] 3)).alloc (.cells #[.slice none 0 0] 28) := ⟨_, rfl⟩
  obtain ⟨W0, hW0⟩ : ∃ W0, W0 = WW V (.pointer (some p)) f t := ⟨_, rfl⟩
  have bV : Below w.heap.size w V := by rw [hV]; exact ((Below.refl _ w).alloc (Nat.le_refl _) _).alloc (by simp) _
  have zV : V.heap.size = w.heap.size + 2 := by rw [hV]; simp
  have v0 : V.heap[w.heap.size]? = some (.cells #[.int .i64 f] 3 (0, 0)) := by rw [hV]; exact blk_kept (heap_alloc_new w _) (al_below _ _) (by simp)
  have v1 : V.heap[w.heap.size + 1]? = some (.cells #[.slice none 0 0] 28 (0, 0)) := by rw [hV]; have := heap_alloc_new (w.alloc (.cells #[.int .i64 f] 3)) (.cells #[.slice none 0 0] 28); simpa using this
  have bB := WW.below V (.pointer (some p)) f t
  have hsz : W0.heap.size = w.heap.size + 5 := by rw [hW0, WW.size, zV]
  have hc3 := WW.c3 V (some p) f t
  rw [← hW0] at bB hc3
  rw [zV] at hc3
  have hB0 : Below w.heap.size w W0 := bV.trans (bB.mono bV.size)
  have g0 := blk_kept v0 bB (by omega)
  have g1 := blk_kept v1 bB (by omega)
  have hstops := hq.2.2 W0 (w.heap.size + 2) (fun k => k = w.heap.size ∨ k = w.heap.size + 1) hB0 hc3 (fun k hk => by omega) (by omega) (by omega) (by omega)
  have hNl : c.length ≤ 1000 := hq.1
  rw [← hV, ← hW0]
  clear hW0 hV bV bB hc3 hq v0 v1 zV cm
  refine wpIn_rangeFunc_ownH (F := Fence.wide) rfl (by omega) (gf := 60) (lb := #[.pointer (some ⟨w.heap.size + 2, 0, none⟩), .pointer (some ⟨w.heap.size + 3, 0, none⟩), .pointer (some ⟨w.heap.size + 4, 0, none⟩)]) rfl trivial (enters_of Tryd.func60 (by kernel_rfl) rfl)
    hstops (fun h h' => h.trans h') (fun W l o o' _ h hc _ => Kt.put W l o o' h hc) (Below.refl _ _) (fun _ => rfl)
    (fun pre W => (∃ vv, BR W (w.heap.size + 1) W0.heap.size vv (gst f (pre.map (·.1))).1) ∧ W.heap[w.heap.size]? = some (.cells #[.int .i64 (gst f (pre.map (·.1))).2] 3 (0, 0)) ∧ Below w.heap.size w W ∧ W0.heap.size ≤ W.heap.size)
    (fun _ _ _ => False)
    (OwnFrom.and (br_own _ _ _ (fun (pre : List Al) => (gst f (pre.map (·.1))).1)) (OwnFrom.and (blk_own _ _ (fun (pre : List Al) => #[.int .i64 (gst f (pre.map (·.1))).2]) 3) (OwnFrom.and (ownFrom_below (Nat.le_refl _) (by omega)) (fun _ _ _ _ h hg _ => Nat.le_trans h hg.size))))
    (fun _ _ _ _ _ hs _ _ => hs)
    ⟨⟨_, g1, RSp.nil _ _⟩, g0, hB0, Nat.le_refl _⟩
    (fun x a' W => ∃ Bx vv, W.heap[Bx]? = some (.cells #[.int .i64 x.1.1, .int .i64 x.1.2] 58 (0, 0)) ∧ W.heap[w.heap.size + 1]? = some (.cells #[vv] 28 (0, 0)) ∧ vv.ownBlock ≠ some Bx ∧ a' = { tmps := #[.pointer (some p), .int .i64 f, .int .i64 t, undef, .pointer (some ⟨w.heap.size, 0, none⟩), undef, .slice none 0 0, .pointer (some ⟨w.heap.size + 1, 0, none⟩), .pointer (some ⟨Bx, 0, none⟩), .pointer (some p), .bool false, .bool false, .int .i64 f, .int .i64 t, .bool true, .bool false, .bool false, .pointer (some p), .int .i64 f, .int .i64 t, .func (.func 60) #[] #[.pointer (some ⟨w.heap.size + 2, 0, none⟩), .pointer (some ⟨w.heap.size + 3, 0, none⟩), .pointer (some ⟨w.heap.size + 4, 0, none⟩)], .agg #[.int .i64 x.1.1, .int .i64 x.1.2], undef, undef, undef, undef, undef, undef, undef, undef, undef, undef, undef, undef, undef, undef, undef, undef, undef, undef, undef, undef, undef, undef, undef, undef, undef], defers := [] })
    (fun x a' _ X Y row hs hg hr => by
      obtain ⟨Bx, vv, h2, h4, h5, h3⟩ := hs
      exact ⟨Bx, vv, blk_own W0.heap.size Bx (fun (_ : Unit) => #[.int .i64 x.1.1, .int .i64 x.1.2]) 58 () X Y row h2 hg hr, blk_own W0.heap.size (w.heap.size + 1) (fun (_ : Unit) => #[vv]) 28 () X Y row h4 hg hr, h5, h3⟩)
    ?assign ?body ?done ?stop
  case assign =>
    rintro lp pre x W K ⟨⟨vv, h1⟩, h2, h3, h4⟩ hK
    have hne : vv.ownBlock ≠ some W.heap.size := fun e => by
      obtain ⟨q1, q2⟩ := h1.2.1
      rcases q2 with ⟨rfl, _⟩ | ⟨g, cap, cur, rfl, _, hh, _⟩
      · cases e
      · have e' : g = W.heap.size := by simpa [Value.ownBlock] using e
        have := blk_lt hh
        omega
    gi_wp2
    exact hK _ _ ((KeepsOthers.alloc _ _).from _) (Kt.from (al_below _ _)) ⟨⟨vv, h1.alloc _⟩, blk_kept h2 (al_below _ _) (blk_lt h2), h3.alloc h3.size _, Nat.le_trans h4 (al_below _ _).size⟩ ⟨W.heap.size, vv, heap_alloc_new _ _, (h1.alloc _).1, hne, by rfl⟩
  case body =>
    rintro lp pre x a' W _ _ ⟨⟨vv, h1⟩, h2, h3, h4⟩ ⟨Bx, vv2, bX, h5, h6, rfl⟩ hlt
    obtain rfl : vv = vv2 := by
      have := h1.1
      rw [h5] at this
      injection this with this
      injection this with this
      injection this with this
      injection this with this
      exact this.symm
    obtain ⟨va, vc, rfl, -, -, -⟩ := h1.2.is.shape
    have hx := x.2
    unfold Okk at hx
    have HSN : Hid (gst f ((pre ++ [x]).map (·.1)) = gs1 (gst f (pre.map (·.1))) x.1) := by unfold Hid; rw [List.map_append, List.map_singleton, gst_snoc]
    have hgl := gst_len f (pre.map (·.1))
    rw [List.length_map] at hgl
    generalize gst f (pre.map (·.1)) = S at *
    obtain ⟨A, F⟩ := S
    simp only at h1 h2 h5 h6 hgl HSN
    obtain ⟨np, hnp⟩ : ∃ np, np = A.length := ⟨_, rfl⟩
    have hnp5 : np ≤ 1000 := by omega
    rw [← hnp] at h1 h5 h6
    have c0 : W.cell? ⟨w.heap.size, 0, none⟩ = some (.int .i64 F) := by simp [World.cell?, h2]
    have c0' : W.frozen? ⟨w.heap.size, 0, none⟩ = false := by simp [World.frozen?, h2]
    have c1 : W.cell? ⟨w.heap.size + 1, 0, none⟩ = some (.slice va np vc) := by simp [World.cell?, h5]
    have x0 : W.cell? ⟨Bx, 0, none⟩ = some (.int .i64 x.1.1) := by simp [World.cell?, bX]
    have x1 : W.cell? ⟨Bx, 1, none⟩ = some (.int .i64 x.1.2) := by simp [World.cell?, bX]
    have xw1 : IntKind.i64.wrap (x.1.2 + 1) = x.1.2 + 1 := by rw [IntKind.wrap_i64]; omega
    have xw2 : IntKind.i64.wrap (x.1.1 - 1) = x.1.1 - 1 := by rw [IntKind.wrap_i64]; omega
    have HBB : Hid (w.heap.size < W0.heap.size ∧ w.heap.size + 1 < W0.heap.size ∧ W0.heap.size ≤ W.heap.size ∧ w.heap.size ≠ w.heap.size + 1) := ⟨by omega, by omega, h4, by omega⟩
    have HB3 : Hid (Below w.heap.size w W) := h3
    have HFR : Hid (W.heap[w.heap.size]? = some (.cells #[.int .i64 F] 3 (0, 0))) := h2
    have HBR : Hid (BR W (w.heap.size + 1) W0.heap.size (.slice va np vc) A) := h1
    have HBX : Hid (W.heap[Bx]? = some (.cells #[.int .i64 x.1.1, .int .i64 x.1.2] 58 (0, 0)) ∧ (Value.slice va np vc).ownBlock ≠ some Bx) := ⟨bX, h6⟩
    have HNE : Hid (Bx ≠ w.heap.size ∧ Bx ≠ w.heap.size + 1) := ⟨fun e => (by rw [e, h2] at bX; cases bX), fun e => (by rw [e, h5] at bX; cases bX)⟩
    have HOB : Hid ((Value.slice va np vc).ownBlock ≠ some w.heap.size) := fun e => by have := own_ge h1.2 _ e; omega
    have HBK : Hid (w.heap.size ≤ w.heap.size + 1) := by unfold Hid; omega
    clear h1 h2 h3 h4 h5 h6 bX hx hlt hsz
    by_cases hfx : F < x.1.1
    · have d1 : decide (F < x.1.1) = true := by simpa using hfx
      have HS2 : Hid (gst f ((pre ++ [x]).map (·.1)) = (A ++ [(F, x.1.1 - 1)], x.1.2 + 1)) := by unfold Hid; rw [HSN.out]; unfold gs1; simp only; rw [if_pos hfx]
      have HOW : Hid ((W.alloc (.cells #[.int .i64 F, .int .i64 (x.1.1 - 1)] 58)).ownsRow W0.heap.size 58 2 (.slice va np vc) np (A.map spc).flatten) := by unfold Hid; have := (HBR.out.alloc (.cells #[.int .i64 F, .int .i64 (x.1.1 - 1)] 58)).2.own; rwa [← hnp] at this
      have HT2 : Hid (∀ j u, [Value.int .i64 F, .int .i64 (x.1.1 - 1)][j]? = some u → (W.alloc (.cells #[.int .i64 F, .int .i64 (x.1.1 - 1)] 58)).cell? ((⟨W.heap.size, 0, none⟩ : Addr).add j) = some u) := two_cells W _ _
      have HBS : Hid (∀ v' w1, w1.ownsRow W0.heap.size 58 2 v' (np + 1) ((A.map spc).flatten ++ [.int .i64 F, .int .i64 (x.1.1 - 1)]) → (W.alloc (.cells #[.int .i64 F, .int .i64 (x.1.1 - 1)] 58)).grownBy w1 (Value.slice va np vc).ownBlock → BS w W w1 (w.heap.size + 1) W0.heap.size w.heap.size (fun k => k = w.heap.size ∨ k = w.heap.size + 1) (.slice va np vc) v' A (F, x.1.1 - 1)) := fun v' w1 q1 q2 => br_step HBB.out.2.1 (.inr rfl) HBR.out HBB.out.2.2.1 (by rw [← hnp]; exact q1) q2 HB3.out (by omega)
      have HSZ : Hid (W0.heap.size ≤ (W.alloc (.cells #[.int .i64 F, .int .i64 (x.1.1 - 1)] 58)).heap.size) := Nat.le_trans HBB.out.2.2.1 (al_below _ _).size
      have HFN : Hid (∀ v' w1, BS w W w1 (w.heap.size + 1) W0.heap.size w.heap.size (fun k => k = w.heap.size ∨ k = w.heap.size + 1) (.slice va np vc) v' A (F, x.1.1 - 1) → KeepsFrom W0.heap.size W ((w1.setCell ⟨w.heap.size + 1, 0, none⟩ v').setCell ⟨w.heap.size, 0, none⟩ (.int .i64 (x.1.2 + 1))) ∧ Kt W0.heap.size (fun k => k = w.heap.size ∨ k = w.heap.size + 1) W ((w1.setCell ⟨w.heap.size + 1, 0, none⟩ v').setCell ⟨w.heap.size, 0, none⟩ (.int .i64 (x.1.2 + 1))) ∧ (∃ vv, BR ((w1.setCell ⟨w.heap.size + 1, 0, none⟩ v').setCell ⟨w.heap.size, 0, none⟩ (.int .i64 (x.1.2 + 1))) (w.heap.size + 1) W0.heap.size vv (gst f ((pre ++ [x]).map (·.1))).1) ∧ ((w1.setCell ⟨w.heap.size + 1, 0, none⟩ v').setCell ⟨w.heap.size, 0, none⟩ (.int .i64 (x.1.2 + 1))).heap[w.heap.size]? = some (.cells #[.int .i64 (gst f ((pre ++ [x]).map (·.1))).2] 3 (0, 0)) ∧ Below w.heap.size w ((w1.setCell ⟨w.heap.size + 1, 0, none⟩ v').setCell ⟨w.heap.size, 0, none⟩ (.int .i64 (x.1.2 + 1))) ∧ W0.heap.size ≤ ((w1.setCell ⟨w.heap.size + 1, 0, none⟩ v').setCell ⟨w.heap.size, 0, none⟩ (.int .i64 (x.1.2 + 1))).heap.size) := fun v' w1 q => by
        rw [HS2.out]
        have k2 := q.oth.trans (KeepsOthers.setCell (w1.setCell ⟨w.heap.size + 1, 0, none⟩ v') ⟨w.heap.size, 0, none⟩ (.int .i64 (x.1.2 + 1)))
        exact ⟨k2.from _, q.kt.trans (Kt.setC _ _ (.inl rfl)), ⟨v', q.br.set HBB.out.2.2.2 HBB.out.1⟩, set_one (q.loo _ _ _ HOB.out HBB.out.2.2.2 HFR.out), q.bel.setCell (p := ⟨w.heap.size, 0, none⟩) (Nat.le_refl _) _, Nat.le_trans HBB.out.2.2.1 k2.size⟩
      have HLD : Hid (∀ v' w1, BS w W w1 (w.heap.size + 1) W0.heap.size w.heap.size (fun k => k = w.heap.size ∨ k = w.heap.size + 1) (.slice va np vc) v' A (F, x.1.1 - 1) → (w1.setCell ⟨w.heap.size + 1, 0, none⟩ v').cell? ⟨Bx, 1, none⟩ = some (.int .i64 x.1.2) ∧ (w1.setCell ⟨w.heap.size + 1, 0, none⟩ v').cell? ⟨w.heap.size, 0, none⟩ = some (.int .i64 F) ∧ (w1.setCell ⟨w.heap.size + 1, 0, none⟩ v').frozen? ⟨w.heap.size, 0, none⟩ = false) := fun v' w1 q => by
        have y1 := q.loo Bx _ _ HBX.out.2 HNE.out.2 HBX.out.1
        have y2 := q.loo _ _ _ HOB.out HBB.out.2.2.2 HFR.out
        exact ⟨by simp only [World.cell?, y1]; rfl, by simp only [World.cell?, y2]; rfl, by simp only [World.frozen?, y2]; rfl⟩
      clear HFR HBR HBX HNE HOB HS2 HSN hfx hnp hgl
      generalize (A.map spc).flatten = XS at *
      gi_wp2_with (gi_at_builtin; refine wpListIn_append_own _ rfl _ _ 28 rfl W0.heap.size 58 i0 (.agg #[.int .i64 0, .int .i64 0]) 2 16 Tryd.underlying28 hi0 hz0 hzs hzb rfl (by decide) _ np XS rfl HOW.out ⟨W.heap.size, 0, none⟩ 1 1 [.int .i64 F, .int .i64 (x.1.1 - 1)] rfl rfl HT2.out (by simp [Value.oneCell']) (by unfold maxLen; omega) (by omega) HSZ.out ?_; intro v' w1 ho hg _; have HB1 := HBS.out v' w1 ho hg; obtain ⟨g', cap', rfl⟩ := ownsRow_succ ho; have z0 := HB1.box.1; have z1 := HB1.box.2; obtain ⟨z2, z3, z4⟩ := HLD.out _ w1 HB1)
      exact HFN.out _ w1 HB1
    · have d1 : decide (F < x.1.1) = false := by simpa using hfx
      have HFN : Hid (KeepsFrom W0.heap.size W (W.setCell ⟨w.heap.size, 0, none⟩ (.int .i64 (x.1.2 + 1))) ∧ Kt W0.heap.size (fun k => k = w.heap.size ∨ k = w.heap.size + 1) W (W.setCell ⟨w.heap.size, 0, none⟩ (.int .i64 (x.1.2 + 1))) ∧ (∃ vv, BR (W.setCell ⟨w.heap.size, 0, none⟩ (.int .i64 (x.1.2 + 1))) (w.heap.size + 1) W0.heap.size vv (gst f ((pre ++ [x]).map (·.1))).1) ∧ (W.setCell ⟨w.heap.size, 0, none⟩ (.int .i64 (x.1.2 + 1))).heap[w.heap.size]? = some (.cells #[.int .i64 (gst f ((pre ++ [x]).map (·.1))).2] 3 (0, 0)) ∧ Below w.heap.size w (W.setCell ⟨w.heap.size, 0, none⟩ (.int .i64 (x.1.2 + 1))) ∧ W0.heap.size ≤ (W.setCell ⟨w.heap.size, 0, none⟩ (.int .i64 (x.1.2 + 1))).heap.size) := by
        have e : gst f ((pre ++ [x]).map (·.1)) = (A, x.1.2 + 1) := by rw [HSN.out]; unfold gs1; simp only; rw [if_neg hfx, List.append_nil]
        unfold Hid
        rw [e]
        have k2 := KeepsOthers.setCell W ⟨w.heap.size, 0, none⟩ (.int .i64 (x.1.2 + 1))
        exact ⟨k2.from _, Kt.setC _ _ (.inl rfl), ⟨_, HBR.out.set HBB.out.2.2.2 HBB.out.1⟩, set_one HFR.out, HB3.out.setCell (p := ⟨w.heap.size, 0, none⟩) (Nat.le_refl _) _, Nat.le_trans HBB.out.2.2.1 k2.size⟩
      clear HFR HBR HBX HNE HOB HSN hfx hnp hgl
      gi_wp2
      exact HFN.out
  case done =>
    rintro D xs W hD hS ⟨⟨vv, h1⟩, h2, h3, h4⟩ hK
    rw [hS] at h1 h2
    obtain ⟨va, vc, rfl, -, -, -⟩ := h1.2.is.shape
    have hgl := gst_len f c
    have HGP : Hid (gap t f c = (gst f c).1 ++ (if (gst f c).2 ≤ t then [((gst f c).2, t)] else [])) := gst_gap t f c
    generalize gst f c = S at *
    obtain ⟨A, F⟩ := S
    simp only at h1 h2 hgl HGP
    obtain ⟨np, hnp⟩ : ∃ np, np = A.length := ⟨_, rfl⟩
    have hnp5 : np ≤ 1000 := by omega
    rw [← hnp] at h1
    have c0 : W.cell? ⟨w.heap.size, 0, none⟩ = some (.int .i64 F) := by simp [World.cell?, h2]
    have c1 : W.cell? ⟨w.heap.size + 1, 0, none⟩ = some (.slice va np vc) := by have := h1.1; simp [World.cell?, this]
    have HDF : Hid (W.heap[D]? = some (.deferred (some []))) := hK
    have HBB : Hid (w.heap.size < W0.heap.size ∧ w.heap.size + 1 < W0.heap.size ∧ W0.heap.size ≤ W.heap.size ∧ w.heap.size ≤ D ∧ w.heap.size ≤ W0.heap.size) := ⟨by omega, by omega, h4, by omega, by omega⟩
    have HB3 : Hid (Below w.heap.size w W) := h3
    have HBR : Hid (BR W (w.heap.size + 1) W0.heap.size (.slice va np vc) A) := h1
    clear h1 h2 h3 h4 hK hsz hD
    by_cases hft : F ≤ t
    · have d1 : decide (F ≤ t) = true := by simpa using hft
      have HG2 : Hid (gap t f c = A ++ [(F, t)]) := by unfold Hid; rw [HGP.out, if_pos hft]
      have HOW : Hid ((W.alloc (.cells #[.int .i64 F, .int .i64 t] 58)).ownsRow W0.heap.size 58 2 (.slice va np vc) np (A.map spc).flatten) := by unfold Hid; have := (HBR.out.alloc (.cells #[.int .i64 F, .int .i64 t] 58)).2.own; rwa [← hnp] at this
      have HT2 : Hid (∀ j u, [Value.int .i64 F, .int .i64 t][j]? = some u → (W.alloc (.cells #[.int .i64 F, .int .i64 t] 58)).cell? ((⟨W.heap.size, 0, none⟩ : Addr).add j) = some u) := two_cells W _ _
      have HBS : Hid (∀ v' w1, w1.ownsRow W0.heap.size 58 2 v' (np + 1) ((A.map spc).flatten ++ [.int .i64 F, .int .i64 t]) → (W.alloc (.cells #[.int .i64 F, .int .i64 t] 58)).grownBy w1 (Value.slice va np vc).ownBlock → BS w W w1 (w.heap.size + 1) W0.heap.size w.heap.size (fun k => k = w.heap.size ∨ k = w.heap.size + 1) (.slice va np vc) v' A (F, t)) := fun v' w1 q1 q2 => br_step HBB.out.2.1 (.inr rfl) HBR.out HBB.out.2.2.1 (by rw [← hnp]; exact q1) q2 HB3.out (by omega)
      have HSZ : Hid (W0.heap.size ≤ (W.alloc (.cells #[.int .i64 F, .int .i64 t] 58)).heap.size) := Nat.le_trans HBB.out.2.2.1 (al_below _ _).size
      clear HBR HGP hft hnp hgl
      generalize (A.map spc).flatten = XS at *
      gi_wp2_with (gi_at_builtin; refine wpListIn_append_own _ rfl _ _ 28 rfl W0.heap.size 58 i0 (.agg #[.int .i64 0, .int .i64 0]) 2 16 Tryd.underlying28 hi0 hz0 hzs hzb rfl (by decide) _ np XS rfl HOW.out ⟨W.heap.size, 0, none⟩ 1 1 [.int .i64 F, .int .i64 t] rfl rfl HT2.out (by simp [Value.oneCell']) (by unfold maxLen; omega) (by omega) HSZ.out ?_; intro v' w1 ho hg _; have HB1 := HBS.out v' w1 ho hg; obtain ⟨g', cap', rfl⟩ := ownsRow_succ ho; have z0 := HB1.box.1; have z1 := HB1.box.2; (have z2 : (w1.setCell ⟨w.heap.size + 1, 0, none⟩ (.slice (some ⟨g', 0, none⟩) (np + 1) cap')).cell? ⟨w.heap.size + 1, 0, none⟩ = some (.slice (some ⟨g', 0, none⟩) (np + 1) cap') := (by have q := HB1.br.1; simp only [World.cell?, q]; rfl)))
      have hK2 := HB1.oth.same D _ HDF.out rfl
      refine ⟨by simp, .inl ⟨_, _, rfl, run_takeDeferred hK2, ?_⟩⟩
      refine ⟨_, results_tmp rfl _ _ _, _, rfl, ?_, HB1.bel.trans (belowK_b (w := w) (Nat.le_refl _) _ D _ _ HBB.out.2.2.2.1 hK2 rfl rfl)⟩
      rw [HG2.out]
      exact RSp.mono ⟨ownsRow_putObj HB1.br.2.1 _ hK2 rfl, HB1.br.2.2⟩ HBB.out.2.2.2.2
    · have d1 : decide (F ≤ t) = false := by simpa using hft
      have HG2 : Hid (gap t f c = A) := by unfold Hid; rw [HGP.out, if_neg hft, List.append_nil]
      clear HGP hft hnp hgl
      gi_wp2
      have hK2 := HDF.out
      refine ⟨by simp, .inl ⟨_, _, rfl, run_takeDeferred hK2, ?_⟩⟩
      refine ⟨_, results_tmp rfl _ _ _, _, rfl, ?_, HB3.out.trans (belowK_b (w := w) (Nat.le_refl _) _ D _ _ HBB.out.2.2.2.1 hK2 rfl rfl)⟩
      rw [HG2.out]
      exact RSp.mono ⟨ownsRow_putObj HBR.out.2.1 _ hK2 rfl, HBR.out.2.2⟩ HBB.out.2.2.2.2
  case stop =>
    rintro D c pre W _ _ h _
    exact h.elim
end Go.Proofs.YtaghmoddalbepaaDoor
