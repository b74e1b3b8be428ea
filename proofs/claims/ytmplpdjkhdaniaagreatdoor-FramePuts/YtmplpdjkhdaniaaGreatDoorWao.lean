/-
  What slices.Collect answers; a set's spans.
  What Gaps answers; Collect, Spans, Has, Count.
  What a set tells.
  What Add answers.
-/
import Derived.Test.YtmplpdjkhdaniaaGreatDoorWan
namespace Go.Proofs.YtmplpdjkhdaniaaGreatDoor
open Go.RowKit Go.Shelf
set_option maxRecDepth 100000

attribute [local go_sem] Oper.semAt_some

/-- A variable that holds spans in a row of the call's own. -/
def BR (W : World) (k n₀ : Nat) (vv : Value) (l : List Sp) : Prop := W.heap[k]? = some (.cells #[vv] 23 (0, 0)) ∧ RSp W n₀ vv l
theorem rs_keep {W W' : World} {base : Nat} {e : TypeId} {s : Nat} {v : Value} {n : Nat} {xs : List Value} (h : W.ownsRow base e s v n xs) (hk : ∀ (k : Nat) (cs : Array Value), v.ownBlock = some k → W.heap[k]? = some (.cells cs e (0, 0)) → W'.heap[k]? = some (.cells cs e (0, 0))) : W'.ownsRow base e s v n xs := by
  obtain ⟨h1, h2⟩ := h
  refine ⟨h1, ?_⟩
  rcases h2 with h2 | ⟨g, cap, cur, rfl, hb, hh, q⟩
  · exact .inl h2
  · exact .inr ⟨g, cap, cur, rfl, hb, hk g cur rfl hh, q⟩
theorem RSp.keep {W W' : World} {base : Nat} {v : Value} {l : List Sp} (h : RSp W base v l) (hk : ∀ (k : Nat) (cs : Array Value), v.ownBlock = some k → W.heap[k]? = some (.cells cs 89 (0, 0)) → W'.heap[k]? = some (.cells cs 89 (0, 0))) : RSp W' base v l := ⟨rs_keep h.1 hk, h.2⟩
theorem br_own {β : Type} (B k n₀ : Nat) (F : β → List Sp) : OwnFrom B (fun (s : β) (W : World) => ∃ vv, BR W k n₀ vv (F s)) := fun s W W' row hs hg hr => by
  obtain ⟨vv, h1, h2⟩ := hs
  have key : ∀ (k : Nat) (cs : Array Value) (t : TypeId), W.heap[k]? = some (.cells cs t (0, 0)) → W'.heap[k]? = some (.cells cs t (0, 0)) := fun k cs t h => (hg.block k (blk_lt h) (fun e => by
    obtain ⟨_, o, ho, hc⟩ := hr k e.symm
    rw [h] at ho
    cases ho
    cases hc)).trans h
  exact ⟨vv, key _ _ _ h1, h2.keep (fun k cs _ h => key k cs _ h)⟩
theorem BR.alloc {W : World} {k n₀ : Nat} {vv : Value} {l : List Sp} (h : BR W k n₀ vv l) (o : Obj) : BR (W.alloc o) k n₀ vv l := ⟨blk_kept h.1 (al_below _ _) (blk_lt h.1), h.2.below (al_below _ _)⟩
theorem own_ge {W : World} {base : Nat} {v : Value} {l : List Sp} (h : RSp W base v l) : ∀ k, v.ownBlock = some k → base ≤ k := own_base h.1
/-- A span laid behind, and the variable told. -/
structure BS (w W w1 : World) (k n₀ b : Nat) (X : Nat → Prop) (vv v' : Value) (l : List Sp) (x : Sp) : Prop where
  box : w1.cell? ⟨k, 0, none⟩ = some vv ∧ w1.frozen? ⟨k, 0, none⟩ = false
  oth : KeepsOthers W (w1.setCell ⟨k, 0, none⟩ v')
  kt : Kt n₀ X W (w1.setCell ⟨k, 0, none⟩ v')
  br : BR (w1.setCell ⟨k, 0, none⟩ v') k n₀ v' (l ++ [x])
  bel : Below b w (w1.setCell ⟨k, 0, none⟩ v')
  kep : ∀ (j : Nat) (cs : Array Value) (t : TypeId), j ≠ k → j < n₀ → W.heap[j]? = some (.cells cs t (0, 0)) → (w1.setCell ⟨k, 0, none⟩ v').heap[j]? = some (.cells cs t (0, 0))
  loo : ∀ (j : Nat) (cs : Array Value) (t : TypeId), vv.ownBlock ≠ some j → j ≠ k → W.heap[j]? = some (.cells cs t (0, 0)) → (w1.setCell ⟨k, 0, none⟩ v').heap[j]? = some (.cells cs t (0, 0))
theorem br_step {w W w1 : World} {k n₀ b : Nat} {X : Nat → Prop} {vv v' : Value} {l : List Sp} {x : Sp} (hk : k < n₀) (hX : X k) (h : BR W k n₀ vv l) (hn : n₀ ≤ W.heap.size) (ho : w1.ownsRow n₀ 89 2 v' (l.length + 1) ((l.map spc).flatten ++ spc x)) (hg : (W.alloc (.cells #[.int .i64 x.1, .int .i64 x.2] 89)).grownBy w1 vv.ownBlock) (hB : Below b w W) (hbk : b ≤ k) : BS w W w1 k n₀ b X vv v' l x := by
  have hge := own_ge h.2
  have hal := al_below W (.cells #[.int .i64 x.1, .int .i64 x.2] 89)
  have low : ∀ j, j < n₀ → w1.heap[j]? = W.heap[j]? := fun j hj => (hg.block j (by have := hal.size; omega) (fun e => by have := hge j e.symm; omega)).trans (hal.block j (by omega))
  have hb1 : w1.heap[k]? = some (.cells #[vv] 23 (0, 0)) := (low k hk).trans h.1
  have hke : KeepsOthers W w1 := ⟨Nat.le_trans hal.size hg.size, fun j o hj hc => by
    have hlt := blk_lt hj
    refine (hg.block j (by have := hal.size; omega) (fun e => ?_)).trans ((hal.block j hlt).trans hj)
    obtain ⟨q1, q2⟩ := h.2.1
    rcases q2 with ⟨rfl, _⟩ | ⟨g, cap, cur, rfl, _, hh, _⟩
    · cases e
    · cases e
      rw [hh] at hj
      cases hj
      cases hc⟩
  have hr1 : RSp w1 n₀ v' (l ++ [x]) := RSp.of (by rw [List.length_append, List.map_append, List.flatten_append]; simpa using ho)
  have hge' := own_ge hr1
  refine ⟨⟨by simp [World.cell?, hb1], by simp [World.frozen?, hb1]⟩, hke.trans (KeepsOthers.setCell _ _ _), ?_, ⟨set_one hb1, hr1.keep (fun j cs hj hh => ?_)⟩, ?_, fun j cs t hj hn hh => ?_, fun j cs t ht hj hh => ?_⟩
  · exact fun j o hj hx hh hc => (Kt.setC k v' hX) j o hj hx ((low j hj).trans hh) hc
  · rw [Below.heap_setCell _ _ _ _ (fun e => by have e' : j = k := e; have := hge' j hj; omega)]
    exact hh
  · exact ((hB.trans (hal.mono (show b ≤ W.heap.size by omega))).grown hg (by have := hal.size; omega) (fun j e => by have := hge j e; omega)).setCell (p := ⟨k, 0, none⟩) hbk _
  · rw [Below.heap_setCell _ _ _ _ hj, low j hn]
    exact hh
  · rw [Below.heap_setCell _ _ _ _ hj]
    exact (hg.block j (by have := hal.size; have := blk_lt hh; omega) (fun e => ht e.symm)).trans ((hal.block j (blk_lt hh)).trans hh)
theorem two_cells (W : World) (a b : Value) : ∀ j u, [a, b][j]? = some u → (W.alloc (.cells #[a, b] 89)).cell? ((⟨W.heap.size, 0, none⟩ : Addr).add j) = some u := fun j u hj => by
  rw [Addr.add_lit, Nat.zero_add, World.cell?_alloc_at _ _ _ _ rfl]
  simpa using hj
set_option maxHeartbeats 4000000 in
theorem appendSeq_any (w : World) (b : Nat) (p : Option Addr) (f t : Int) (c : List Sp) (hc : C3p w b p f t) (hq : Sq w p f t c) :
    Calls Tryz.prog 83 #[.slice none 0 0, .func (.func 84) #[] #[.pointer (some ⟨b, 0, none⟩), .pointer (some ⟨b + 1, 0, none⟩), .pointer (some ⟨b + 2, 0, none⟩)]] w fun e w' => ∃ v', e = .returned v' ∧ RSp w' w.heap.size v' c ∧ Below w.heap.size w w' := by
  obtain ⟨i0, hi0, hz0, hzs, hzb⟩ := info_parts infoN
  refine (callsIn_wide (n := 9)).1 ?_
  refine callsIn_of_wp_marks Tryz.func83 rfl trivial ?_ rfl
  simp only [Tryz.ntmps83, List.size_toArray, List.length_cons, List.length_nil, Nat.reduceAdd, Nat.reduceSub, Array.replicate_succ, Array.replicate_zero, List.push_toArray, List.append_toArray, List.nil_append, List.cons_append]
  gi_wp2
  obtain ⟨W0, hW0⟩ : ∃ W0, W0 = w.alloc (.cells #[.slice none 0 0] 23) := ⟨_, rfl⟩
  have hB0 : Below w.heap.size w W0 := by rw [hW0]; exact al_below _ _
  have hsz : W0.heap.size = w.heap.size + 1 := by rw [hW0]; simp
  have g0 : W0.heap[w.heap.size]? = some (.cells #[.slice none 0 0] 23 (0, 0)) := by rw [hW0]; exact heap_alloc_new _ _
  have c1 := blk_lt hc.1
  have c2 := blk_lt hc.2.1
  have c3 := blk_lt hc.2.2
  have hstops := hq.2.2 W0 b (fun k => k = w.heap.size) hB0 (hc.kept hB0) (fun k hk => by omega) (by omega) (by omega) (by omega)
  have hNl : c.length ≤ 1000 := hq.1
  rw [← hW0]
  clear hW0 hq hc
  refine wpIn_rangeFunc_ownH (F := Fence.wide) rfl (by omega) (gf := 84) (lb := #[.pointer (some ⟨b, 0, none⟩), .pointer (some ⟨b + 1, 0, none⟩), .pointer (some ⟨b + 2, 0, none⟩)]) rfl trivial (enters_of Tryz.func84 (by kernel_rfl) rfl)
    hstops (fun h h' => h.trans h') (fun W l o o' _ h hc _ => Kt.put W l o o' h hc) (Below.refl _ _) (fun _ => rfl)
    (fun pre W => (∃ vv, BR W w.heap.size W0.heap.size vv (pre.map (·.1))) ∧ Below w.heap.size w W ∧ W0.heap.size ≤ W.heap.size)
    (fun _ _ _ => False)
    (OwnFrom.and (br_own _ _ _ (fun (pre : List Al) => pre.map (·.1))) (OwnFrom.and (ownFrom_below (Nat.le_refl _) (by omega)) (fun _ _ _ _ h hg _ => Nat.le_trans h hg.size)))
    (fun _ _ _ _ _ hs _ _ => hs)
    ⟨⟨_, g0, RSp.nil _ _⟩, hB0, Nat.le_refl _⟩
    (fun x a' W => ∃ Bx, W.heap[Bx]? = some (.cells #[.int .i64 x.1.1, .int .i64 x.1.2] 89 (0, 0)) ∧ a' = { tmps := #[.slice none 0 0, .func (.func 84) #[] #[.pointer (some ⟨b, 0, none⟩), .pointer (some ⟨b + 1, 0, none⟩), .pointer (some ⟨b + 2, 0, none⟩)], .pointer (some ⟨w.heap.size, 0, none⟩), undef, .slice none 0 0, .pointer (some ⟨Bx, 0, none⟩), .func (.func 84) #[] #[.pointer (some ⟨b, 0, none⟩), .pointer (some ⟨b + 1, 0, none⟩), .pointer (some ⟨b + 2, 0, none⟩)], .agg #[.int .i64 x.1.1, .int .i64 x.1.2], undef, undef, undef, undef, undef], defers := [] })
    (fun x a' _ X Y row hs hg hr => by
      obtain ⟨Bx, h2, h3⟩ := hs
      exact ⟨Bx, blk_own W0.heap.size Bx (fun (_ : Unit) => #[.int .i64 x.1.1, .int .i64 x.1.2]) 89 () X Y row h2 hg hr, h3⟩)
    ?assign ?body ?done ?stop
  case assign =>
    rintro lp pre x W K ⟨⟨vv, h1⟩, h2, h3⟩ hK
    gi_wp2
    exact hK _ _ ((KeepsOthers.alloc _ _).from _) (Kt.from (al_below _ _)) ⟨⟨vv, h1.alloc _⟩, h2.alloc h2.size _, Nat.le_trans h3 (al_below _ _).size⟩ ⟨W.heap.size, heap_alloc_new _ _, by rfl⟩
  case body =>
    rintro lp pre x a' W _ _ ⟨⟨vv, h1⟩, h2, h3⟩ ⟨Bx, bX, rfl⟩ hlt
    have hvs := h1.2.is.shape
    obtain ⟨va, vc, rfl, -, -, -⟩ := hvs
    have c0 : W.cell? ⟨w.heap.size, 0, none⟩ = some (.slice va (pre.map (·.1)).length vc) := by have := h1.1; simp [World.cell?, this]
    have x0 : W.cell? ⟨Bx, 0, none⟩ = some (.int .i64 x.1.1) := by simp [World.cell?, bX]
    have x1 : W.cell? ⟨Bx, 1, none⟩ = some (.int .i64 x.1.2) := by simp [World.cell?, bX]
    obtain ⟨np, hnp⟩ : ∃ np, np = (pre.map (·.1)).length := ⟨_, rfl⟩
    have hnp5 : np ≤ 1000 := by rw [hnp, List.length_map]; omega
    rw [← hnp] at c0
    have HBR : Hid (BR W w.heap.size W0.heap.size (.slice va np vc) (pre.map (·.1))) := by unfold Hid; rw [hnp]; exact h1
    have HOW : Hid ((W.alloc (.cells #[.int .i64 x.1.1, .int .i64 x.1.2] 89)).ownsRow W0.heap.size 89 2 (.slice va np vc) np ((pre.map (·.1)).map spc).flatten) := by unfold Hid; have := (HBR.out.alloc (.cells #[.int .i64 x.1.1, .int .i64 x.1.2] 89)).2.own; rwa [← hnp] at this
    have HT2 : Hid (∀ j u, [Value.int .i64 x.1.1, .int .i64 x.1.2][j]? = some u → (W.alloc (.cells #[.int .i64 x.1.1, .int .i64 x.1.2] 89)).cell? ((⟨W.heap.size, 0, none⟩ : Addr).add j) = some u) := two_cells W _ _
    have HBS : Hid (∀ v' w1, w1.ownsRow W0.heap.size 89 2 v' (np + 1) (((pre.map (·.1)).map spc).flatten ++ [.int .i64 x.1.1, .int .i64 x.1.2]) → (W.alloc (.cells #[.int .i64 x.1.1, .int .i64 x.1.2] 89)).grownBy w1 (Value.slice va np vc).ownBlock → BS w W w1 w.heap.size W0.heap.size w.heap.size (fun k => k = w.heap.size) (.slice va np vc) v' (pre.map (·.1)) x.1) := fun v' w1 q1 q2 => br_step (by omega) rfl HBR.out h3 (by rw [← hnp]; exact q1) q2 h2 (Nat.le_refl _)
    have HSZ : Hid (W0.heap.size ≤ (W.alloc (.cells #[.int .i64 x.1.1, .int .i64 x.1.2] 89)).heap.size ∧ W0.heap.size ≤ W.heap.size) := ⟨Nat.le_trans h3 (al_below _ _).size, h3⟩
    clear h1 h2 h3 bX hnp
    generalize ((pre.map (·.1)).map spc).flatten = XS at *
    gi_wp2_with (gi_at_builtin; refine wpListIn_append_own _ rfl _ _ 23 rfl W0.heap.size 89 i0 (.agg #[.int .i64 0, .int .i64 0]) 2 16 Tryz.underlying23 hi0 hz0 hzs hzb rfl (by decide) _ np XS rfl HOW.out ⟨W.heap.size, 0, none⟩ 1 1 [.int .i64 x.1.1, .int .i64 x.1.2] rfl rfl HT2.out (by simp [Value.oneCell']) (by unfold maxLen; omega) (by omega) HSZ.out.1 ?_; intro v' w1 ho hg _; have HB1 := HBS.out v' w1 ho hg; obtain ⟨g', cap', rfl⟩ := ownsRow_succ ho; have z0 := HB1.box.1; have z1 := HB1.box.2)
    refine ⟨HB1.oth.from _, HB1.kt, ⟨⟨_, by rw [List.map_append]; exact HB1.br⟩, HB1.bel, Nat.le_trans HSZ.out.2 HB1.oth.size⟩⟩
  case done =>
    rintro D xs W hD hS ⟨⟨vv, h1⟩, h2, h3⟩ hK
    have c0 : W.cell? ⟨w.heap.size, 0, none⟩ = some vv := by have := h1.1; simp [World.cell?, this]
    gi_wp2
    refine ⟨by simp, .inl ⟨_, _, rfl, run_takeDeferred hK, ?_⟩⟩
    refine ⟨_, results_tmp rfl _ _ _, vv, rfl, ?_, h2.trans (belowK_b (w := w) (Nat.le_refl _) W D _ _ (by omega) hK rfl rfl)⟩
    rw [← hS]
    exact RSp.mono ⟨ownsRow_putObj h1.2.1 _ hK rfl, h1.2.2⟩ (by omega)
  case stop =>
    rintro D c pre W _ _ h _
    exact h.elim
end Go.Proofs.YtmplpdjkhdaniaaGreatDoor
namespace Go.Proofs.YtmplpdjkhdaniaaGreatDoor
open Go.RowKit Go.Shelf
set_option maxRecDepth 100000

attribute [local go_sem] Oper.semAt_some

set_option maxHeartbeats 1000000 in
theorem mayBe_any (f t : Int) (w : World) : Calls Tryz.prog 77 #[.int .i64 f, .int .i64 t] w fun e w' => e = .returned (.bool (may f t)) ∧ w' = w := by
  have HM : Hid (may f t = (decide (0 ≤ f) && decide (f ≤ t) && decide (t ≤ 1099511627776))) := rfl
  generalize may f t = R at *
  by_cases h1 : 0 ≤ f
  · have d1 : decide (0 ≤ f) = true := by simpa using h1
    by_cases h2 : f ≤ t
    · have d2 : decide (f ≤ t) = true := by simpa using h2
      by_cases h3 : t ≤ 1099511627776
      · have d3 : decide (t ≤ 1099511627776) = true := by simpa using h3
        have HR : Hid (R = true) := by unfold Hid; rw [HM.out, d1, d2, d3]; rfl
        clear HM
        go_enter Tryz.func77, Tryz.ntmps77
        go_wp2
        go_ret
        exact ⟨by rw [HR.out]; rfl, rfl⟩
      · have d3 : decide (t ≤ 1099511627776) = false := by simpa using h3
        have HR : Hid (R = false) := by unfold Hid; rw [HM.out, d3, Bool.and_false]
        clear HM
        go_enter Tryz.func77, Tryz.ntmps77
        go_wp2
        go_ret
        exact ⟨by rw [HR.out]; rfl, rfl⟩
    · have d2 : decide (f ≤ t) = false := by simpa using h2
      have HR : Hid (R = false) := by unfold Hid; rw [HM.out, d2, Bool.and_false, Bool.false_and]
      clear HM
      go_enter Tryz.func77, Tryz.ntmps77
      go_wp2
      go_ret
      exact ⟨by rw [HR.out]; rfl, rfl⟩
  · have d1 : decide (0 ≤ f) = false := by simpa using h1
    have HR : Hid (R = false) := by unfold Hid; rw [HM.out, d1]; rfl
    clear HM
    go_enter Tryz.func77, Tryz.ntmps77
    go_wp2
    go_ret
    exact ⟨by rw [HR.out]; rfl, rfl⟩
theorem BR.set {W : World} {k n₀ j : Nat} {vv u : Value} {l : List Sp} (h : BR W k n₀ vv l) (hj : j ≠ k) (hn : j < n₀) : BR (W.setCell ⟨j, 0, none⟩ u) k n₀ vv l :=
  ⟨by rw [Below.heap_setCell _ _ _ _ (fun e => hj e.symm)]; exact h.1, h.2.keep (fun i cs hi hh => by rw [Below.heap_setCell _ _ _ _ (fun e => by have e' : i = j := e; have := own_ge h.2 i hi; omega)]; exact hh)⟩
end Go.Proofs.YtmplpdjkhdaniaaGreatDoor
namespace Go.Proofs.YtmplpdjkhdaniaaGreatDoor
open Go.RowKit Go.Shelf
set_option maxRecDepth 100000

/-- A set: its variable, its spans in a row of the call's own. -/
structure ST (w : World) (B g : Nat) (v : Value) (l : List Sp) : Prop where
  sb : SB w g v
  rs : RSp w B v l
  cn : Canon l
  ln : l.length ≤ 1000
theorem ST.below {w w' : World} {B g : Nat} {v : Value} {l : List Sp} (h : ST w B g v l) (hb : Below w.heap.size w w') : ST w' B g v l := ⟨h.sb.kept hb, h.rs.below hb, h.cn, h.ln⟩
theorem rsp_va {w : World} {B : Nat} {v : Value} {l : List Sp} (h : RSp w B v l) : v = .slice none 0 0 ∨ ∃ bb off m c, v = .slice (some ⟨bb, off, none⟩) m c := by
  rcases h.1.2 with ⟨e, _⟩ | ⟨g, cap, cur, rfl, _⟩
  · exact .inl e
  · exact .inr ⟨g, 0, _, cap, rfl⟩
theorem rsp_vr {w : World} {B : Nat} {v : Value} {l : List Sp} (h : RSp w B v l) : ∀ k, rowB v = some k → k < w.heap.size := fun k hk => by
  rcases h.1.2 with ⟨rfl, _⟩ | ⟨g, cap, cur, rfl, _, hh, _⟩
  · cases hk
  · have e : g = k := by simpa [rowB] using hk
    rw [← e]
    exact blk_lt hh
theorem ST.sq {w : World} {B g : Nat} {v : Value} {l : List Sp} (h : ST w B g v l) {f t : Int} (hft : f ≤ t) : Sq w (some ⟨g, 0, none⟩) f t (clip l f t) := sq_some h.sb h.rs.is h.cn h.ln hft (rsp_va h.rs) (rsp_vr h.rs)
theorem ST.sqA {w : World} {B g : Nat} {v : Value} {l : List Sp} (h : ST w B g v l) : Sq w (some ⟨g, 0, none⟩) 0 1099511627776 l := by
  have := h.sq (f := 0) (t := 1099511627776) (by omega)
  rwa [clip_all h.cn] at this
set_option maxHeartbeats 1000000 in
theorem collect_any (w : World) (b : Nat) (p : Option Addr) (f t : Int) (c : List Sp) (hc : C3p w b p f t) (hq : Sq w p f t c) :
    Calls Tryz.prog 64 #[.func (.func 84) #[] #[.pointer (some ⟨b, 0, none⟩), .pointer (some ⟨b + 1, 0, none⟩), .pointer (some ⟨b + 2, 0, none⟩)]] w fun e w' => ∃ v', e = .returned v' ∧ RSp w' w.heap.size v' c ∧ Below w.heap.size w w' := by
  have ca := appendSeq_any w b p f t c hc hq
  clear hc hq
  go_enter Tryz.func64, Tryz.ntmps64
  go_wp2_with fail
  refine ca.mono ?_
  rintro e w1 ⟨v1, rfl, r1, b1⟩
  obtain ⟨a1, c1, rfl, -, -, -⟩ := r1.is.shape
  have R1 : Hid (RSp w1 w.heap.size (.slice a1 c.length c1) c ∧ Below w.heap.size w w1) := ⟨r1, b1⟩
  clear ca r1 b1
  generalize c.length = n9 at *
  go_wp2
  go_ret
  exact ⟨_, rfl, R1.out.1, R1.out.2⟩
set_option maxHeartbeats 1000000 in
theorem spans_any (w : World) (p : Option Addr) (c : List Sp) (hq : Sq w p 0 1099511627776 c) :
    Calls Tryz.prog 42 #[.pointer p] w fun e w' => ∃ v', e = .returned v' ∧ RSp w' w.heap.size v' c ∧ Below w.heap.size w w' := by
  have cw := within_any p 0 1099511627776 w
  have cc := collect_any (WW w (.pointer p) 0 1099511627776) w.heap.size p 0 1099511627776 c (WW.c3 w p _ _) (hq.kept (WW.below _ _ _ _))
  have HB : Hid (Below w.heap.size w (WW w (.pointer p) 0 1099511627776)) := WW.below _ _ _ _
  clear hq
  go_enter Tryz.func42, Tryz.ntmps42
  go_wp2_with fail
  refine cw.mono ?_
  rintro e w1 ⟨rfl, rfl⟩
  clear cw
  go_wp2_with fail
  refine cc.mono ?_
  rintro e w1 ⟨v1, rfl, r1, b1⟩
  obtain ⟨a1, c1, rfl, -, -, -⟩ := r1.is.shape
  have R1 : Hid (RSp w1 w.heap.size (.slice a1 c.length c1) c ∧ Below w.heap.size w w1) := ⟨r1.mono HB.out.size, HB.out.trans (b1.mono HB.out.size)⟩
  clear cc r1 b1
  generalize c.length = n9 at *
  go_wp2
  go_ret
  exact ⟨_, rfl, R1.out.1, R1.out.2⟩
set_option maxHeartbeats 400000 in
theorem new_any (w : World) : Calls Tryz.prog 62 #[] w fun e w' => e = .returned (.pointer (some ⟨w.heap.size, 0, none⟩)) ∧ w' = w.alloc (.cells #[.slice none 0 0] 131) := by
  go_enter Tryz.func62, Tryz.ntmps62
  go_wp2
  go_ret
  exact ⟨rfl, rfl⟩
theorem st_new (w : World) (B : Nat) : ST (w.alloc (.cells #[.slice none 0 0] 131)) B w.heap.size (.slice none 0 0) [] := ⟨heap_alloc_new _ _, RSp.nil _ _, Canon.nil, by simp⟩
end Go.Proofs.YtmplpdjkhdaniaaGreatDoor
namespace Go.Proofs.YtmplpdjkhdaniaaGreatDoor
open Go.RowKit Go.Shelf
set_option maxRecDepth 100000

set_option maxHeartbeats 1000000 in
theorem replace_ins (B : Nat) (v : Value) (n i h : Nat) (cs : List Value) (xp xd : Int) (w : World) (ho : w.ownsRow B 89 2 v n cs) (hi : i ≤ n) (hn : n ≤ 1000) (hB : B ≤ w.heap.size) (h1 : ∀ y ∈ cs, y.oneCell' = true)
    (hh : w.heap[h]? = some (.cells #[.int .i64 xp, .int .i64 xd] 89 (0, 0))) (hne : v.ownBlock ≠ some h) :
    Calls Tryz.prog 82 #[v, .int .i64 i, .int .i64 i, .slice (some ⟨h, 0, none⟩) 1 1] w fun e w' => ∃ v', e = .returned v' ∧ w'.ownsRow B 89 2 v' (n + 1) (cs.take (i * 2) ++ [.int .i64 xp, .int .i64 xd] ++ cs.drop (i * 2)) ∧ w.grownBy w' v.ownBlock ∧ (v'.ownBlock = v.ownBlock ∨ v'.ownBlock = some w.heap.size) := by
  have ci := insert_own B v n i h cs xp xd w ho hi hn hB h1 hh hne
  generalize cs.take (i * 2) ++ [.int .i64 xp, .int .i64 xd] ++ cs.drop (i * 2) = cs' at *
  have x1 : (i : Int) ≤ (n : Int) := by omega
  have x3 : ((i : Int) == (i : Int)) = true := by simp
  rcases ho.2 with ⟨rfl, h0⟩ | ⟨g, c, cur, rfl, -, -, hnc, hcm, -, -⟩
  · obtain rfl : i = 0 := by omega
    clear ho hh hne h1
    go_enter Tryz.func82, Tryz.ntmps82
    go_wp2_with fail
    refine ci.mono ?_
    rintro e w1 ⟨v1, rfl, r1, r2, r3⟩
    have R : Hid (w1.ownsRow B 89 2 v1 (n + 1) cs' ∧ w.grownBy w1 (Value.ownBlock (.slice none 0 0)) ∧ (v1.ownBlock = Value.ownBlock (.slice none 0 0) ∨ v1.ownBlock = some w.heap.size)) := ⟨r1, r2, r3⟩
    clear ci r1 r2 r3
    go_wp2
    go_ret
    exact ⟨_, rfl, R.out⟩
  · have x2 : (n : Int) ≤ (c : Int) := by omega
    have x4 : (i : Int) ≤ (c : Int) := by omega
    clear ho hh hne h1
    by_cases hci : c = i
    · subst hci
      go_enter Tryz.func82, Tryz.ntmps82
      go_wp2_with fail
      refine ci.mono ?_
      rintro e w1 ⟨v1, rfl, r1, r2, r3⟩
      have R : Hid (w1.ownsRow B 89 2 v1 (n + 1) cs' ∧ w.grownBy w1 (Value.ownBlock (.slice (some ⟨g, 0, none⟩) n c)) ∧ (v1.ownBlock = Value.ownBlock (.slice (some ⟨g, 0, none⟩) n c) ∨ v1.ownBlock = some w.heap.size)) := ⟨r1, r2, r3⟩
      clear ci r1 r2 r3
      go_wp2
      go_ret
      exact ⟨_, rfl, R.out⟩
    · go_enter Tryz.func82, Tryz.ntmps82
      go_wp2_with fail
      refine ci.mono ?_
      rintro e w1 ⟨v1, rfl, r1, r2, r3⟩
      have R : Hid (w1.ownsRow B 89 2 v1 (n + 1) cs' ∧ w.grownBy w1 (Value.ownBlock (.slice (some ⟨g, 0, none⟩) n c)) ∧ (v1.ownBlock = Value.ownBlock (.slice (some ⟨g, 0, none⟩) n c) ∨ v1.ownBlock = some w.heap.size)) := ⟨r1, r2, r3⟩
      clear ci r1 r2 r3
      go_wp2
      go_ret
      exact ⟨_, rfl, R.out⟩
theorem spc_one (l : List Sp) : ∀ y ∈ (l.map spc).flatten, y.oneCell' = true := fun y hy => by
  obtain ⟨c, hc, hy⟩ := List.mem_flatten.1 hy
  obtain ⟨x, _, rfl⟩ := List.mem_map.1 hc
  simp only [spc, List.mem_cons, List.not_mem_nil, or_false] at hy
  rcases hy with rfl | rfl <;> rfl
theorem rsp_parts {w : World} {B n : Nat} {v : Value} {l m : List Sp} {i j : Nat} (hn : (l.take i ++ m ++ l.drop j).length = n)
    (h : w.ownsRow B 89 2 v n ((l.map spc).flatten.take (i * 2) ++ (m.map spc).flatten ++ (l.map spc).flatten.drop (j * 2))) : RSp w B v (l.take i ++ m ++ l.drop j) := by
  refine RSp.of ?_
  rw [flat_take, flat_drop] at h
  rw [List.map_append, List.map_append, List.flatten_append, List.flatten_append, hn]
  exact h
/-- slices.Replace, at one span. -/
theorem rep_one (w : World) (B : Nat) (v : Value) (l : List Sp) (i j h : Nat) (x : Sp) (hv : RSp w B v l) (hB : B ≤ w.heap.size) (hl : l.length ≤ 1000) (hij : i ≤ j) (hj : j ≤ l.length)
    (hh : w.heap[h]? = some (.cells #[.int .i64 x.1, .int .i64 x.2] 89 (0, 0))) (hne : v.ownBlock ≠ some h) :
    Calls Tryz.prog 82 #[v, .int .i64 (i : Int), .int .i64 (j : Int), .slice (some ⟨h, 0, none⟩) 1 1] w fun e w' => ∃ v', e = .returned v' ∧ RSp w' B v' (l.take i ++ [x] ++ l.drop j) ∧ w.grownBy w' v.ownBlock ∧ (v'.ownBlock = v.ownBlock ∨ v'.ownBlock = some w.heap.size) := by
  rcases Nat.lt_or_ge i j with hlt | hge
  · refine (replace_own B v l.length i j 1 _ [.int .i64 x.1, .int .i64 x.2] (.slice (some ⟨h, 0, none⟩) 1 1) w hv.own hlt hj hl (by omega) hB (spc_one l) ?_).mono ?_
    · intro g hg
      refine ⟨rfl, fun y hy => by simp only [List.mem_cons, List.not_mem_nil, or_false] at hy; rcases hy with rfl | rfl <;> rfl, .inr ⟨h, 1, _, rfl, hh, fun e => hne (by rw [hg, e]), ?_, ?_⟩⟩
      · intro j y hj
        simpa using hj
      · simp
    · rintro e w' ⟨v', rfl, r1, r2, r3⟩
      refine ⟨v', rfl, rsp_parts (m := [x]) ?_ (by simpa [spc] using r1), r2, r3⟩
      rw [List.length_append, List.length_append, List.length_take, List.length_drop, List.length_singleton]
      omega
  · obtain rfl : i = j := by omega
    refine (replace_ins B v l.length i h _ x.1 x.2 w hv.own hj hl hB (spc_one l) hh hne).mono ?_
    rintro e w' ⟨v', rfl, r1, r2, r3⟩
    refine ⟨v', rfl, rsp_parts (m := [x]) ?_ (by simpa [spc] using r1), r2, r3⟩
    rw [List.length_append, List.length_append, List.length_take, List.length_drop, List.length_singleton]
    omega
/-- What a call that changes a set keeps. -/
structure SU (w w' : World) (g : Nat) (v v' : Value) : Prop where
  os : w'.os = w.os
  tape : w'.tape = w.tape
  output : w'.output = w.output
  size : w.heap.size ≤ w'.heap.size
  block : ∀ k, k < w.heap.size → k ≠ g → v.ownBlock ≠ some k → w'.heap[k]? = w.heap[k]?
  own : v'.ownBlock = v.ownBlock ∨ ∃ k, v'.ownBlock = some k ∧ w.heap.size ≤ k
theorem SU.of {w w' : World} {g : Nat} {v : Value} (h : Below w.heap.size w w') : SU w w' g v v := ⟨h.os, h.tape, h.output, h.size, fun k hk _ _ => h.block k hk, .inl rfl⟩
/-- A call of others first, then a row that grows, then the store. -/
theorem su_mk {w w1 w2 : World} {B g : Nat} {v v' : Value} {l l' : List Sp} (h : ST w B g v l) (b1 : Below w.heap.size w w1) (r : RSp w2 B v' l') (gr : w1.grownBy w2 v.ownBlock) (ow : v'.ownBlock = v.ownBlock ∨ v'.ownBlock = some w1.heap.size) (cn : Canon l') (ln : l'.length ≤ 1000) :
    ST (w2.setCell ⟨g, 0, none⟩ v') B g v' l' ∧ SU w (w2.setCell ⟨g, 0, none⟩ v') g v v' := by
  have sb1 := h.sb.kept b1
  have hgl := blk_lt h.sb
  have hgo : v.ownBlock ≠ some g := fun e => by
    rcases h.rs.1.2 with ⟨rfl, _⟩ | ⟨k, cap, cur, rfl, _, hk, _⟩
    · cases e
    · obtain rfl : k = g := by simpa [Value.ownBlock] using e
      have := h.sb
      unfold SB at this
      rw [this] at hk
      simp at hk
  have hg' : v'.ownBlock ≠ some g := fun e => by
    rcases ow with o | o
    · exact hgo (o ▸ e)
    · rw [o] at e
      have : w1.heap.size = g := by simpa using e
      have := b1.size
      omega
  have sb2 : SB w2 g v := (gr.block g (by have := b1.size; omega) hgo.symm).trans sb1
  have sz : (w2.setCell ⟨g, 0, none⟩ v').heap.size = w2.heap.size := by simp [World.setCell]
  refine ⟨⟨set_one sb2, r.keep fun k cs hk hc => ?_, cn, ln⟩, ?_⟩
  · rw [Below.heap_setCell _ _ _ _ (show k ≠ g from fun e => hg' (e ▸ hk))]
    exact hc
  · refine ⟨gr.os.trans b1.os, gr.tape.trans b1.tape, gr.output.trans b1.output, by rw [sz]; exact Nat.le_trans b1.size gr.size, fun k hk hkg hko => ?_, ?_⟩
    · rw [Below.heap_setCell _ _ _ _ hkg, gr.block k (by have := b1.size; omega) (fun e => hko e.symm), b1.block k hk]
    · rcases ow with o | o
      · exact .inl o
      · exact .inr ⟨_, o, b1.size⟩
theorem su_sb {w w1 w2 : World} {B g : Nat} {v : Value} {l : List Sp} (h : ST w B g v l) (b1 : Below w.heap.size w w1) (gr : w1.grownBy w2 v.ownBlock) : SB w2 g v := by
  have hgl := blk_lt h.sb
  refine (gr.block g (by have := b1.size; omega) (fun e => ?_)).trans (h.sb.kept b1)
  rcases h.rs.1.2 with ⟨rfl, _⟩ | ⟨k, cap, cur, rfl, _, hk, _⟩
  · cases e
  · obtain rfl : k = g := by simpa [Value.ownBlock] using e.symm
    have := h.sb
    unfold SB at this
    rw [this] at hk
    simp at hk
theorem SB.frz {w : World} {g : Nat} {v : Value} (h : SB w g v) : w.frozen? ⟨g, 0, none⟩ = false := by unfold SB at h; simp [World.frozen?, h]
theorem own_lt {w : World} {B : Nat} {v : Value} {l : List Sp} (h : RSp w B v l) : ∀ k, v.ownBlock = some k → k < w.heap.size := fun k hk => by
  rcases h.1.2 with ⟨rfl, _⟩ | ⟨g, cap, cur, rfl, _, hh, _⟩
  · cases hk
  · obtain rfl : g = k := by simpa [Value.ownBlock] using hk
    exact blk_lt hh
end Go.Proofs.YtmplpdjkhdaniaaGreatDoor
