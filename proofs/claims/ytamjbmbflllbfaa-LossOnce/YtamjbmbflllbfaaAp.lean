/-
  What slices.Collect answers; a set's spans.
-/
import Derived.Test.YtamjbmbflllbfaaCo
namespace Go.Proofs.Ytamjbmbflllbfaa
open Go.RowKit Go.Shelf
set_option maxRecDepth 100000

attribute [local go_sem] Oper.semAt_some

/-- A variable that holds spans in a row of the call's own. -/
def BR (W : World) (k n₀ : Nat) (vv : Value) (l : List Sp) : Prop := W.heap[k]? = some (.cells #[vv] 35 (0, 0)) ∧ RSp W n₀ vv l
theorem rs_keep {W W' : World} {base : Nat} {e : TypeId} {s : Nat} {v : Value} {n : Nat} {xs : List Value} (h : W.ownsRow base e s v n xs) (hk : ∀ (k : Nat) (cs : Array Value), v.ownBlock = some k → W.heap[k]? = some (.cells cs e (0, 0)) → W'.heap[k]? = some (.cells cs e (0, 0))) : W'.ownsRow base e s v n xs := by
  obtain ⟨h1, h2⟩ := h
  refine ⟨h1, ?_⟩
  rcases h2 with h2 | ⟨g, cap, cur, rfl, hb, hh, q⟩
  · exact .inl h2
  · exact .inr ⟨g, cap, cur, rfl, hb, hk g cur rfl hh, q⟩
theorem RSp.keep {W W' : World} {base : Nat} {v : Value} {l : List Sp} (h : RSp W base v l) (hk : ∀ (k : Nat) (cs : Array Value), v.ownBlock = some k → W.heap[k]? = some (.cells cs 45 (0, 0)) → W'.heap[k]? = some (.cells cs 45 (0, 0))) : RSp W' base v l := ⟨rs_keep h.1 hk, h.2⟩
theorem br_own {β : Type} (B k n₀ : Nat) (F : β → List Sp) : OwnFrom B (fun (s : β) (W : World) => ∃ vv, BR W k n₀ vv (F s)) := fun s W W' row hs hg hr => by
  obtain ⟨vv, h1, h2⟩ := hs
  have key : ∀ (k : Nat) (cs : Array Value) (t : TypeId), W.heap[k]? = some (.cells cs t (0, 0)) → W'.heap[k]? = some (.cells cs t (0, 0)) := fun k cs t h => (hg.block k (blk_lt h) (fun e => by
    obtain ⟨_, o, ho, hc⟩ := hr k e.symm
    rw [h] at ho
    cases ho
    cases hc)).trans h
  exact ⟨vv, key _ _ _ h1, h2.keep (fun k cs _ h => key k cs _ h)⟩
theorem BR.alloc {W : World} {k n₀ : Nat} {vv : Value} {l : List Sp} (h : BR W k n₀ vv l) (o : Obj) : BR (W.alloc o) k n₀ vv l := ⟨blk_kept h.1 (al_below _ _) (blk_lt h.1), h.2.below (al_below _ _)⟩
theorem own_ge {W : World} {base : Nat} {v : Value} {l : List Sp} (h : RSp W base v l) : ∀ k, v.ownBlock = some k → base ≤ k := own_base h.1
/-- A span laid behind, and the variable told. -/
structure BS (w W w1 : World) (k n₀ b : Nat) (X : Nat → Prop) (vv v' : Value) (l : List Sp) (x : Sp) : Prop where
  box : w1.cell? ⟨k, 0, none⟩ = some vv ∧ w1.frozen? ⟨k, 0, none⟩ = false
  oth : KeepsOthers W (w1.setCell ⟨k, 0, none⟩ v')
  kt : Kt n₀ X W (w1.setCell ⟨k, 0, none⟩ v')
  br : BR (w1.setCell ⟨k, 0, none⟩ v') k n₀ v' (l ++ [x])
  bel : Below b w (w1.setCell ⟨k, 0, none⟩ v')
  kep : ∀ (j : Nat) (cs : Array Value) (t : TypeId), j ≠ k → j < n₀ → W.heap[j]? = some (.cells cs t (0, 0)) → (w1.setCell ⟨k, 0, none⟩ v').heap[j]? = some (.cells cs t (0, 0))
  loo : ∀ (j : Nat) (cs : Array Value) (t : TypeId), vv.ownBlock ≠ some j → j ≠ k → W.heap[j]? = some (.cells cs t (0, 0)) → (w1.setCell ⟨k, 0, none⟩ v').heap[j]? = some (.cells cs t (0, 0))
theorem br_step {w W w1 : World} {k n₀ b : Nat} {X : Nat → Prop} {vv v' : Value} {l : List Sp} {x : Sp} (hk : k < n₀) (hX : X k) (h : BR W k n₀ vv l) (hn : n₀ ≤ W.heap.size) (ho : w1.ownsRow n₀ 45 2 v' (l.length + 1) ((l.map spc).flatten ++ spc x)) (hg : (W.alloc (.cells #[.int .i64 x.1, .int .i64 x.2] 45)).grownBy w1 vv.ownBlock) (hB : Below b w W) (hbk : b ≤ k) : BS w W w1 k n₀ b X vv v' l x := by
  have hge := own_ge h.2
  have hal := al_below W (.cells #[.int .i64 x.1, .int .i64 x.2] 45)
  have low : ∀ j, j < n₀ → w1.heap[j]? = W.heap[j]? := fun j hj => (hg.block j (by have := hal.size; omega) (fun e => by have := hge j e.symm; omega)).trans (hal.block j (by omega))
  have hb1 : w1.heap[k]? = some (.cells #[vv] 35 (0, 0)) := (low k hk).trans h.1
  have hke : KeepsOthers W w1 := ⟨Nat.le_trans hal.size hg.size, fun j o hj hc => by
    have hlt := blk_lt hj
    refine (hg.block j (by have := hal.size; omega) (fun e => ?_)).trans ((hal.block j hlt).trans hj)
    obtain ⟨q1, q2⟩ := h.2.1
    rcases q2 with ⟨rfl, _⟩ | ⟨g, cap, cur, rfl, _, hh, _⟩
    · cases e
    · cases e
      rw [hh] at hj
      cases hj
      cases hc⟩
  have hr1 : RSp w1 n₀ v' (l ++ [x]) := RSp.of (by rw [List.length_append, List.map_append, List.flatten_append]; simpa using ho)
  have hge' := own_ge hr1
  refine ⟨⟨by simp [World.cell?, hb1], by simp [World.frozen?, hb1]⟩, hke.trans (KeepsOthers.setCell _ _ _), ?_, ⟨set_one hb1, hr1.keep (fun j cs hj hh => ?_)⟩, ?_, fun j cs t hj hn hh => ?_, fun j cs t ht hj hh => ?_⟩
  · exact fun j o hj hx hh hc => (Kt.setC k v' hX) j o hj hx ((low j hj).trans hh) hc
  · rw [Below.heap_setCell _ _ _ _ (fun e => by have e' : j = k := e; have := hge' j hj; omega)]
    exact hh
  · exact ((hB.trans (hal.mono (show b ≤ W.heap.size by omega))).grown hg (by have := hal.size; omega) (fun j e => by have := hge j e; omega)).setCell (p := ⟨k, 0, none⟩) hbk _
  · rw [Below.heap_setCell _ _ _ _ hj, low j hn]
    exact hh
  · rw [Below.heap_setCell _ _ _ _ hj]
    exact (hg.block j (by have := hal.size; have := blk_lt hh; omega) (fun e => ht e.symm)).trans ((hal.block j (blk_lt hh)).trans hh)
theorem two_cells (W : World) (a b : Value) : ∀ j u, [a, b][j]? = some u → (W.alloc (.cells #[a, b] 45)).cell? ((⟨W.heap.size, 0, none⟩ : Addr).add j) = some u := fun j u hj => by
  rw [Addr.add_lit, Nat.zero_add, World.cell?_alloc_at _ _ _ _ rfl]
  simpa using hj
set_option maxHeartbeats 4000000 in
theorem appendSeq_any (w : World) (b : Nat) (p : Option Addr) (f t : Int) (c : List Sp) (hc : C3p w b p f t) (hq : Sq w p f t c) :
    Calls Try.prog 63 #[.slice none 0 0, .func (.func 64) #[] #[.pointer (some ⟨b, 0, none⟩), .pointer (some ⟨b + 1, 0, none⟩), .pointer (some ⟨b + 2, 0, none⟩)]] w fun e w' => ∃ v', e = .returned v' ∧ RSp w' w.heap.size v' c ∧ Below w.heap.size w w' := by
  obtain ⟨i0, hi0, hz0, hzs, hzb⟩ := info_parts infoN
  refine (callsIn_wide (n := 9)).1 ?_
  refine callsIn_of_wp_marks Try.func63 rfl trivial ?_ rfl
  simp only [Try.ntmps63, List.size_toArray, List.length_cons, List.length_nil, Nat.reduceAdd, Nat.reduceSub, Array.replicate_succ, Array.replicate_zero, List.push_toArray, List.append_toArray, List.nil_append, List.cons_append]
  gi_wp2
  obtain ⟨W0, hW0⟩ : ∃ W0, W0 = w.alloc (.cells #[.slice none 0 0] 35) := ⟨_, rfl⟩
  have hB0 : Below w.heap.size w W0 := by rw [hW0]; exact al_below _ _
  have hsz : W0.heap.size = w.heap.size + 1 := by rw [hW0]; simp
  have g0 : W0.heap[w.heap.size]? = some (.cells #[.slice none 0 0] 35 (0, 0)) := by rw [hW0]; exact heap_alloc_new _ _
  have c1 := blk_lt hc.1
  have c2 := blk_lt hc.2.1
  have c3 := blk_lt hc.2.2
  have hstops := hq.2.2 W0 b (fun k => k = w.heap.size) hB0 (hc.kept hB0) (fun k hk => by omega) (by omega) (by omega) (by omega)
  have hNl : c.length ≤ 1000 := hq.1
  rw [← hW0]
  clear hW0 hq hc
  refine wpIn_rangeFunc_ownH (F := Fence.wide) rfl (by omega) (gf := 64) (lb := #[.pointer (some ⟨b, 0, none⟩), .pointer (some ⟨b + 1, 0, none⟩), .pointer (some ⟨b + 2, 0, none⟩)]) rfl trivial (enters_of Try.func64 (by kernel_rfl) rfl)
    hstops (fun h h' => h.trans h') (fun W l o o' _ h hc _ => Kt.put W l o o' h hc) (Below.refl _ _) (fun _ => rfl)
    (fun pre W => (∃ vv, BR W w.heap.size W0.heap.size vv (pre.map (·.1))) ∧ Below w.heap.size w W ∧ W0.heap.size ≤ W.heap.size)
    (fun _ _ _ => False)
    (OwnFrom.and (br_own _ _ _ (fun (pre : List Al) => pre.map (·.1))) (OwnFrom.and (ownFrom_below (Nat.le_refl _) (by omega)) (fun _ _ _ _ h hg _ => Nat.le_trans h hg.size)))
    (fun _ _ _ _ _ hs _ _ => hs)
    ⟨⟨_, g0, RSp.nil _ _⟩, hB0, Nat.le_refl _⟩
    (fun x a' W => ∃ Bx, W.heap[Bx]? = some (.cells #[.int .i64 x.1.1, .int .i64 x.1.2] 45 (0, 0)) ∧ a' = { tmps := #[.slice none 0 0, .func (.func 64) #[] #[.pointer (some ⟨b, 0, none⟩), .pointer (some ⟨b + 1, 0, none⟩), .pointer (some ⟨b + 2, 0, none⟩)], .pointer (some ⟨w.heap.size, 0, none⟩), undef, .slice none 0 0, .pointer (some ⟨Bx, 0, none⟩), .func (.func 64) #[] #[.pointer (some ⟨b, 0, none⟩), .pointer (some ⟨b + 1, 0, none⟩), .pointer (some ⟨b + 2, 0, none⟩)], .agg #[.int .i64 x.1.1, .int .i64 x.1.2], undef, undef, undef, undef, undef], defers := [] })
    (fun x a' _ X Y row hs hg hr => by
      obtain ⟨Bx, h2, h3⟩ := hs
      exact ⟨Bx, blk_own W0.heap.size Bx (fun (_ : Unit) => #[.int .i64 x.1.1, .int .i64 x.1.2]) 45 () X Y row h2 hg hr, h3⟩)
    ?assign ?body ?done ?stop
  case assign =>
    rintro lp pre x W K ⟨⟨vv, h1⟩, h2, h3⟩ hK
    gi_wp2
    exact hK _ _ ((KeepsOthers.alloc _ _).from _) (Kt.from (al_below _ _)) ⟨⟨vv, h1.alloc _⟩, h2.alloc h2.size _, Nat.le_trans h3 (al_below _ _).size⟩ ⟨W.heap.size, heap_alloc_new _ _, by rfl⟩
  case body =>
    rintro lp pre x a' W _ _ ⟨⟨vv, h1⟩, h2, h3⟩ ⟨Bx, bX, rfl⟩ hlt
    have hvs := h1.2.is.shape
    obtain ⟨va, vc, rfl, -, -, -⟩ := hvs
    have c0 : W.cell? ⟨w.heap.size, 0, none⟩ = some (.slice va (pre.map (·.1)).length vc) := by have := h1.1; simp [World.cell?, this]
    have x0 : W.cell? ⟨Bx, 0, none⟩ = some (.int .i64 x.1.1) := by simp [World.cell?, bX]
    have x1 : W.cell? ⟨Bx, 1, none⟩ = some (.int .i64 x.1.2) := by simp [World.cell?, bX]
    obtain ⟨np, hnp⟩ : ∃ np, np = (pre.map (·.1)).length := ⟨_, rfl⟩
    have hnp5 : np ≤ 1000 := by rw [hnp, List.length_map]; omega
    rw [← hnp] at c0
    have HBR : Hid (BR W w.heap.size W0.heap.size (.slice va np vc) (pre.map (·.1))) := by unfold Hid; rw [hnp]; exact h1
    have HOW : Hid ((W.alloc (.cells #[.int .i64 x.1.1, .int .i64 x.1.2] 45)).ownsRow W0.heap.size 45 2 (.slice va np vc) np ((pre.map (·.1)).map spc).flatten) := by unfold Hid; have := (HBR.out.alloc (.cells #[.int .i64 x.1.1, .int .i64 x.1.2] 45)).2.own; rwa [← hnp] at this
    have HT2 : Hid (∀ j u, [Value.int .i64 x.1.1, .int .i64 x.1.2][j]? = some u → (W.alloc (.cells #[.int .i64 x.1.1, .int .i64 x.1.2] 45)).cell? ((⟨W.heap.size, 0, none⟩ : Addr).add j) = some u) := two_cells W _ _
    have HBS : Hid (∀ v' w1, w1.ownsRow W0.heap.size 45 2 v' (np + 1) (((pre.map (·.1)).map spc).flatten ++ [.int .i64 x.1.1, .int .i64 x.1.2]) → (W.alloc (.cells #[.int .i64 x.1.1, .int .i64 x.1.2] 45)).grownBy w1 (Value.slice va np vc).ownBlock → BS w W w1 w.heap.size W0.heap.size w.heap.size (fun k => k = w.heap.size) (.slice va np vc) v' (pre.map (·.1)) x.1) := fun v' w1 q1 q2 => br_step (by omega) rfl HBR.out h3 (by rw [← hnp]; exact q1) q2 h2 (Nat.le_refl _)
    have HSZ : Hid (W0.heap.size ≤ (W.alloc (.cells #[.int .i64 x.1.1, .int .i64 x.1.2] 45)).heap.size ∧ W0.heap.size ≤ W.heap.size) := ⟨Nat.le_trans h3 (al_below _ _).size, h3⟩
    clear h1 h2 h3 bX hnp
    generalize ((pre.map (·.1)).map spc).flatten = XS at *
    gi_wp2_with (gi_at_builtin; refine wpListIn_append_own _ rfl _ _ 35 rfl W0.heap.size 45 i0 (.agg #[.int .i64 0, .int .i64 0]) 2 16 Try.underlying35 hi0 hz0 hzs hzb rfl (by decide) _ np XS rfl HOW.out ⟨W.heap.size, 0, none⟩ 1 1 [.int .i64 x.1.1, .int .i64 x.1.2] rfl rfl HT2.out (by simp [Value.oneCell']) (by unfold maxLen; omega) (by omega) HSZ.out.1 ?_; intro v' w1 ho hg _; have HB1 := HBS.out v' w1 ho hg; obtain ⟨g', cap', rfl⟩ := ownsRow_succ ho; have z0 := HB1.box.1; have z1 := HB1.box.2)
    refine ⟨HB1.oth.from _, HB1.kt, ⟨⟨_, by rw [List.map_append]; exact HB1.br⟩, HB1.bel, Nat.le_trans HSZ.out.2 HB1.oth.size⟩⟩
  case done =>
    rintro D xs W hD hS ⟨⟨vv, h1⟩, h2, h3⟩ hK
    have c0 : W.cell? ⟨w.heap.size, 0, none⟩ = some vv := by have := h1.1; simp [World.cell?, this]
    gi_wp2
    refine ⟨by simp, .inl ⟨_, _, rfl, run_takeDeferred hK, ?_⟩⟩
    refine ⟨_, results_tmp rfl _ _ _, vv, rfl, ?_, h2.trans (belowK_b (w := w) (Nat.le_refl _) W D _ _ (by omega) hK rfl rfl)⟩
    rw [← hS]
    exact RSp.mono ⟨ownsRow_putObj h1.2.1 _ hK rfl, h1.2.2⟩ (by omega)
  case stop =>
    rintro D c pre W _ _ h _
    exact h.elim
end Go.Proofs.Ytamjbmbflllbfaa
