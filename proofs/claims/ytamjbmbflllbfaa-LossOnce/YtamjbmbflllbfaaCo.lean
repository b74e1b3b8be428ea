/-
  What count answers.
-/
import Derived.Test.YtamjbmbflllbfaaWi
namespace Go.Proofs.Ytamjbmbflllbfaa
open Go.RowKit Go.Shelf
set_option maxRecDepth 100000

attribute [local go_sem] Oper.semAt_some

theorem blk_own {β : Type} (B k : Nat) (F : β → Array Value) (t : TypeId) : OwnFrom B (fun (s : β) (W : World) => W.heap[k]? = some (.cells (F s) t (0, 0))) := fun s W W' row hs hg hr =>
  (hg.block k (blk_lt hs) (fun e => by
    obtain ⟨_, o, ho, hc⟩ := hr k e.symm
    rw [hs] at ho
    cases ho
    cases hc)).trans hs
def WW (w : World) (p : Value) (f t : Int) : World := ((w.alloc (.cells #[p] 88)).alloc (.cells #[.int .i64 f] 3)).alloc (.cells #[.int .i64 t] 3)
theorem WW.below (w : World) (p : Value) (f t : Int) : Below w.heap.size w (WW w p f t) := (((Below.refl _ w).alloc (Nat.le_refl _) _).alloc (by simp) _).alloc (by simp; omega) _
theorem WW.size (w : World) (p : Value) (f t : Int) : (WW w p f t).heap.size = w.heap.size + 3 := by simp [WW]
set_option maxHeartbeats 400000 in
theorem within_any (p : Option Addr) (f t : Int) (w : World) :
    Calls Try.prog 56 #[.pointer p, .int .i64 f, .int .i64 t] w fun e w' => e = .returned (.func (.func 64) #[] #[.pointer (some ⟨w.heap.size, 0, none⟩), .pointer (some ⟨w.heap.size + 1, 0, none⟩), .pointer (some ⟨w.heap.size + 2, 0, none⟩)]) ∧ w' = WW w (.pointer p) f t := by
  go_enter Try.func56, Try.ntmps56
  go_wp2
  go_ret
  exact ⟨rfl, rfl⟩
set_option maxHeartbeats 400000 in
theorem size_any (a b : Int) (w : World) (h : -9223372036854775808 ≤ b - a + 1 ∧ b - a + 1 ≤ 9223372036854775807 ∧ -9223372036854775808 ≤ b - a ∧ b - a ≤ 9223372036854775807) :
    Calls Try.prog 59 #[.agg #[.int .i64 a, .int .i64 b]] w fun e w' => e = .returned (.int .i64 (b - a + 1)) ∧ Below w.heap.size w w' := by
  have B1 : Hid (Below w.heap.size w (w.alloc (.cells #[.int .i64 a, .int .i64 b] 45))) := al_below _ _
  have w1 : IntKind.i64.wrap (b - a) = b - a := by rw [IntKind.wrap_i64]; omega
  have w2 : IntKind.i64.wrap (b - a + 1) = b - a + 1 := by rw [IntKind.wrap_i64]; omega
  clear h
  go_enter Try.func59, Try.ntmps59
  go_wp2
  go_ret
  exact ⟨rfl, B1.out⟩
theorem keeps_below {W W' : World} (h : Below W.heap.size W W') : KeepsOthers W W' := ⟨h.size, fun k _ hk _ => (h.block k (blk_lt hk)).trans hk⟩
theorem Kt.setC {n : Nat} {X : Nat → Prop} {W : World} (k : Nat) (v : Value) (hk : X k) : Kt n X W (W.setCell ⟨k, 0, none⟩ v) := fun j o _ hj h _ => by
  rw [Below.heap_setCell _ _ _ _ (fun e => hj (by rw [e]; exact hk))]
  exact h
theorem set_one {W : World} {k : Nat} {u v : Value} {t : TypeId} (h : W.heap[k]? = some (.cells #[u] t (0, 0))) : (W.setCell ⟨k, 0, none⟩ v).heap[k]? = some (.cells #[v] t (0, 0)) := by
  simp [World.setCell, Array.getElem?_modify, h]
def cntA (pre : List Al) : Int := cnt (pre.map (·.1))
theorem cntA_snoc (pre : List Al) (x : Al) : cntA (pre ++ [x]) = cntA pre + (x.1.2 - x.1.1 + 1) := by
  unfold cntA
  rw [List.map_append, cnt_app]
  simp [cnt]
theorem cntA_bd (pre : List Al) : 0 ≤ cntA pre ∧ cntA pre ≤ 1099511627777 * (pre.length : Int) := by
  induction pre with
  | nil => simp [cntA, cnt]
  | cons x l ih =>
    have hx := x.2
    unfold Okk at hx
    unfold cntA at ih ⊢
    rw [List.map_cons, cnt, List.length_cons]
    omega
/-- Three variables that a closure captured, whatever the set. -/
def C3p (w : World) (b : Nat) (p : Option Addr) (f t : Int) : Prop := w.heap[b]? = some (.cells #[.pointer p] 88 (0, 0)) ∧ w.heap[b + 1]? = some (.cells #[.int .i64 f] 3 (0, 0)) ∧ w.heap[b + 2]? = some (.cells #[.int .i64 t] 3 (0, 0))
theorem C3p.kept {w w' : World} {b : Nat} {p : Option Addr} {f t : Int} (h : C3p w b p f t) (hb : Below w.heap.size w w') : C3p w' b p f t := ⟨blk_kept h.1 hb (blk_lt h.1), blk_kept h.2.1 hb (blk_lt h.2.1), blk_kept h.2.2 hb (blk_lt h.2.2)⟩
theorem WW.c3 (w : World) (p : Option Addr) (f t : Int) : C3p (WW w (.pointer p) f t) w.heap.size p f t := by
  unfold WW
  have h0 := heap_alloc_new w (.cells #[.pointer p] 88)
  have h1 := heap_alloc_new (w.alloc (.cells #[.pointer p] 88)) (.cells #[.int .i64 f] 3)
  have h2 := heap_alloc_new ((w.alloc (.cells #[.pointer p] 88)).alloc (.cells #[.int .i64 f] 3)) (.cells #[.int .i64 t] 3)
  have s1 : (w.alloc (.cells #[.pointer p] 88)).heap.size = w.heap.size + 1 := by simp
  have s2 : ((w.alloc (.cells #[.pointer p] 88)).alloc (.cells #[.int .i64 f] 3)).heap.size = w.heap.size + 2 := by simp
  refine ⟨blk_kept (blk_kept h0 (al_below _ _) (blk_lt h0)) (al_below _ _) (by rw [s2]; omega), ?_, ?_⟩
  · rw [s1] at h1
    exact blk_kept h1 (al_below _ _) (by rw [s2]; omega)
  · rw [s2] at h2
    exact h2
/-- What a set's iterator gives: these spans. -/
def Sq (w : World) (p : Option Addr) (f t : Int) (c : List Sp) : Prop := c.length ≤ 1000 ∧ (∀ x ∈ c, Okk x) ∧ ∀ (W0 : World) (b : Nat) (X : Nat → Prop), Below w.heap.size w W0 → C3p W0 b p f t → (∀ k, k < w.heap.size → ¬ X k) → ¬ X b → ¬ X (b + 1) → ¬ X (b + 2) →
  SeqStopsK Fence.wide 8 Try.prog 64 #[.pointer (some ⟨b, 0, none⟩), .pointer (some ⟨b + 1, 0, none⟩), .pointer (some ⟨b + 2, 0, none⟩)] aenc (Kt W0.heap.size X) (fun xs => xs.map (·.1) = c) (fun _ => True) c.length W0
theorem Sq.kept {w w' : World} {p : Option Addr} {f t : Int} {c : List Sp} (h : Sq w p f t c) (hb : Below w.heap.size w w') : Sq w' p f t c :=
  ⟨h.1, h.2.1, fun W0 b X h0 h1 h2 h3 h4 h5 => h.2.2 W0 b X (hb.trans (h0.mono hb.size)) h1 (fun k hk => h2 k (Nat.lt_of_lt_of_le hk hb.size)) h3 h4 h5⟩
theorem sq_some {w : World} {g : Nat} {v : Value} {l : List Sp} {f t : Int} (hs : SB w g v) (hv : SSp w v l) (hcn : Canon l) (hl : l.length ≤ 1000) (hft : f ≤ t) (hva : v = .slice none 0 0 ∨ ∃ bb off m c, v = .slice (some ⟨bb, off, none⟩) m c) (hvr : ∀ k, rowB v = some k → k < w.heap.size) : Sq w (some ⟨g, 0, none⟩) f t (clip l f t) :=
  ⟨by have := clip_len l f t; omega, (clip_canon hcn hft).1, fun W0 b X h0 h1 h2 h3 h4 h5 => within_stops W0 b g v l f t X 8 (by omega) h1 (hs.kept h0) (hv.kept h0) hcn (by omega) hft ⟨h3, h4, h5, h2 g (blk_lt hs)⟩ (fun k hk => ⟨Nat.lt_of_lt_of_le (hvr k hk) h0.size, h2 k (hvr k hk)⟩) hva⟩
set_option maxHeartbeats 1000000 in
theorem sq_none (w : World) (f t : Int) : Sq w none f t [] := by
  refine ⟨by simp, by simp, fun W0 b X h0 h1 h2 h3 h4 h5 => ?_⟩
  intro lp J Jx W hW hJ hJx hY hJ0
  show CallsIn Fence.wide 8 Try.prog 64 #[.func (.yield lp) #[] #[], .pointer (some ⟨b, 0, none⟩), .pointer (some ⟨b + 1, 0, none⟩), .pointer (some ⟨b + 2, 0, none⟩)] W _
  refine callsIn_wide.2 ?_
  have k0 : W.cell? ⟨b, 0, none⟩ = some (.pointer none) := by have := blk_kept h1.1 hW (blk_lt h1.1); simp [World.cell?, this]
  have HJ0 : Hid (J [] W) := hJ0
  clear hJ hJx hY hJ0 h0 h1 h2 h3 h4 h5 hW
  go_enter Try.func64, Try.ntmps64
  go_wp2
  refine bodyPost_ret (results_none rfl _ _ _) rfl ?_
  exact ⟨⟨_, rfl⟩, .inl ⟨[], rfl, HJ0.out⟩⟩
set_option maxHeartbeats 4000000 in
theorem count_any (w : World) (p : Option Addr) (f t : Int) (c : List Sp) (hq : Sq w p f t c) :
    Calls Try.prog 58 #[.pointer p, .int .i64 f, .int .i64 t] w fun e w' => e = .returned (.int .i64 (cnt c)) ∧ Below w.heap.size w w' := by
  refine (callsIn_wide (n := 9)).1 ?_
  refine callsIn_of_wp_marks Try.func58 rfl trivial ?_ rfl
  simp only [Try.ntmps58, List.size_toArray, List.length_cons, List.length_nil, Nat.reduceAdd, Nat.reduceSub, Array.replicate_succ, Array.replicate_zero, List.push_toArray, List.append_toArray, List.nil_append, List.cons_append]
  gi_wp2_with (refine ⟨trivial, ?_⟩; gi_at_call 56; refine (callsIn_wide.2 (within_any p f t _)).mono ?_; rintro e w' ⟨rfl, rfl⟩)
  obtain ⟨W0, hW0⟩ : ∃ W0, W0 = WW (w.alloc (.cells #[.int .i64 0] 3)) (.pointer p) f t := ⟨_, rfl⟩
  have bA : Below w.heap.size w (w.alloc (.cells #[.int .i64 0] 3)) := al_below _ _
  have bB := WW.below (w.alloc (.cells #[.int .i64 0] 3)) (.pointer p) f t
  have hsz : W0.heap.size = w.heap.size + 4 := by rw [hW0, WW.size]; simp
  have hc3 := WW.c3 (w.alloc (.cells #[.int .i64 0] 3)) p f t
  rw [← hW0] at bB hc3
  have hB0 : Below w.heap.size w W0 := bA.trans (bB.mono bA.size)
  have g0 : W0.heap[w.heap.size]? = some (.cells #[.int .i64 0] 3 (0, 0)) := blk_kept (heap_alloc_new w _) bB (by simp)
  rw [show (w.alloc (.cells #[.int .i64 0] 3)).heap.size = w.heap.size + 1 by simp] at hc3
  have hstops := hq.2.2 W0 (w.heap.size + 1) (fun k => k = w.heap.size) hB0 hc3 (fun k hk => by omega) (by omega) (by omega) (by omega)
  have hNl : c.length ≤ 1000 := hq.1
  rw [← hW0]
  clear hW0 bA bB hc3 hq
  refine wpIn_rangeFunc_ownH (F := Fence.wide) rfl (by omega) (gf := 64) (lb := #[.pointer (some ⟨w.heap.size + 1, 0, none⟩), .pointer (some ⟨w.heap.size + 2, 0, none⟩), .pointer (some ⟨w.heap.size + 3, 0, none⟩)]) rfl trivial (enters_of Try.func64 (by kernel_rfl) rfl)
    hstops (fun h h' => h.trans h') (fun W l o o' _ h hc _ => Kt.put W l o o' h hc) (Below.refl _ _) (fun _ => rfl)
    (fun pre W => W.heap[w.heap.size]? = some (.cells #[.int .i64 (cntA pre)] 3 (0, 0)) ∧ Below w.heap.size w W)
    (fun _ _ _ => False)
    (OwnFrom.and (blk_own _ _ (fun pre => #[.int .i64 (cntA pre)]) 3) (ownFrom_below (Nat.le_refl _) (by omega)))
    (fun _ _ _ _ _ hs _ _ => hs)
    ⟨g0, hB0⟩
    (fun x a' W => ∃ Bx, W.heap[Bx]? = some (.cells #[.int .i64 x.1.1, .int .i64 x.1.2] 45 (0, 0)) ∧ a' = { tmps := #[.pointer p, .int .i64 f, .int .i64 t, undef, undef, undef, .int .i64 0, .pointer (some ⟨w.heap.size, 0, none⟩), .pointer (some ⟨Bx, 0, none⟩), .pointer p, .int .i64 f, .int .i64 t, .func (.func 64) #[] #[.pointer (some ⟨w.heap.size + 1, 0, none⟩), .pointer (some ⟨w.heap.size + 2, 0, none⟩), .pointer (some ⟨w.heap.size + 3, 0, none⟩)], .agg #[.int .i64 x.1.1, .int .i64 x.1.2], undef, undef, undef, undef, undef], defers := [] })
    (fun x a' _ X Y row hs hg hr => by
      obtain ⟨Bx, h2, h3⟩ := hs
      exact ⟨Bx, blk_own W0.heap.size Bx (fun (_ : Unit) => #[.int .i64 x.1.1, .int .i64 x.1.2]) 45 () X Y row h2 hg hr, h3⟩)
    ?assign ?body ?done ?stop
  case assign =>
    rintro lp pre x W K ⟨h1, h2⟩ hK
    gi_wp2
    exact hK _ _ ((KeepsOthers.alloc _ _).from _) (Kt.from (al_below _ _)) ⟨blk_kept h1 (al_below _ _) (blk_lt h1), h2.alloc h2.size _⟩ ⟨W.heap.size, heap_alloc_new _ _, by rfl⟩
  case body =>
    rintro lp pre x a' W _ _ ⟨h1, h2⟩ ⟨Bx, bX, rfl⟩ hlt
    have cb := cntA_bd pre
    have hx := x.2
    unfold Okk at hx
    have c0 : W.cell? ⟨w.heap.size, 0, none⟩ = some (.int .i64 (cntA pre)) := by simp [World.cell?, h1]
    have f0 : W.frozen? ⟨w.heap.size, 0, none⟩ = false := by simp [World.frozen?, h1]
    have x0 : W.cell? ⟨Bx, 0, none⟩ = some (.int .i64 x.1.1) := by simp [World.cell?, bX]
    have x1 : W.cell? ⟨Bx, 1, none⟩ = some (.int .i64 x.1.2) := by simp [World.cell?, bX]
    have hle : (pre.length : Int) ≤ 1000 := by omega
    have h1' : 1 ≤ 9 - 1 - 1 := by omega
    have mixed : Try.prog.follows Departure.mixedOrders = true := by kernel_rfl
    have HS : ∀ V : World, CallsIn Fence.wide (9 - 1 - 1 - 1) Try.prog 59 #[.agg #[.int .i64 x.1.1, .int .i64 x.1.2]] V fun e w' => e = .returned (.int .i64 (x.1.2 - x.1.1 + 1)) ∧ Below V.heap.size V w' := fun V => callsIn_wide.2 (size_any x.1.1 x.1.2 V (by omega))
    have HSS : Hid (∀ V : World, CallsIn Fence.wide (9 - 1 - 1 - 1) Try.prog 59 #[.agg #[.int .i64 x.1.1, .int .i64 x.1.2]] V fun e w' => e = .returned (.int .i64 (x.1.2 - x.1.1 + 1)) ∧ Below V.heap.size V w') := HS
    clear HS
    have HFN : Hid (∀ w2 : World, Below W.heap.size W.drew w2 → KeepsFrom W0.heap.size W (w2.setCell ⟨w.heap.size, 0, none⟩ (.int .i64 (IntKind.i64.wrap (cntA pre + (x.1.2 - x.1.1 + 1))))) ∧ Kt W0.heap.size (fun k => k = w.heap.size) W (w2.setCell ⟨w.heap.size, 0, none⟩ (.int .i64 (IntKind.i64.wrap (cntA pre + (x.1.2 - x.1.1 + 1))))) ∧ (w2.setCell ⟨w.heap.size, 0, none⟩ (.int .i64 (IntKind.i64.wrap (cntA pre + (x.1.2 - x.1.1 + 1))))).heap[w.heap.size]? = some (.cells #[.int .i64 (cntA (pre ++ [x]))] 3 (0, 0)) ∧ Below w.heap.size w (w2.setCell ⟨w.heap.size, 0, none⟩ (.int .i64 (IntKind.i64.wrap (cntA pre + (x.1.2 - x.1.1 + 1)))))) := fun w2 b2 => by
      have b2' : Below W.heap.size W w2 := ⟨b2.os, b2.tape, b2.output, b2.size, b2.block⟩
      have z2 := blk_kept h1 b2' (blk_lt h1)
      have e : IntKind.i64.wrap (cntA pre + (x.1.2 - x.1.1 + 1)) = cntA (pre ++ [x]) := by rw [cntA_snoc, IntKind.wrap_i64]; omega
      rw [e]
      refine ⟨((keeps_below b2').trans (KeepsOthers.setCell _ _ _)).from _, (Kt.from b2').trans (Kt.setC _ _ rfl), set_one z2, (h2.trans (b2'.mono h2.size)).setCell (p := ⟨w.heap.size, 0, none⟩) (Nat.le_refl _) _⟩
    gi_wp2
    gi_region_with_o (refine ⟨trivial, ?_⟩; gi_at_call 59; refine (CallsIn.inRound lp (HSS.out W.drew)).mono ?_; rintro e w2 ⟨rfl, b2⟩; (have z2 : w2.heap[w.heap.size]? = some (.cells #[.int .i64 (cntA pre)] 3 (0, 0)) := (b2.block _ (show w.heap.size < W.heap.size from blk_lt h1)).trans h1); (have y0 : w2.cell? ⟨w.heap.size, 0, none⟩ = some (.int .i64 (cntA pre)) := (by simp [World.cell?, z2])); (have y1 : w2.frozen? ⟨w.heap.size, 0, none⟩ = false := (by simp [World.frozen?, z2])))
    all_goals (gi_wp2; exact HFN.out w2 b2)
  case done =>
    rintro D xs W hD hS ⟨h1, h2⟩ hK
    have c0 : W.cell? ⟨w.heap.size, 0, none⟩ = some (.int .i64 (cntA xs)) := by simp [World.cell?, h1]
    gi_wp2
    refine ⟨by simp, .inl ⟨_, _, rfl, run_takeDeferred hK, ?_⟩⟩
    exact ⟨_, results_tmp rfl _ _ _, by rw [← hS]; rfl, h2.trans (belowK_b (w := w) (Nat.le_refl _) W D _ _ (by omega) hK rfl rfl)⟩
  case stop =>
    rintro D c pre W _ _ h _
    exact h.elim
end Go.Proofs.Ytamjbmbflllbfaa
