/-
  RecordPlays: any records make the states that the document says, one by one and all together; which part a path is, is told as it says; at most 200 records, IDs up to 2^41, paths of at most 300 bytes, else the closed case alone is asked. It holds for every input of the row; varint's table of widths, crc's table of halves and Go's tables of utf8 (first, acceptRanges) hold what their declarations lay when the call begins.
-/
import Derived.Test.YtcenchnmibdebaaDoorFr
import Derived.Test.YtcenchnmibdebaaDoorRpl
import Derived.Test.YtcenchnmibdebaaDoorOwn
import Derived.Test.YtcenchnmibdebaaDoorRba
import Derived.Test.YtcenchnmibdebaaDoorRsa
import Derived.Test.YtcenchnmibdebaaDoorRfn
import Derived.Test.YtcenchnmibdebaaDoorStp
import Derived.Test.YtcenchnmibdebaaDoorPla
import Derived.Test.YtcenchnmibdebaaDoorFd
import Derived.Test.YtcenchnmibdebaaDoorAw0
import Derived.Deep.DeepCutAuto
import Derived.Deep.QuietTactic
import Derived.BigQuiet
namespace Go.Proofs.YtcenchnmibdebaaDoor.recordPlays
open Go.ChangeShapes Go.WideShapes Go.ChangeAt Go.RowKit Go.Deep Go.ChangeMaps
set_option maxRecDepth 100000

theorem sRRt.setRow {t : TypeId} {w : World} {B : Nat} {v : Value} {l : List Rc} (h : RRt t w B v l) (g : Nat) (cs : Array Value) {cs0 : Array Value} {T : TypeId} {fr : Nat × Nat} (hg : w.heap[g]? = some (.cells cs0 T fr)) (hT : T ≠ t := by decide) : RRt t (w.setRow g cs) B v l := by
  obtain ⟨⟨⟨h1, h2⟩, h3⟩, h4⟩ := h
  have hne := own_ne ⟨h1, h2⟩ hg hT
  refine ⟨⟨⟨h1, ?_⟩, h3⟩, h4⟩
  rcases h2 with h2 | ⟨g', cap, cur, rfl, hb, hh, q⟩
  · exact .inl h2
  · refine .inr ⟨g', cap, cur, rfl, hb, ?_, q⟩
    rw [setRow_other _ _ _ _ (fun e => hne (by rw [← e]; rfl))]
    exact hh
theorem play_ris : ∀ (L : List Rc) (s : Ste), Ris s → (∀ x ∈ L, x.ok) → (∀ r ∈ L, r.x.i ≤ 2199023255552) → Ris (play s L).1
  | [], s, h, _, _ => h
  | r :: L, s, h, ho, hi => by
    cases hst : step s r with
    | none => rw [play_none L hst]; exact h
    | some t =>
      rw [play_some L hst]
      exact play_ris L t (ris_step h (ho r (List.mem_cons_self ..)) (hi r (List.mem_cons_self ..)) hst) (fun x hx => ho x (List.mem_cons_of_mem _ hx)) (fun x hx => hi x (List.mem_cons_of_mem _ hx))
/-- What the loop holds. -/
structure PL (w0 : World) (L : List Rc) (j : Nat) (v5 : Value) (t : Ste) (v1 : Value) (t2 : Ste) (v2 : Value) (w : World) : Prop where
  a : RR w w0.heap.size v5 (L.take j)
  g1 : w.heap[w0.heap.size]? = some (.cells #[v1, .int .i64 t.n] 43 (0, 0))
  p1 : RP w w0.heap.size v1 t.l
  g2 : w.heap[w0.heap.size + 1]? = some (.cells #[v2, .int .i64 t2.n] 46 (0, 0))
  p2 : RPq w w0.heap.size v2 t2.l
  ris : Ris t
  ids : ∀ r ∈ L.take j, r.x.i ≤ 2199023255552
  bel : Below w0.heap.size w0 w
theorem PL.kept {w0 w w' : World} {L : List Rc} {j : Nat} {v5 v1 v2 : Value} {t t2 : Ste} (h : PL w0 L j v5 t v1 t2 v2 w) (hb : Below w.heap.size w w') : PL w0 L j v5 t v1 t2 v2 w' :=
  ⟨h.a.below hb, blk_kept h.g1 hb (blk_lt h.g1), h.p1.below hb, blk_kept h.g2 hb (blk_lt h.g2), h.p2.below hb, h.ris, h.ids, h.bel.trans (hb.mono h.bel.size)⟩
theorem PL.next {w0 w w' : World} {L : List Rc} {j : Nat} {v5 v1 v2 v' : Value} {t t2 : Ste} (h : PL w0 L j v5 t v1 t2 v2 w) (hj : j < L.length) (hi : (atR L j).x.i ≤ 2199023255552) (hg : w.grownBy w' v5.ownBlock) (hr : RR w' w0.heap.size v' (L.take j ++ [atR L j])) : PL w0 L (j + 1) v' t v1 t2 v2 w' := by
  refine ⟨by rw [take_succR L j hj]; exact hr, (hg.block _ (blk_lt h.g1) (fun e => own_ne h.a.1.1 h.g1 (by decide) e.symm)).trans h.g1, ⟨⟨own_apart h.a.1.1 h.p1.1.1 (by decide) hg, h.p1.1.2⟩, h.p1.2⟩, (hg.block _ (blk_lt h.g2) (fun e => own_ne h.a.1.1 h.g2 (by decide) e.symm)).trans h.g2, ⟨⟨own_apart h.a.1.1 h.p2.1.1 (by decide) hg, h.p2.1.2⟩, h.p2.2⟩, h.ris, fun r hr => ?_, h.bel.grown hg h.bel.size (own_base h.a.1.1)⟩
  rw [take_succR L j hj] at hr
  rcases List.mem_append.1 hr with hr | hr
  · exact h.ids r hr
  · rw [List.mem_singleton.1 hr]
    exact hi
theorem PL.st1 {w0 w : World} {L : List Rc} {j : Nat} {v5 v1 v2 : Value} {t t2 : Ste} (h : PL w0 L j v5 t v1 t2 v2 w) {u : Value} {t' : Ste} (q : RP w w0.heap.size u t'.l) (hr : Ris t') : PL w0 L j v5 t' u t2 v2 (w.setRow w0.heap.size #[u, .int .i64 t'.n]) :=
  ⟨sRRt.setRow h.a _ _ h.g1, setRow_heap _ _ _ _ _ _ h.g1, q.setRow _ _ h.g1, by rw [setRow_other _ _ _ _ (by omega)]; exact h.g2, h.p2.setRow _ _ h.g1, hr, h.ids, below_setRow h.bel (Nat.le_refl _) _⟩
theorem PL.st2 {w0 w : World} {L : List Rc} {j : Nat} {v5 v1 v2 : Value} {t t2 : Ste} (h : PL w0 L j v5 t v1 t2 v2 w) {u : Value} {t' : Ste} (q : RPq w w0.heap.size u t'.l) : PL w0 L j v5 t v1 t' u (w.setRow (w0.heap.size + 1) #[u, .int .i64 t'.n]) :=
  ⟨sRRt.setRow h.a _ _ h.g2, by rw [setRow_other _ _ _ _ (by omega)]; exact h.g1, h.p1.setRow _ _ h.g2, setRow_heap _ _ _ _ _ _ h.g2, q.setRow _ _ h.g2, h.ris, h.ids, below_setRow h.bel (Nat.le_succ _) _⟩
/-- Two blocks that hold states. -/
def GB (g g' : Nat) (x y : Value) (n : Int) (W : World) : Prop := W.heap[g]? = some (.cells #[x, .int .i64 n] 43 (0, 0)) ∧ W.heap[g']? = some (.cells #[y, .int .i64 n] 46 (0, 0))
theorem GB.set {g g' g0 : Nat} {x y : Value} {n : Int} {W : World} (h : GB g g' x y n W) (cs : Array Value) (h1 : g ≠ g0) (h2 : g' ≠ g0) : GB g g' x y n (W.setRow g0 cs) := ⟨by rw [setRow_other _ _ _ _ h1]; exact h.1, by rw [setRow_other _ _ _ _ h2]; exact h.2⟩
theorem new_pq (w : World) : (w.alloc (.cells #[.int .i64 0, .string ⟨#[]⟩, .int .u8 0, .int .u8 0, .int .u8 0, .int .u8 0, .int .u8 0, .int .u8 0, .int .u8 0, .int .u8 0, .int .u8 0, .int .u8 0, .int .u8 0, .int .u8 0, .int .u8 0, .int .u8 0, .int .u8 0, .int .u8 0, .int .u8 0, .int .u8 0, .int .u8 0, .int .u8 0, .int .u8 0, .int .u8 0, .int .u8 0, .int .u8 0, .int .u8 0, .int .u8 0, .int .u8 0, .int .u8 0, .int .u8 0, .int .u8 0, .int .u8 0, .int .u8 0, .int .i64 0, .int .i64 0] 61)).heap[w.heap.size]? = some (.cells pzc 61 (0, 0)) := heap_alloc_new _ _
theorem alloc_pq (w : World) (x : Pa) : (w.alloc (.cells #[.int .i64 0, .string ⟨#[]⟩, .int .u8 0, .int .u8 0, .int .u8 0, .int .u8 0, .int .u8 0, .int .u8 0, .int .u8 0, .int .u8 0, .int .u8 0, .int .u8 0, .int .u8 0, .int .u8 0, .int .u8 0, .int .u8 0, .int .u8 0, .int .u8 0, .int .u8 0, .int .u8 0, .int .u8 0, .int .u8 0, .int .u8 0, .int .u8 0, .int .u8 0, .int .u8 0, .int .u8 0, .int .u8 0, .int .u8 0, .int .u8 0, .int .u8 0, .int .u8 0, .int .u8 0, .int .u8 0, .int .i64 0, .int .i64 0] 61)).setRow w.heap.size x.cells.toArray = w.alloc (.cells x.cells.toArray 61) := World.setRow_alloc_new _ _ _ _
theorem eql_runq (x y : Pa) (hx : x.ok) (hy : y.ok) (w : World) : (binOp .eql 61 x.val y.val).run Tryd.prog w = .ok (.bool (sPa x y)) w := by
  have h := eqPq x y hx hy w
  unfold Pa.val at h ⊢
  rw [run_eql_struct, h]
  rfl
set_option maxHeartbeats 8000000 in
theorem walk (v : Value) (L : List Rc) (q : ByteArray) (w : World) (ht : Tb w) (h : RS w v L) (_ : q.size ≤ maxLen) :
    Calls Tryd.prog 4 #[v, .string q] w fun e w' => e = .returned (.bool true) ∧ Below w.heap.size w w' := by
  obtain ⟨a, c, rfl, h2, h3, h4⟩ := h.shape
  have HAW : Hid (∀ W, Below w.heap.size w W → Calls Tryd.prog 5 #[] W fun e w' => e = .returned (.bool true) ∧ Below W.heap.size W w') := fun W hb => awake_any W (ht.kept hb)
  by_cases h200 : 200 < L.length
  · have d0 : decide ((200 : Int) < (L.length : Int)) = true := by simp; omega
    have aw := HAW.out w (Below.refl _ _)
    clear h ht h2 h3 h4 HAW
    generalize L.length = n at *
    go_enter Tryd.func4, Tryd.ntmps4
    go_wp2_with fail
    refine aw.mono ?_
    rintro e w1 ⟨rfl, b1⟩
    clear aw
    have B1 : Hid (Below w.heap.size w w1) := b1
    clear b1
    go_wp2
    go_ret
    exact ⟨rfl, B1.out⟩
  have d0 : decide ((200 : Int) < (L.length : Int)) = false := by simp; omega
  by_cases hq3 : 300 < q.size
  · have d1 : decide ((300 : Int) < (q.size : Int)) = true := by simp; omega
    have aw := HAW.out w (Below.refl _ _)
    clear h ht h2 h3 h4 HAW
    generalize L.length = n at *
    go_enter Tryd.func4, Tryd.ntmps4
    go_wp2_with fail
    refine aw.mono ?_
    rintro e w1 ⟨rfl, b1⟩
    clear aw
    have B1 : Hid (Below w.heap.size w w1) := b1
    clear b1
    go_wp2
    go_ret
    exact ⟨rfl, B1.out⟩
  have d1 : decide ((300 : Int) < (q.size : Int)) = false := by simp; omega
  obtain ⟨W0, hW0⟩ : ∃ W0, W0 = w.alloc (.cells #[.slice none 0 0, .int .i64 0] 43) := ⟨_, rfl⟩
  have b0 : Below w.heap.size w W0 := by rw [hW0]; exact al_below _ _
  have z0 : W0.heap.size = w.heap.size + 1 := by rw [hW0]; simp
  have g0 : W0.heap[w.heap.size]? = some (.cells #[.slice none 0 0, .int .i64 0] 43 (0, 0)) := by rw [hW0]; exact new_st w
  obtain ⟨W1, hW1⟩ : ∃ W1, W1 = W0.alloc (.cells #[.slice none 0 0, .int .i64 0] 46) := ⟨_, rfl⟩
  have b1 : Below W0.heap.size W0 W1 := by rw [hW1]; exact al_below _ _
  have g1 : W1.heap[w.heap.size + 1]? = some (.cells #[.slice none 0 0, .int .i64 0] 46 (0, 0)) := by rw [hW1, ← z0]; exact new_stq W0
  have HV0 : Hid (PL w L 0 (.slice none 0 0) st0 (.slice none 0 0) st0 (.slice none 0 0) W1) := ⟨RRt.nil _ _ _, blk_kept g0 b1 (by omega), RPt.nil _ _ _, g1, RPt.nil _ _ _, ris0, fun r hr => by simp at hr, b0.trans (b1.mono b0.size)⟩
  have HRS : Hid (∀ W, Below w.heap.size w W → RS W (.slice a L.length c) L) := fun W hb => h.kept hb
  have HOK : Hid (∀ x ∈ L, x.ok) := h.2
  have HTB : Hid (Tb w) := ht
  have hn : L.length ≤ 200 := by omega
  obtain ⟨n, hn'⟩ : ∃ n, n = L.length := ⟨_, rfl⟩
  have HN : Hid (n = L.length) := hn'
  have HTL : Hid (∀ k, k ≤ n → (L.take k).length = k) := fun k hk => by rw [List.length_take, ← hn']; omega
  have hw0 := hW0.symm
  have hw1 := hW1.symm
  have hz0 : Hid (W0.heap.size = w.heap.size + 1) := z0
  rw [← hn'] at h2 hn HRS d0 ⊢
  clear h ht h3 h4 hn' hW0 b0 g0 h200 hq3 hW1 b1 g1 z0
  go_enter Tryd.func4, Tryd.ntmps4
  go_wp2_with fail
  try rw [hw0]
  try rw [hw1]
  try rw [hz0.out]
  clear hw0 hw1
  go_loopw [5, 8] (fun s5 z wr => ∃ j : Nat, j ≤ n ∧ z = .int .i64 j ∧ ∃ t v1 v2, PL w L j s5 t v1 t v2 wr) (fun _ z _ => n - (intOf z).toNat)
  case atStart => exact ⟨0, by omega, rfl, _, _, _, HV0.out⟩
  case round =>
    obtain ⟨j, hj, rfl, s, v1, v2, pl⟩ := hrel
    have HL0 : Hid (PL w L j u5 s v1 s v2 wr) := pl
    have HB : Hid (Below w.heap.size w wr) := pl.bel
    obtain ⟨a5, c5, rfl, -, -, -⟩ := pl.a.is.shape
    rw [HTL.out j hj] at HL0 ⊢
    clear pl HV0
    by_cases hlt : j < n
    · have lt2 : (j : Int) < (n : Int) := by omega
      have lt3 : (0 : Int) ≤ (j : Int) := by omega
      have HJL : Hid (j < L.length) := by unfold Hid; rw [← HN.out]; exact hlt
      obtain ⟨b, off, rfl, hr⟩ := (HRS.out wr HB.out).at j HJL.out
      have hx : (atR L j).ok := Rc.at L HOK.out j
      have FX : Hid (∀ W, From w W → W.rangeAt b (off + j * 37) (atR L j).cells) := fun W hb => by
        obtain ⟨b', off', e', hr'⟩ := (HRS.out W hb).at j HJL.out
        cases e'
        exact hr'
      have HNX : Hid (∀ W W' v', PL w L j (.slice a5 j c5) s v1 s v2 W → (atR L j).x.i ≤ 2199023255552 → W.grownBy W' (Value.slice a5 j c5).ownBlock → RR W' w.heap.size v' (L.take j ++ [atR L j]) → PL w L (j + 1) v' s v1 s v2 W') := fun W W' v' h1 h2 h3 h4 => h1.next HJL.out h2 h3 h4
      generalize atR L j = x at *
      obtain ⟨-, k1, k2, -, -, -⟩ := rcC hr hx
      by_cases h300 : 300 < x.x.p.size
      · have d3 : decide ((300 : Int) < (x.x.p.size : Int)) = true := by simp; omega
        have aw := HAW.out wr HB.out
        clear hr hx HAW
        go_wp2_with fail
        refine aw.mono ?_
        rintro e w1 ⟨rfl, b1⟩
        have B1 : Hid (Below w.heap.size w w1) := HB.out.trans (b1.mono HB.out.size)
        clear aw b1
        go_wp2
        go_ret
        exact ⟨rfl, B1.out⟩
      by_cases h41 : 2199023255552 < x.x.i
      · have d3 : decide ((300 : Int) < (x.x.p.size : Int)) = false := by simp; omega
        have d4 : decide (2199023255552 < x.x.i) = true := by simpa using h41
        have aw := HAW.out wr HB.out
        clear hr hx HAW
        go_wp2_with fail
        refine aw.mono ?_
        rintro e w1 ⟨rfl, b1⟩
        have B1 : Hid (Below w.heap.size w w1) := HB.out.trans (b1.mono HB.out.size)
        clear aw b1
        go_wp2
        go_ret
        exact ⟨rfl, B1.out⟩
      · have d3 : decide ((300 : Int) < (x.x.p.size : Int)) = false := by simp; omega
        have d4 : decide (2199023255552 < x.x.i) = false := by simpa using h41
        have HXI : Hid (x.x.i ≤ 2199023255552) := by unfold Hid; omega
        have co := own_any x wr hx
        have RN : Hid (wr.rangeAt b (off + j * 37) x.cells) := hr
        have ZQ : Hid ((Tryd.prog.info? 25).map (·.size) = some x.cells.length) := by unfold Hid; rw [Rc.len hx]; kernel_rfl
        have HXO : Hid x.ok := hx
        unfold Rc.val at co
        clear hr hx h41 h300
        go_wp2_with (refine wpList_load_mid rfl 25 _ rfl b (off + j * 37) rfl x.cells _ RN.out Tryd.underlying25 rfl ZQ.out ?_)
        refine co.mono ?_
        rintro e w1 ⟨rfl, b1⟩
        have L1 : Hid (PL w L j (.slice a5 j c5) s v1 s v2 w1) := HL0.out.kept b1
        clear co b1 HL0 k1 k2 d3 d4 HB
        obtain ⟨W2, hW2⟩ : ∃ W2, W2 = w1.alloc (.cells x.cells.toArray 33) := ⟨_, rfl⟩
        have b2 : Below w1.heap.size w1 W2 := by rw [hW2]; exact al_below _ _
        have K2 : Hid (W2.rangeAt w1.heap.size 0 x.cells) := by unfold Hid; rw [hW2]; exact blk_range (heap_alloc_new _ _)
        have L2 : Hid (PL w L j (.slice a5 j c5) s v1 s v2 W2) := L1.out.kept b2
        have hw2 := hW2.symm
        clear hW2 b2 L1
        go_wp2_with (refine wpList_bsR rfl _ rfl x HXO.out rfl (Hid.out ?_))
        unfold Hid
        try rw [hw2]
        clear hw2
        have HTJ : Hid ((L.take j).length ≤ 200) := by unfold Hid; rw [HTL.out j hj]; omega
        go_wp2_with (at_builtin; refine wpList_append_it rfl _ _ 40 33 37 80 rc0.val rfl Tryd.underlying40 infoR (by simp [Rc.val, Value.cells, Rc.len rc0_ok]) (by decide) (by decide) w.heap.size _ ((L.take j).map Rc.cells) rfl L2.out.a.1 w1.heap.size x.cells 1 (Rc.len HXO.out) x.one rfl K2.out (by rw [List.length_map]; have := HTJ.out; omega) L2.out.bel.size (Hid.out ?_))
        unfold Hid
        intro v5 w2 o5 gr5
        try rw [show List.take j (List.map Rc.cells L) = List.map Rc.cells (List.take j L) by simp] at o5
        have r5 := L2.out.a.one HXO.out o5
        obtain ⟨a6, c6, rfl, -, -, -⟩ := r5.is.shape
        have L3 := HNX.out W2 w2 _ L2.out HXI.out gr5 r5
        rw [List.length_append, HTL.out j hj, List.length_singleton] at L3 ⊢
        have PL3 : Hid (PL w L (j + 1) (.slice a6 (j + 1) c6) s v1 s v2 w2) := L3
        clear o5 gr5 r5 L2 K2 L3 HNX HTJ RN
        have CO : Hid (∀ W, Calls Tryd.prog 7 #[.agg x.cells.toArray] W fun e w' => e = .returned (.agg x.cells.toArray) ∧ Below W.heap.size W w') := fun W => own_any x W HXO.out
        have CS : Hid (∀ W, Below w2.heap.size w2 W → Calls Tryd.prog 10 #[.agg #[v1, .int .i64 s.n], .agg x.cells.toArray] W fun e w' => ∃ v', e = .returned (.tuple #[SVal v' ((step s x).getD s), .bool (step s x).isSome]) ∧ RP w' W.heap.size v' ((step s x).getD s).l ∧ Below W.heap.size W w') := fun W hb => step_any v1 s x W (PL3.out.p1.below hb).is HXO.out (by have := HXI.out; omega) (by have := PL3.out.ris.ln; omega)
        have CSq : Hid (∀ W, Below w2.heap.size w2 W → Calls Tryd.prog 11 #[.agg #[v2, .int .i64 s.n], .agg x.cells.toArray] W fun e w' => ∃ v', e = .returned (.tuple #[SVal v' ((step s x).getD s), .bool (step s x).isSome]) ∧ RPq w' w.heap.size v' ((step s x).getD s).l ∧ Below W.heap.size W w') := fun W hb => rstep_any w.heap.size v2 s x W (PL3.out.p2.below hb) (PL3.out.bel.trans (hb.mono PL3.out.bel.size)).size PL3.out.ris HXO.out HXI.out
        have HRT : Hid (Ris ((step s x).getD s)) := ris_getD PL3.out.ris HXO.out HXI.out
        generalize (step s x).getD s = t at *
        generalize (step s x).isSome = sb at *
        obtain ⟨va, vc, rfl, -, -, -⟩ := PL3.out.p1.is.shape
        obtain ⟨vd, ve, rfl, -, -, -⟩ := PL3.out.p2.is.shape
        generalize s.l.length = sn at *
        have FK : Hid (∀ W, From w2 W → W.cell? ⟨w.heap.size, 0, none⟩ = some (.slice va sn vc) ∧ W.cell? ⟨w.heap.size, 1, none⟩ = some (.int .i64 s.n)) := fun W hb => by
          have g := (PL3.out.kept hb).g1
          exact ⟨by simp [World.cell?, g], by simp [World.cell?, g]⟩
        have FK7 : Hid (∀ W, From w2 W → W.cell? ⟨w.heap.size + 1, 0, none⟩ = some (.slice vd sn ve) ∧ W.cell? ⟨w.heap.size + 1, 1, none⟩ = some (.int .i64 s.n)) := fun W hb => by
          have g := (PL3.out.kept hb).g2
          exact ⟨by simp [World.cell?, g], by simp [World.cell?, g]⟩
        have FR : Hid (∀ W, From w2 W → W.rangeAt b (off + j * 37) x.cells) := fun W hb => FX.out W (PL3.out.bel.trans (Below.mono hb PL3.out.bel.size))
        clear FX
        go_wp2_with fail
        go_cut [9, 10] (fun s5 s6 wx => ∃ g v', s5 = .pointer (some ⟨g, 0, none⟩) ∧ s6 = .bool sb ∧ wx.heap[g]? = some (.cells #[v', .int .i64 t.n] 43 (0, 0)) ∧ w2.heap.size ≤ g ∧ RP wx w2.heap.size v' t.l ∧ From w2 wx)
        case first =>
          refine wp_region_held_drew (S := From w2) (by kernel_rfl) (Below.drew (Below.refl _ _)) (fun _ => ?_)
          refine wpAnyH_name (fun u0 hu0 => ?_)
          have bu0 : Below w2.heap.size w2 u0 := by rw [hu0.out]; exact Below.drew (Below.refl _ _)
          refine wpAnyH_take (i := 0) (oi := { dst := some 61, op := Op.load 43 (Operand.tmp 6), type := 43, pos := "law.go:92", after := #[], guard := none }) (v := .agg #[.slice va sn vc, .int .i64 s.n]) rfl (by kernel_rfl) (by kernel_rfl) (by kernel_rfl) (fun _ _ _ h => h) (Or.inl ⟨by rfl, ?yr1⟩) bu0 ?rr1
          case yr1 => (intro w hSw; obtain ⟨t0, t1⟩ := FK.out w hSw; go_simp; try with_reducible rfl)
          try simp only [Act.put, List.setIfInBounds_toArray, List.set_cons_zero, List.set_cons_succ]
          refine wpAnyH_take (i := 1) (oi := { dst := some 62, op := Op.move (Operand.tmp 0), type := 39, pos := "law.go:92", after := #[], guard := none }) (v := ?vr2) rfl (by kernel_rfl) (by kernel_rfl) (by kernel_rfl) (fun _ _ _ h => h) (Or.inl ⟨by rfl, ?yr2⟩) bu0 ?rr2
          case yr2 => (intro w hSw; go_simp; try with_reducible rfl)
          try simp only [Act.put, List.setIfInBounds_toArray, List.set_cons_zero, List.set_cons_succ]
          refine wpAnyH_take (i := 2) (oi := { dst := some 63, op := Op.move (Operand.tmp 8), type := 3, pos := "law.go:92", after := #[], guard := none }) (v := ?vr3) rfl (by kernel_rfl) (by kernel_rfl) (by kernel_rfl) (fun _ _ _ h => h) (Or.inl ⟨by rfl, ?yr3⟩) bu0 ?rr3
          case yr3 => (intro w hSw; go_simp; try with_reducible rfl)
          try simp only [Act.put, List.setIfInBounds_toArray, List.set_cons_zero, List.set_cons_succ]
          refine wpAnyH_take (i := 3) (oi := { dst := some 64, op := Op.indexAddr 39 (Operand.tmp 62) (Operand.tmp 63), type := 0, pos := "law.go:92", after := #[{ on := 1, ground := Ground.data }, { on := 2, ground := Ground.data }], guard := none }) (v := ?vr4) rfl (by kernel_rfl) (by kernel_rfl) (by kernel_rfl) (fun _ _ _ h => h) (Or.inl ⟨by rfl, ?yr4⟩) bu0 ?rr4
          case yr4 => (intro w hSw; go_simp; try with_reducible rfl)
          try simp only [Act.put, List.setIfInBounds_toArray, List.set_cons_zero, List.set_cons_succ]
          refine wpAnyH_take (i := 4) (oi := { dst := some 65, op := Op.load 25 (Operand.tmp 64), type := 25, pos := "law.go:92", after := #[{ on := 3, ground := Ground.data }], guard := none }) (v := .agg x.cells.toArray) rfl (by kernel_rfl) (by kernel_rfl) (by kernel_rfl) (fun _ _ _ h => h) (yieldsIf_load_mid (by rfl) 25 _ rfl b (off + j * 37) rfl x.cells _ (fun w hw => FR.out w hw) Tryd.underlying25 rfl ZQ.out) bu0 ?_
          try simp only [Act.put, List.setIfInBounds_toArray, List.set_cons_zero, List.set_cons_succ]
          refine wpAnyH_ready (rs := [5, 10]) (by kernel_rfl) (by simp) ?_
          refine AllReadyH.cons (o := { dst := some 66, op := Op.call { callee := Callee.value (Operand.func 7), args := #[Operand.tmp 65], argTypes := #[25] }, type := 33, pos := "law.go:92", after := #[{ on := 4, ground := Ground.data }], guard := none }) rfl (fun KK hKK => ?_) ?_
          · go_simp
            refine (CO.out _).mono ?_
            rintro e u6' ⟨rfl, bu6'⟩
            (try go_wp2_with fail)
            refine hKK.out _ _ (bu0.trans (Below.mono (bu6') bu0.size)) (fun _ => ?_)
            clear hKK KK
            try simp only [Act.put, List.setIfInBounds_toArray, List.set_cons_zero, List.set_cons_succ]
            refine wpAnyH_name (fun u6 hu6 => ?_)
            have bu6 : Below w2.heap.size w2 u6 := by rw [hu6.out]; exact (bu0.trans (Below.mono (bu6') bu0.size))
            try have Gu6 := blk_kept Gu0 bu6' (blk_lt Gu0)
            try rw [← hu6.out] at Gu6
            refine wpAnyH_ready (rs := [6, 10]) (by kernel_rfl) (by simp) ?_
            refine AllReadyH.cons (o := { dst := some 67, op := Op.call { callee := Callee.value (Operand.func 10), args := #[Operand.tmp 61, Operand.tmp 66], argTypes := #[43, 33] }, type := 47, pos := "law.go:92", after := #[{ on := 0, ground := Ground.data }, { on := 5, ground := Ground.data }, { on := 5, ground := Ground.chain }], guard := none }) rfl (fun KK hKK => ?_) ?_
            · go_simp
              refine (CS.out _ bu6).mono ?_
              rintro e u7' ⟨v9, rfl, ou7, bu7'⟩
              obtain ⟨ta, tc, rfl, -, -, -⟩ := ou7.is.shape
              unfold SVal
              (try go_wp2_with fail)
              refine hKK.out _ _ (bu6.trans (Below.mono (bu7') bu6.size)) (fun _ => ?_)
              clear hKK KK
              try simp only [Act.put, List.setIfInBounds_toArray, List.set_cons_zero, List.set_cons_succ]
              refine wpAnyH_name (fun u7 hu7 => ?_)
              have bu7 : Below w2.heap.size w2 u7 := by rw [hu7.out]; exact (bu6.trans (Below.mono (bu7') bu6.size))
              have Pu7 : RP u7 w2.heap.size (.slice ta t.l.length tc) t.l := by rw [hu7.out]; exact ou7.mono bu6.size
              try have Gu7 := blk_kept Gu6 bu7' (blk_lt Gu6)
              try rw [← hu7.out] at Gu7
              refine wpAnyH_take (i := 7) (oi := { dst := some 60, op := Op.move (Operand.tmp 67), type := 47, pos := "law.go:92", after := #[{ on := 6, ground := Ground.data }], guard := none }) (v := ?vr8) rfl (by kernel_rfl) (by kernel_rfl) (by kernel_rfl) (fun _ _ _ h => h) (Or.inl ⟨by rfl, ?yr8⟩) bu7 ?rr8
              case yr8 => (intro w hSw; go_simp; try with_reducible rfl)
              try simp only [Act.put, List.setIfInBounds_toArray, List.set_cons_zero, List.set_cons_succ]
              refine wpAnyH_take (i := 8) (oi := { dst := some 68, op := Op.extract (Operand.tmp 60) 0, type := 43, pos := "law.go:92", after := #[{ on := 7, ground := Ground.data }], guard := none }) (v := ?vr9) rfl (by kernel_rfl) (by kernel_rfl) (by kernel_rfl) (fun _ _ _ h => h) (Or.inl ⟨by rfl, ?yr9⟩) bu7 ?rr9
              case yr9 => (intro w hSw; go_simp; try with_reducible rfl)
              try simp only [Act.put, List.setIfInBounds_toArray, List.set_cons_zero, List.set_cons_succ]
              refine wpAnyH_take (i := 9) (oi := { dst := some 69, op := Op.extract (Operand.tmp 60) 1, type := 4, pos := "law.go:92", after := #[{ on := 7, ground := Ground.data }, { on := 11, ground := Ground.gcOnly Departure.lateStores }], guard := none }) (v := ?vr10) rfl (by kernel_rfl) (by kernel_rfl) (by kernel_rfl) (fun _ _ _ h => h) (Or.inl ⟨by rfl, ?yr10⟩) bu7 ?rr10
              case yr10 => (intro w hSw; go_simp; try with_reducible rfl)
              try simp only [Act.put, List.setIfInBounds_toArray, List.set_cons_zero, List.set_cons_succ]
              refine wpAnyH_ready (rs := [10]) (by kernel_rfl) (by simp) ?_
              refine AllReadyH.cons (o := { dst := some 9, op := Op.alloc 43, type := 0, pos := "law.go:92", after := #[], guard := none }) rfl (fun KK hKK => ?_) ?_
              · go_simp
                refine hKK.out _ _ (bu7.trans ((al_below _ _).mono bu7.size)) (fun _ => ?_)
                clear hKK KK
                try simp only [Act.put, List.setIfInBounds_toArray, List.set_cons_zero, List.set_cons_succ]
                refine wpAnyH_name (fun u11 hu11 => ?_)
                have bu11 : Below w2.heap.size w2 u11 := by rw [hu11.out]; exact (bu7.trans ((al_below _ _).mono bu7.size))
                have Gu11 : u11.heap[u7.heap.size]? = some (.cells #[.slice none 0 0, .int .i64 0] 43 (0, 0)) := by rw [hu11.out]; exact new_st u7
                try have Pu11 := Pu7.below (al_below _ (.cells #[.slice none 0 0, .int .i64 0] 43))
                try rw [← hu11.out] at Pu11
                refine wpAnyH_ready (rs := [11]) (by kernel_rfl) (by simp) ?_
                refine AllReadyH.cons (o := { dst := none, op := Op.store 43 (Operand.tmp 9) (Operand.tmp 68), type := 0, pos := "law.go:92", after := #[{ on := 10, ground := Ground.data }, { on := 8, ground := Ground.data }, { on := 6, ground := Ground.chain }, { on := 0, ground := Ground.phase }, { on := 1, ground := Ground.phase }, { on := 2, ground := Ground.phase }, { on := 3, ground := Ground.phase }, { on := 4, ground := Ground.phase }, { on := 5, ground := Ground.phase }, { on := 6, ground := Ground.phase }, { on := 7, ground := Ground.phase }, { on := 8, ground := Ground.phase }, { on := 9, ground := Ground.textOnly Departure.lateStores }, { on := 10, ground := Ground.phase }], guard := none }) rfl (fun KK hKK => ?_) ?_
                · refine wp_store_row 43 _ _ rfl u7.heap.size #[.slice ta t.l.length tc, .int .i64 t.n] rfl rfl 43 #[.slice none 0 0, .int .i64 0] Gu11 sizeT rfl (st_ones _ _ _ _) ?_
                  refine hKK.out _ _ (below_setRow bu11 bu7.size _) (fun _ => ?_)
                  clear hKK KK
                  try simp only [Act.put]
                  refine wpAnyH_name (fun u12 hu12 => ?_)
                  have bu12 : Below w2.heap.size w2 u12 := by rw [hu12.out]; exact (below_setRow bu11 bu7.size _)
                  have Zu12 := setRow_heap _ _ _ #[.slice ta t.l.length tc, .int .i64 t.n] _ _ Gu11
                  rw [← hu12.out] at Zu12
                  have Yu12 := Pu11.setRow u7.heap.size #[.slice ta t.l.length tc, .int .i64 t.n] Gu11
                  rw [← hu12.out] at Yu12
                  refine wpAnyH_take (i := 12) (oi := { dst := some 10, op := Op.assign (Operand.tmp 69), type := 4, pos := "law.go:92", after := #[{ on := 9, ground := Ground.data }, { on := 11, ground := Ground.chain }, { on := 0, ground := Ground.phase }, { on := 1, ground := Ground.phase }, { on := 2, ground := Ground.phase }, { on := 3, ground := Ground.phase }, { on := 4, ground := Ground.phase }, { on := 5, ground := Ground.phase }, { on := 6, ground := Ground.phase }, { on := 7, ground := Ground.phase }, { on := 8, ground := Ground.phase }, { on := 9, ground := Ground.phase }, { on := 10, ground := Ground.phase }, { on := 11, ground := Ground.phase }], guard := none }) (v := ?vr13) rfl (by kernel_rfl) (by kernel_rfl) (by kernel_rfl) (fun _ _ _ h => h) (Or.inl ⟨by rfl, ?yr13⟩) bu12 ?rr13
                  case yr13 => (intro w hSw; go_simp; try with_reducible rfl)
                  try simp only [Act.put, List.setIfInBounds_toArray, List.set_cons_zero, List.set_cons_succ]
                  refine wpAnyH_done (by kernel_rfl) ?_ _
                  have HZ : Hid (u12.heap[u7.heap.size]? = some (.cells #[.slice ta t.l.length tc, .int .i64 t.n] 43 (0, 0)) ∧ RP u12 w2.heap.size (.slice ta t.l.length tc) t.l ∧ From w2 u12) := ⟨Zu12, Yu12, bu12⟩
                  have HZG : Hid (w2.heap.size ≤ u7.heap.size) := bu7.size
                  clear FK FR CO CS
                  go_wp2_with fail
                  go_meet
                  exact ⟨_, _, rfl, rfl, HZ.out.1, HZG.out, HZ.out.2.1, HZ.out.2.2⟩
                exact AllReadyH.nil
              exact AllReadyH.nil
            refine AllReadyH.cons (o := { dst := some 9, op := Op.alloc 43, type := 0, pos := "law.go:92", after := #[], guard := none }) rfl (fun KK hKK => ?_) ?_
            · go_simp
              refine hKK.out _ _ (bu6.trans ((al_below _ _).mono bu6.size)) (fun _ => ?_)
              clear hKK KK
              try simp only [Act.put, List.setIfInBounds_toArray, List.set_cons_zero, List.set_cons_succ]
              refine wpAnyH_name (fun u14 hu14 => ?_)
              have bu14 : Below w2.heap.size w2 u14 := by rw [hu14.out]; exact (bu6.trans ((al_below _ _).mono bu6.size))
              have Gu14 : u14.heap[u6.heap.size]? = some (.cells #[.slice none 0 0, .int .i64 0] 43 (0, 0)) := by rw [hu14.out]; exact new_st u6
              try have Pu14 := Pu6.below (al_below _ (.cells #[.slice none 0 0, .int .i64 0] 43))
              try rw [← hu14.out] at Pu14
              refine wpAnyH_ready (rs := [6]) (by kernel_rfl) (by simp) ?_
              refine AllReadyH.cons (o := { dst := some 67, op := Op.call { callee := Callee.value (Operand.func 10), args := #[Operand.tmp 61, Operand.tmp 66], argTypes := #[43, 33] }, type := 47, pos := "law.go:92", after := #[{ on := 0, ground := Ground.data }, { on := 5, ground := Ground.data }, { on := 5, ground := Ground.chain }], guard := none }) rfl (fun KK hKK => ?_) ?_
              · go_simp
                refine (CS.out _ bu14).mono ?_
                rintro e u15' ⟨v9, rfl, ou15, bu15'⟩
                obtain ⟨ta, tc, rfl, -, -, -⟩ := ou15.is.shape
                unfold SVal
                (try go_wp2_with fail)
                refine hKK.out _ _ (bu14.trans (Below.mono (bu15') bu14.size)) (fun _ => ?_)
                clear hKK KK
                try simp only [Act.put, List.setIfInBounds_toArray, List.set_cons_zero, List.set_cons_succ]
                refine wpAnyH_name (fun u15 hu15 => ?_)
                have bu15 : Below w2.heap.size w2 u15 := by rw [hu15.out]; exact (bu14.trans (Below.mono (bu15') bu14.size))
                have Pu15 : RP u15 w2.heap.size (.slice ta t.l.length tc) t.l := by rw [hu15.out]; exact ou15.mono bu14.size
                try have Gu15 := blk_kept Gu14 bu15' (blk_lt Gu14)
                try rw [← hu15.out] at Gu15
                refine wpAnyH_take (i := 7) (oi := { dst := some 60, op := Op.move (Operand.tmp 67), type := 47, pos := "law.go:92", after := #[{ on := 6, ground := Ground.data }], guard := none }) (v := ?vr16) rfl (by kernel_rfl) (by kernel_rfl) (by kernel_rfl) (fun _ _ _ h => h) (Or.inl ⟨by rfl, ?yr16⟩) bu15 ?rr16
                case yr16 => (intro w hSw; go_simp; try with_reducible rfl)
                try simp only [Act.put, List.setIfInBounds_toArray, List.set_cons_zero, List.set_cons_succ]
                refine wpAnyH_take (i := 8) (oi := { dst := some 68, op := Op.extract (Operand.tmp 60) 0, type := 43, pos := "law.go:92", after := #[{ on := 7, ground := Ground.data }], guard := none }) (v := ?vr17) rfl (by kernel_rfl) (by kernel_rfl) (by kernel_rfl) (fun _ _ _ h => h) (Or.inl ⟨by rfl, ?yr17⟩) bu15 ?rr17
                case yr17 => (intro w hSw; go_simp; try with_reducible rfl)
                try simp only [Act.put, List.setIfInBounds_toArray, List.set_cons_zero, List.set_cons_succ]
                refine wpAnyH_take (i := 9) (oi := { dst := some 69, op := Op.extract (Operand.tmp 60) 1, type := 4, pos := "law.go:92", after := #[{ on := 7, ground := Ground.data }, { on := 11, ground := Ground.gcOnly Departure.lateStores }], guard := none }) (v := ?vr18) rfl (by kernel_rfl) (by kernel_rfl) (by kernel_rfl) (fun _ _ _ h => h) (Or.inl ⟨by rfl, ?yr18⟩) bu15 ?rr18
                case yr18 => (intro w hSw; go_simp; try with_reducible rfl)
                try simp only [Act.put, List.setIfInBounds_toArray, List.set_cons_zero, List.set_cons_succ]
                refine wpAnyH_ready (rs := [11]) (by kernel_rfl) (by simp) ?_
                refine AllReadyH.cons (o := { dst := none, op := Op.store 43 (Operand.tmp 9) (Operand.tmp 68), type := 0, pos := "law.go:92", after := #[{ on := 10, ground := Ground.data }, { on := 8, ground := Ground.data }, { on := 6, ground := Ground.chain }, { on := 0, ground := Ground.phase }, { on := 1, ground := Ground.phase }, { on := 2, ground := Ground.phase }, { on := 3, ground := Ground.phase }, { on := 4, ground := Ground.phase }, { on := 5, ground := Ground.phase }, { on := 6, ground := Ground.phase }, { on := 7, ground := Ground.phase }, { on := 8, ground := Ground.phase }, { on := 9, ground := Ground.textOnly Departure.lateStores }, { on := 10, ground := Ground.phase }], guard := none }) rfl (fun KK hKK => ?_) ?_
                · refine wp_store_row 43 _ _ rfl u6.heap.size #[.slice ta t.l.length tc, .int .i64 t.n] rfl rfl 43 #[.slice none 0 0, .int .i64 0] Gu15 sizeT rfl (st_ones _ _ _ _) ?_
                  refine hKK.out _ _ (below_setRow bu15 bu6.size _) (fun _ => ?_)
                  clear hKK KK
                  try simp only [Act.put]
                  refine wpAnyH_name (fun u19 hu19 => ?_)
                  have bu19 : Below w2.heap.size w2 u19 := by rw [hu19.out]; exact (below_setRow bu15 bu6.size _)
                  have Zu19 := setRow_heap _ _ _ #[.slice ta t.l.length tc, .int .i64 t.n] _ _ Gu15
                  rw [← hu19.out] at Zu19
                  have Yu19 := Pu15.setRow u6.heap.size #[.slice ta t.l.length tc, .int .i64 t.n] Gu15
                  rw [← hu19.out] at Yu19
                  refine wpAnyH_take (i := 12) (oi := { dst := some 10, op := Op.assign (Operand.tmp 69), type := 4, pos := "law.go:92", after := #[{ on := 9, ground := Ground.data }, { on := 11, ground := Ground.chain }, { on := 0, ground := Ground.phase }, { on := 1, ground := Ground.phase }, { on := 2, ground := Ground.phase }, { on := 3, ground := Ground.phase }, { on := 4, ground := Ground.phase }, { on := 5, ground := Ground.phase }, { on := 6, ground := Ground.phase }, { on := 7, ground := Ground.phase }, { on := 8, ground := Ground.phase }, { on := 9, ground := Ground.phase }, { on := 10, ground := Ground.phase }, { on := 11, ground := Ground.phase }], guard := none }) (v := ?vr20) rfl (by kernel_rfl) (by kernel_rfl) (by kernel_rfl) (fun _ _ _ h => h) (Or.inl ⟨by rfl, ?yr20⟩) bu19 ?rr20
                  case yr20 => (intro w hSw; go_simp; try with_reducible rfl)
                  try simp only [Act.put, List.setIfInBounds_toArray, List.set_cons_zero, List.set_cons_succ]
                  refine wpAnyH_done (by kernel_rfl) ?_ _
                  have HZ : Hid (u19.heap[u6.heap.size]? = some (.cells #[.slice ta t.l.length tc, .int .i64 t.n] 43 (0, 0)) ∧ RP u19 w2.heap.size (.slice ta t.l.length tc) t.l ∧ From w2 u19) := ⟨Zu19, Yu19, bu19⟩
                  have HZG : Hid (w2.heap.size ≤ u6.heap.size) := bu6.size
                  clear FK FR CO CS
                  go_wp2_with fail
                  go_meet
                  exact ⟨_, _, rfl, rfl, HZ.out.1, HZG.out, HZ.out.2.1, HZ.out.2.2⟩
                exact AllReadyH.nil
              exact AllReadyH.nil
            exact AllReadyH.nil
          refine AllReadyH.cons (o := { dst := some 9, op := Op.alloc 43, type := 0, pos := "law.go:92", after := #[], guard := none }) rfl (fun KK hKK => ?_) ?_
          · go_simp
            refine hKK.out _ _ (bu0.trans ((al_below _ _).mono bu0.size)) (fun _ => ?_)
            clear hKK KK
            try simp only [Act.put, List.setIfInBounds_toArray, List.set_cons_zero, List.set_cons_succ]
            refine wpAnyH_name (fun u21 hu21 => ?_)
            have bu21 : Below w2.heap.size w2 u21 := by rw [hu21.out]; exact (bu0.trans ((al_below _ _).mono bu0.size))
            have Gu21 : u21.heap[u0.heap.size]? = some (.cells #[.slice none 0 0, .int .i64 0] 43 (0, 0)) := by rw [hu21.out]; exact new_st u0
            try have Pu21 := Pu0.below (al_below _ (.cells #[.slice none 0 0, .int .i64 0] 43))
            try rw [← hu21.out] at Pu21
            refine wpAnyH_ready (rs := [5]) (by kernel_rfl) (by simp) ?_
            refine AllReadyH.cons (o := { dst := some 66, op := Op.call { callee := Callee.value (Operand.func 7), args := #[Operand.tmp 65], argTypes := #[25] }, type := 33, pos := "law.go:92", after := #[{ on := 4, ground := Ground.data }], guard := none }) rfl (fun KK hKK => ?_) ?_
            · go_simp
              refine (CO.out _).mono ?_
              rintro e u22' ⟨rfl, bu22'⟩
              (try go_wp2_with fail)
              refine hKK.out _ _ (bu21.trans (Below.mono (bu22') bu21.size)) (fun _ => ?_)
              clear hKK KK
              try simp only [Act.put, List.setIfInBounds_toArray, List.set_cons_zero, List.set_cons_succ]
              refine wpAnyH_name (fun u22 hu22 => ?_)
              have bu22 : Below w2.heap.size w2 u22 := by rw [hu22.out]; exact (bu21.trans (Below.mono (bu22') bu21.size))
              try have Gu22 := blk_kept Gu21 bu22' (blk_lt Gu21)
              try rw [← hu22.out] at Gu22
              refine wpAnyH_ready (rs := [6]) (by kernel_rfl) (by simp) ?_
              refine AllReadyH.cons (o := { dst := some 67, op := Op.call { callee := Callee.value (Operand.func 10), args := #[Operand.tmp 61, Operand.tmp 66], argTypes := #[43, 33] }, type := 47, pos := "law.go:92", after := #[{ on := 0, ground := Ground.data }, { on := 5, ground := Ground.data }, { on := 5, ground := Ground.chain }], guard := none }) rfl (fun KK hKK => ?_) ?_
              · go_simp
                refine (CS.out _ bu22).mono ?_
                rintro e u23' ⟨v9, rfl, ou23, bu23'⟩
                obtain ⟨ta, tc, rfl, -, -, -⟩ := ou23.is.shape
                unfold SVal
                (try go_wp2_with fail)
                refine hKK.out _ _ (bu22.trans (Below.mono (bu23') bu22.size)) (fun _ => ?_)
                clear hKK KK
                try simp only [Act.put, List.setIfInBounds_toArray, List.set_cons_zero, List.set_cons_succ]
                refine wpAnyH_name (fun u23 hu23 => ?_)
                have bu23 : Below w2.heap.size w2 u23 := by rw [hu23.out]; exact (bu22.trans (Below.mono (bu23') bu22.size))
                have Pu23 : RP u23 w2.heap.size (.slice ta t.l.length tc) t.l := by rw [hu23.out]; exact ou23.mono bu22.size
                try have Gu23 := blk_kept Gu22 bu23' (blk_lt Gu22)
                try rw [← hu23.out] at Gu23
                refine wpAnyH_take (i := 7) (oi := { dst := some 60, op := Op.move (Operand.tmp 67), type := 47, pos := "law.go:92", after := #[{ on := 6, ground := Ground.data }], guard := none }) (v := ?vr24) rfl (by kernel_rfl) (by kernel_rfl) (by kernel_rfl) (fun _ _ _ h => h) (Or.inl ⟨by rfl, ?yr24⟩) bu23 ?rr24
                case yr24 => (intro w hSw; go_simp; try with_reducible rfl)
                try simp only [Act.put, List.setIfInBounds_toArray, List.set_cons_zero, List.set_cons_succ]
                refine wpAnyH_take (i := 8) (oi := { dst := some 68, op := Op.extract (Operand.tmp 60) 0, type := 43, pos := "law.go:92", after := #[{ on := 7, ground := Ground.data }], guard := none }) (v := ?vr25) rfl (by kernel_rfl) (by kernel_rfl) (by kernel_rfl) (fun _ _ _ h => h) (Or.inl ⟨by rfl, ?yr25⟩) bu23 ?rr25
                case yr25 => (intro w hSw; go_simp; try with_reducible rfl)
                try simp only [Act.put, List.setIfInBounds_toArray, List.set_cons_zero, List.set_cons_succ]
                refine wpAnyH_take (i := 9) (oi := { dst := some 69, op := Op.extract (Operand.tmp 60) 1, type := 4, pos := "law.go:92", after := #[{ on := 7, ground := Ground.data }, { on := 11, ground := Ground.gcOnly Departure.lateStores }], guard := none }) (v := ?vr26) rfl (by kernel_rfl) (by kernel_rfl) (by kernel_rfl) (fun _ _ _ h => h) (Or.inl ⟨by rfl, ?yr26⟩) bu23 ?rr26
                case yr26 => (intro w hSw; go_simp; try with_reducible rfl)
                try simp only [Act.put, List.setIfInBounds_toArray, List.set_cons_zero, List.set_cons_succ]
                refine wpAnyH_ready (rs := [11]) (by kernel_rfl) (by simp) ?_
                refine AllReadyH.cons (o := { dst := none, op := Op.store 43 (Operand.tmp 9) (Operand.tmp 68), type := 0, pos := "law.go:92", after := #[{ on := 10, ground := Ground.data }, { on := 8, ground := Ground.data }, { on := 6, ground := Ground.chain }, { on := 0, ground := Ground.phase }, { on := 1, ground := Ground.phase }, { on := 2, ground := Ground.phase }, { on := 3, ground := Ground.phase }, { on := 4, ground := Ground.phase }, { on := 5, ground := Ground.phase }, { on := 6, ground := Ground.phase }, { on := 7, ground := Ground.phase }, { on := 8, ground := Ground.phase }, { on := 9, ground := Ground.textOnly Departure.lateStores }, { on := 10, ground := Ground.phase }], guard := none }) rfl (fun KK hKK => ?_) ?_
                · refine wp_store_row 43 _ _ rfl u0.heap.size #[.slice ta t.l.length tc, .int .i64 t.n] rfl rfl 43 #[.slice none 0 0, .int .i64 0] Gu23 sizeT rfl (st_ones _ _ _ _) ?_
                  refine hKK.out _ _ (below_setRow bu23 bu0.size _) (fun _ => ?_)
                  clear hKK KK
                  try simp only [Act.put]
                  refine wpAnyH_name (fun u27 hu27 => ?_)
                  have bu27 : Below w2.heap.size w2 u27 := by rw [hu27.out]; exact (below_setRow bu23 bu0.size _)
                  have Zu27 := setRow_heap _ _ _ #[.slice ta t.l.length tc, .int .i64 t.n] _ _ Gu23
                  rw [← hu27.out] at Zu27
                  have Yu27 := Pu23.setRow u0.heap.size #[.slice ta t.l.length tc, .int .i64 t.n] Gu23
                  rw [← hu27.out] at Yu27
                  refine wpAnyH_take (i := 12) (oi := { dst := some 10, op := Op.assign (Operand.tmp 69), type := 4, pos := "law.go:92", after := #[{ on := 9, ground := Ground.data }, { on := 11, ground := Ground.chain }, { on := 0, ground := Ground.phase }, { on := 1, ground := Ground.phase }, { on := 2, ground := Ground.phase }, { on := 3, ground := Ground.phase }, { on := 4, ground := Ground.phase }, { on := 5, ground := Ground.phase }, { on := 6, ground := Ground.phase }, { on := 7, ground := Ground.phase }, { on := 8, ground := Ground.phase }, { on := 9, ground := Ground.phase }, { on := 10, ground := Ground.phase }, { on := 11, ground := Ground.phase }], guard := none }) (v := ?vr28) rfl (by kernel_rfl) (by kernel_rfl) (by kernel_rfl) (fun _ _ _ h => h) (Or.inl ⟨by rfl, ?yr28⟩) bu27 ?rr28
                  case yr28 => (intro w hSw; go_simp; try with_reducible rfl)
                  try simp only [Act.put, List.setIfInBounds_toArray, List.set_cons_zero, List.set_cons_succ]
                  refine wpAnyH_done (by kernel_rfl) ?_ _
                  have HZ : Hid (u27.heap[u0.heap.size]? = some (.cells #[.slice ta t.l.length tc, .int .i64 t.n] 43 (0, 0)) ∧ RP u27 w2.heap.size (.slice ta t.l.length tc) t.l ∧ From w2 u27) := ⟨Zu27, Yu27, bu27⟩
                  have HZG : Hid (w2.heap.size ≤ u0.heap.size) := bu0.size
                  clear FK FR CO CS
                  go_wp2_with fail
                  go_meet
                  exact ⟨_, _, rfl, rfl, HZ.out.1, HZG.out, HZ.out.2.1, HZ.out.2.2⟩
                exact AllReadyH.nil
              exact AllReadyH.nil
            exact AllReadyH.nil
          exact AllReadyH.nil
        case rest =>
          obtain ⟨g, v', rfl, rfl, hg, hgw, hp, hf⟩ := hcut
          have HGW : Hid (w2.heap.size ≤ g) := hgw
          have HW2 : Hid (w.heap.size + 1 < w2.heap.size ∧ w.heap.size < w2.heap.size) := ⟨blk_lt PL3.out.g2, blk_lt PL3.out.g1⟩
          clear hgw
          obtain ⟨w3, hw3⟩ : ∃ w3, w3 = wc := ⟨_, rfl⟩
          subst hw3
          have HF3 : Hid (From w2 w3) := hf
          have HG3 : Hid (w3.heap[g]? = some (.cells #[v', .int .i64 t.n] 43 (0, 0))) := hg
          have HP3 : Hid (RP w3 w.heap.size v' t.l) := hp.mono PL3.out.bel.size
          clear hg hp hf CS CO FK
          have FK8 : Hid (∀ W, From w3 W → W.cell? ⟨w.heap.size + 1, 0, none⟩ = some (.slice vd sn ve) ∧ W.cell? ⟨w.heap.size + 1, 1, none⟩ = some (.int .i64 s.n)) := fun W hb => FK7.out W (HF3.out.trans (Below.mono hb HF3.out.size))
          have FR8 : Hid (∀ W, From w3 W → W.rangeAt b (off + j * 37) x.cells) := fun W hb => FR.out W (HF3.out.trans (Below.mono hb HF3.out.size))
          have CS8 : Hid (∀ W, Below w3.heap.size w3 W → Calls Tryd.prog 11 #[.agg #[.slice vd sn ve, .int .i64 s.n], .agg x.cells.toArray] W fun e w' => ∃ v', e = .returned (.tuple #[SVal v' t, .bool sb]) ∧ RPq w' w.heap.size v' t.l ∧ Below W.heap.size W w') := fun W hb => CSq.out W (HF3.out.trans (hb.mono HF3.out.size))
          have HWS : Hid (w.heap.size ≤ w3.heap.size) := Nat.le_trans PL3.out.bel.size HF3.out.size
          clear FK7 FR CSq
          go_wp2_with fail
          go_cut [11, 12] (fun s5 s6 wx => ∃ g' v'', s5 = .pointer (some ⟨g', 0, none⟩) ∧ s6 = .bool sb ∧ wx.heap[g']? = some (.cells #[v'', .int .i64 t.n] 46 (0, 0)) ∧ w3.heap.size ≤ g' ∧ RPq wx w.heap.size v'' t.l ∧ From w3 wx)
          case first =>
            refine wp_region_held_drew (S := From w3) (by kernel_rfl) (Below.drew (Below.refl _ _)) (fun _ => ?_)
            refine wpAnyH_name (fun u0 hu0 => ?_)
            have bu0 : Below w3.heap.size w3 u0 := by rw [hu0.out]; exact Below.drew (Below.refl _ _)
            refine wpAnyH_take (i := 0) (oi := { dst := some 71, op := Op.load 46 (Operand.tmp 7), type := 46, pos := "law.go:93", after := #[], guard := none }) (v := .agg #[.slice vd sn ve, .int .i64 s.n]) rfl (by kernel_rfl) (by kernel_rfl) (by kernel_rfl) (fun _ _ _ h => h) (Or.inl ⟨by rfl, ?yq1⟩) bu0 ?rq1
            case yq1 => (intro w hSw; obtain ⟨t0, t1⟩ := FK8.out w hSw; go_simp; try with_reducible rfl)
            try simp only [Act.put, List.setIfInBounds_toArray, List.set_cons_zero, List.set_cons_succ]
            refine wpAnyH_take (i := 1) (oi := { dst := some 72, op := Op.move (Operand.tmp 0), type := 39, pos := "law.go:93", after := #[], guard := none }) (v := ?vq2) rfl (by kernel_rfl) (by kernel_rfl) (by kernel_rfl) (fun _ _ _ h => h) (Or.inl ⟨by rfl, ?yq2⟩) bu0 ?rq2
            case yq2 => (intro w hSw; go_simp; try with_reducible rfl)
            try simp only [Act.put, List.setIfInBounds_toArray, List.set_cons_zero, List.set_cons_succ]
            refine wpAnyH_take (i := 2) (oi := { dst := some 73, op := Op.move (Operand.tmp 8), type := 3, pos := "law.go:93", after := #[], guard := none }) (v := ?vq3) rfl (by kernel_rfl) (by kernel_rfl) (by kernel_rfl) (fun _ _ _ h => h) (Or.inl ⟨by rfl, ?yq3⟩) bu0 ?rq3
            case yq3 => (intro w hSw; go_simp; try with_reducible rfl)
            try simp only [Act.put, List.setIfInBounds_toArray, List.set_cons_zero, List.set_cons_succ]
            refine wpAnyH_take (i := 3) (oi := { dst := some 74, op := Op.indexAddr 39 (Operand.tmp 72) (Operand.tmp 73), type := 0, pos := "law.go:93", after := #[{ on := 1, ground := Ground.data }, { on := 2, ground := Ground.data }], guard := none }) (v := ?vq4) rfl (by kernel_rfl) (by kernel_rfl) (by kernel_rfl) (fun _ _ _ h => h) (Or.inl ⟨by rfl, ?yq4⟩) bu0 ?rq4
            case yq4 => (intro w hSw; go_simp; try with_reducible rfl)
            try simp only [Act.put, List.setIfInBounds_toArray, List.set_cons_zero, List.set_cons_succ]
            refine wpAnyH_take (i := 4) (oi := { dst := some 75, op := Op.load 25 (Operand.tmp 74), type := 25, pos := "law.go:93", after := #[{ on := 3, ground := Ground.data }], guard := none }) (v := .agg x.cells.toArray) rfl (by kernel_rfl) (by kernel_rfl) (by kernel_rfl) (fun _ _ _ h => h) (yieldsIf_load_mid (by rfl) 25 _ rfl b (off + j * 37) rfl x.cells _ (fun w hw => FR8.out w hw) Tryd.underlying25 rfl ZQ.out) bu0 ?_
            try simp only [Act.put, List.setIfInBounds_toArray, List.set_cons_zero, List.set_cons_succ]
            refine wpAnyH_ready (rs := [5, 9]) (by kernel_rfl) (by simp) ?_
            refine AllReadyH.cons (o := { dst := some 76, op := Op.call { callee := Callee.value (Operand.func 11), args := #[Operand.tmp 71, Operand.tmp 75], argTypes := #[46, 25] }, type := 49, pos := "law.go:93", after := #[{ on := 0, ground := Ground.data }, { on := 4, ground := Ground.data }], guard := none }) rfl (fun KK hKK => ?_) ?_
            · go_simp
              refine (CS8.out _ bu0).mono ?_
              rintro e u6' ⟨v9, rfl, ou6, bu6'⟩
              obtain ⟨ta, tc, rfl, -, -, -⟩ := ou6.is.shape
              unfold SVal
              (try go_wp2_with fail)
              refine hKK.out _ _ (bu0.trans (Below.mono (bu6') bu0.size)) (fun _ => ?_)
              clear hKK KK
              try simp only [Act.put, List.setIfInBounds_toArray, List.set_cons_zero, List.set_cons_succ]
              refine wpAnyH_name (fun u6 hu6 => ?_)
              have bu6 : Below w3.heap.size w3 u6 := by rw [hu6.out]; exact (bu0.trans (Below.mono (bu6') bu0.size))
              have Pu6 : RPq u6 w.heap.size (.slice ta t.l.length tc) t.l := by rw [hu6.out]; exact ou6
              try have Gu6 := blk_kept Gu0 bu6' (blk_lt Gu0)
              try rw [← hu6.out] at Gu6
              refine wpAnyH_take (i := 6) (oi := { dst := some 70, op := Op.move (Operand.tmp 76), type := 49, pos := "law.go:93", after := #[{ on := 5, ground := Ground.data }], guard := none }) (v := ?vq7) rfl (by kernel_rfl) (by kernel_rfl) (by kernel_rfl) (fun _ _ _ h => h) (Or.inl ⟨by rfl, ?yq7⟩) bu6 ?rq7
              case yq7 => (intro w hSw; go_simp; try with_reducible rfl)
              try simp only [Act.put, List.setIfInBounds_toArray, List.set_cons_zero, List.set_cons_succ]
              refine wpAnyH_take (i := 7) (oi := { dst := some 77, op := Op.extract (Operand.tmp 70) 0, type := 46, pos := "law.go:93", after := #[{ on := 6, ground := Ground.data }], guard := none }) (v := ?vq8) rfl (by kernel_rfl) (by kernel_rfl) (by kernel_rfl) (fun _ _ _ h => h) (Or.inl ⟨by rfl, ?yq8⟩) bu6 ?rq8
              case yq8 => (intro w hSw; go_simp; try with_reducible rfl)
              try simp only [Act.put, List.setIfInBounds_toArray, List.set_cons_zero, List.set_cons_succ]
              refine wpAnyH_take (i := 8) (oi := { dst := some 78, op := Op.extract (Operand.tmp 70) 1, type := 4, pos := "law.go:93", after := #[{ on := 6, ground := Ground.data }, { on := 10, ground := Ground.gcOnly Departure.lateStores }], guard := none }) (v := ?vq9) rfl (by kernel_rfl) (by kernel_rfl) (by kernel_rfl) (fun _ _ _ h => h) (Or.inl ⟨by rfl, ?yq9⟩) bu6 ?rq9
              case yq9 => (intro w hSw; go_simp; try with_reducible rfl)
              try simp only [Act.put, List.setIfInBounds_toArray, List.set_cons_zero, List.set_cons_succ]
              refine wpAnyH_ready (rs := [9]) (by kernel_rfl) (by simp) ?_
              refine AllReadyH.cons (o := { dst := some 11, op := Op.alloc 46, type := 0, pos := "law.go:93", after := #[], guard := none }) rfl (fun KK hKK => ?_) ?_
              · go_simp
                refine hKK.out _ _ (bu6.trans ((al_below _ _).mono bu6.size)) (fun _ => ?_)
                clear hKK KK
                try simp only [Act.put, List.setIfInBounds_toArray, List.set_cons_zero, List.set_cons_succ]
                refine wpAnyH_name (fun u10 hu10 => ?_)
                have bu10 : Below w3.heap.size w3 u10 := by rw [hu10.out]; exact (bu6.trans ((al_below _ _).mono bu6.size))
                have Gu10 : u10.heap[u6.heap.size]? = some (.cells #[.slice none 0 0, .int .i64 0] 46 (0, 0)) := by rw [hu10.out]; exact new_stq u6
                try have Pu10 := Pu6.below (al_below _ (.cells #[.slice none 0 0, .int .i64 0] 46))
                try rw [← hu10.out] at Pu10
                refine wpAnyH_ready (rs := [10]) (by kernel_rfl) (by simp) ?_
                refine AllReadyH.cons (o := { dst := none, op := Op.store 46 (Operand.tmp 11) (Operand.tmp 77), type := 0, pos := "law.go:93", after := #[{ on := 9, ground := Ground.data }, { on := 7, ground := Ground.data }, { on := 5, ground := Ground.chain }, { on := 0, ground := Ground.phase }, { on := 1, ground := Ground.phase }, { on := 2, ground := Ground.phase }, { on := 3, ground := Ground.phase }, { on := 4, ground := Ground.phase }, { on := 5, ground := Ground.phase }, { on := 6, ground := Ground.phase }, { on := 7, ground := Ground.phase }, { on := 8, ground := Ground.textOnly Departure.lateStores }, { on := 9, ground := Ground.phase }], guard := none }) rfl (fun KK hKK => ?_) ?_
                · refine wp_store_row 46 _ _ rfl u6.heap.size #[.slice ta t.l.length tc, .int .i64 t.n] rfl rfl 46 #[.slice none 0 0, .int .i64 0] Gu10 sizeTq rfl (st_ones _ _ _ _) ?_
                  refine hKK.out _ _ (below_setRow bu10 bu6.size _) (fun _ => ?_)
                  clear hKK KK
                  try simp only [Act.put]
                  refine wpAnyH_name (fun u11 hu11 => ?_)
                  have bu11 : Below w3.heap.size w3 u11 := by rw [hu11.out]; exact (below_setRow bu10 bu6.size _)
                  have Zu11 := setRow_heap _ _ _ #[.slice ta t.l.length tc, .int .i64 t.n] _ _ Gu10
                  rw [← hu11.out] at Zu11
                  have Yu11 := Pu10.setRow u6.heap.size #[.slice ta t.l.length tc, .int .i64 t.n] Gu10
                  rw [← hu11.out] at Yu11
                  refine wpAnyH_take (i := 11) (oi := { dst := some 12, op := Op.assign (Operand.tmp 78), type := 4, pos := "law.go:93", after := #[{ on := 8, ground := Ground.data }, { on := 10, ground := Ground.chain }, { on := 0, ground := Ground.phase }, { on := 1, ground := Ground.phase }, { on := 2, ground := Ground.phase }, { on := 3, ground := Ground.phase }, { on := 4, ground := Ground.phase }, { on := 5, ground := Ground.phase }, { on := 6, ground := Ground.phase }, { on := 7, ground := Ground.phase }, { on := 8, ground := Ground.phase }, { on := 9, ground := Ground.phase }, { on := 10, ground := Ground.phase }], guard := none }) (v := ?vq12) rfl (by kernel_rfl) (by kernel_rfl) (by kernel_rfl) (fun _ _ _ h => h) (Or.inl ⟨by rfl, ?yq12⟩) bu11 ?rq12
                  case yq12 => (intro w hSw; go_simp; try with_reducible rfl)
                  try simp only [Act.put, List.setIfInBounds_toArray, List.set_cons_zero, List.set_cons_succ]
                  refine wpAnyH_done (by kernel_rfl) ?_ _
                  have HZ : Hid (u11.heap[u6.heap.size]? = some (.cells #[.slice ta t.l.length tc, .int .i64 t.n] 46 (0, 0)) ∧ RPq u11 w.heap.size (.slice ta t.l.length tc) t.l ∧ From w3 u11) := ⟨Zu11, Yu11, bu11⟩
                  have HZG : Hid (w3.heap.size ≤ u6.heap.size) := bu6.size
                  clear FK8 FR8 CS8
                  go_wp2_with fail
                  go_meet
                  exact ⟨_, _, rfl, rfl, HZ.out.1, HZG.out, HZ.out.2.1, HZ.out.2.2⟩
                exact AllReadyH.nil
              exact AllReadyH.nil
            refine AllReadyH.cons (o := { dst := some 11, op := Op.alloc 46, type := 0, pos := "law.go:93", after := #[], guard := none }) rfl (fun KK hKK => ?_) ?_
            · go_simp
              refine hKK.out _ _ (bu0.trans ((al_below _ _).mono bu0.size)) (fun _ => ?_)
              clear hKK KK
              try simp only [Act.put, List.setIfInBounds_toArray, List.set_cons_zero, List.set_cons_succ]
              refine wpAnyH_name (fun u13 hu13 => ?_)
              have bu13 : Below w3.heap.size w3 u13 := by rw [hu13.out]; exact (bu0.trans ((al_below _ _).mono bu0.size))
              have Gu13 : u13.heap[u0.heap.size]? = some (.cells #[.slice none 0 0, .int .i64 0] 46 (0, 0)) := by rw [hu13.out]; exact new_stq u0
              try have Pu13 := Pu0.below (al_below _ (.cells #[.slice none 0 0, .int .i64 0] 46))
              try rw [← hu13.out] at Pu13
              refine wpAnyH_ready (rs := [5]) (by kernel_rfl) (by simp) ?_
              refine AllReadyH.cons (o := { dst := some 76, op := Op.call { callee := Callee.value (Operand.func 11), args := #[Operand.tmp 71, Operand.tmp 75], argTypes := #[46, 25] }, type := 49, pos := "law.go:93", after := #[{ on := 0, ground := Ground.data }, { on := 4, ground := Ground.data }], guard := none }) rfl (fun KK hKK => ?_) ?_
              · go_simp
                refine (CS8.out _ bu13).mono ?_
                rintro e u14' ⟨v9, rfl, ou14, bu14'⟩
                obtain ⟨ta, tc, rfl, -, -, -⟩ := ou14.is.shape
                unfold SVal
                (try go_wp2_with fail)
                refine hKK.out _ _ (bu13.trans (Below.mono (bu14') bu13.size)) (fun _ => ?_)
                clear hKK KK
                try simp only [Act.put, List.setIfInBounds_toArray, List.set_cons_zero, List.set_cons_succ]
                refine wpAnyH_name (fun u14 hu14 => ?_)
                have bu14 : Below w3.heap.size w3 u14 := by rw [hu14.out]; exact (bu13.trans (Below.mono (bu14') bu13.size))
                have Pu14 : RPq u14 w.heap.size (.slice ta t.l.length tc) t.l := by rw [hu14.out]; exact ou14
                try have Gu14 := blk_kept Gu13 bu14' (blk_lt Gu13)
                try rw [← hu14.out] at Gu14
                refine wpAnyH_take (i := 6) (oi := { dst := some 70, op := Op.move (Operand.tmp 76), type := 49, pos := "law.go:93", after := #[{ on := 5, ground := Ground.data }], guard := none }) (v := ?vq15) rfl (by kernel_rfl) (by kernel_rfl) (by kernel_rfl) (fun _ _ _ h => h) (Or.inl ⟨by rfl, ?yq15⟩) bu14 ?rq15
                case yq15 => (intro w hSw; go_simp; try with_reducible rfl)
                try simp only [Act.put, List.setIfInBounds_toArray, List.set_cons_zero, List.set_cons_succ]
                refine wpAnyH_take (i := 7) (oi := { dst := some 77, op := Op.extract (Operand.tmp 70) 0, type := 46, pos := "law.go:93", after := #[{ on := 6, ground := Ground.data }], guard := none }) (v := ?vq16) rfl (by kernel_rfl) (by kernel_rfl) (by kernel_rfl) (fun _ _ _ h => h) (Or.inl ⟨by rfl, ?yq16⟩) bu14 ?rq16
                case yq16 => (intro w hSw; go_simp; try with_reducible rfl)
                try simp only [Act.put, List.setIfInBounds_toArray, List.set_cons_zero, List.set_cons_succ]
                refine wpAnyH_take (i := 8) (oi := { dst := some 78, op := Op.extract (Operand.tmp 70) 1, type := 4, pos := "law.go:93", after := #[{ on := 6, ground := Ground.data }, { on := 10, ground := Ground.gcOnly Departure.lateStores }], guard := none }) (v := ?vq17) rfl (by kernel_rfl) (by kernel_rfl) (by kernel_rfl) (fun _ _ _ h => h) (Or.inl ⟨by rfl, ?yq17⟩) bu14 ?rq17
                case yq17 => (intro w hSw; go_simp; try with_reducible rfl)
                try simp only [Act.put, List.setIfInBounds_toArray, List.set_cons_zero, List.set_cons_succ]
                refine wpAnyH_ready (rs := [10]) (by kernel_rfl) (by simp) ?_
                refine AllReadyH.cons (o := { dst := none, op := Op.store 46 (Operand.tmp 11) (Operand.tmp 77), type := 0, pos := "law.go:93", after := #[{ on := 9, ground := Ground.data }, { on := 7, ground := Ground.data }, { on := 5, ground := Ground.chain }, { on := 0, ground := Ground.phase }, { on := 1, ground := Ground.phase }, { on := 2, ground := Ground.phase }, { on := 3, ground := Ground.phase }, { on := 4, ground := Ground.phase }, { on := 5, ground := Ground.phase }, { on := 6, ground := Ground.phase }, { on := 7, ground := Ground.phase }, { on := 8, ground := Ground.textOnly Departure.lateStores }, { on := 9, ground := Ground.phase }], guard := none }) rfl (fun KK hKK => ?_) ?_
                · refine wp_store_row 46 _ _ rfl u0.heap.size #[.slice ta t.l.length tc, .int .i64 t.n] rfl rfl 46 #[.slice none 0 0, .int .i64 0] Gu14 sizeTq rfl (st_ones _ _ _ _) ?_
                  refine hKK.out _ _ (below_setRow bu14 bu0.size _) (fun _ => ?_)
                  clear hKK KK
                  try simp only [Act.put]
                  refine wpAnyH_name (fun u18 hu18 => ?_)
                  have bu18 : Below w3.heap.size w3 u18 := by rw [hu18.out]; exact (below_setRow bu14 bu0.size _)
                  have Zu18 := setRow_heap _ _ _ #[.slice ta t.l.length tc, .int .i64 t.n] _ _ Gu14
                  rw [← hu18.out] at Zu18
                  have Yu18 := Pu14.setRow u0.heap.size #[.slice ta t.l.length tc, .int .i64 t.n] Gu14
                  rw [← hu18.out] at Yu18
                  refine wpAnyH_take (i := 11) (oi := { dst := some 12, op := Op.assign (Operand.tmp 78), type := 4, pos := "law.go:93", after := #[{ on := 8, ground := Ground.data }, { on := 10, ground := Ground.chain }, { on := 0, ground := Ground.phase }, { on := 1, ground := Ground.phase }, { on := 2, ground := Ground.phase }, { on := 3, ground := Ground.phase }, { on := 4, ground := Ground.phase }, { on := 5, ground := Ground.phase }, { on := 6, ground := Ground.phase }, { on := 7, ground := Ground.phase }, { on := 8, ground := Ground.phase }, { on := 9, ground := Ground.phase }, { on := 10, ground := Ground.phase }], guard := none }) (v := ?vq19) rfl (by kernel_rfl) (by kernel_rfl) (by kernel_rfl) (fun _ _ _ h => h) (Or.inl ⟨by rfl, ?yq19⟩) bu18 ?rq19
                  case yq19 => (intro w hSw; go_simp; try with_reducible rfl)
                  try simp only [Act.put, List.setIfInBounds_toArray, List.set_cons_zero, List.set_cons_succ]
                  refine wpAnyH_done (by kernel_rfl) ?_ _
                  have HZ : Hid (u18.heap[u0.heap.size]? = some (.cells #[.slice ta t.l.length tc, .int .i64 t.n] 46 (0, 0)) ∧ RPq u18 w.heap.size (.slice ta t.l.length tc) t.l ∧ From w3 u18) := ⟨Zu18, Yu18, bu18⟩
                  have HZG : Hid (w3.heap.size ≤ u0.heap.size) := bu0.size
                  clear FK8 FR8 CS8
                  go_wp2_with fail
                  go_meet
                  exact ⟨_, _, rfl, rfl, HZ.out.1, HZG.out, HZ.out.2.1, HZ.out.2.2⟩
                exact AllReadyH.nil
              exact AllReadyH.nil
            exact AllReadyH.nil
          case rest =>
            obtain ⟨g', v'', rfl, rfl, hg, hgw, hp, hf⟩ := hcut
            have HGX : Hid (w2.heap.size ≤ g') := Nat.le_trans HF3.out.size hgw
            clear hgw
            obtain ⟨w4, hw4⟩ : ∃ w4, w4 = wc := ⟨_, rfl⟩
            subst hw4
            have F24 : Below w2.heap.size w2 w4 := HF3.out.trans (Below.mono hf HF3.out.size)
            have PL4 : Hid (PL w L (j + 1) (.slice a6 (j + 1) c6) s (.slice va sn vc) s (.slice vd sn ve) w4) := PL3.out.kept F24
            have HG4 : Hid (w4.heap[g]? = some (.cells #[v', .int .i64 t.n] 43 (0, 0))) := blk_kept HG3.out hf (blk_lt HG3.out)
            have HP4 : Hid (RP w4 w.heap.size v' t.l) := HP3.out.below hf
            have HQ4 : Hid (w4.heap[g']? = some (.cells #[v'', .int .i64 t.n] 46 (0, 0))) := hg
            have HR4 : Hid (RPq w4 w.heap.size v'' t.l) := hp
            clear hg hp hf FK8 FR8 CS8 HWS F24 PL3 HG3 HP3 HF3
            obtain ⟨ga, gc, rfl, -, -, -⟩ := HP4.out.is.shape
            obtain ⟨gd, ge, rfl, -, -, -⟩ := HR4.out.is.shape
            have CB : Hid (∀ W, From w4 W → Calls Tryd.prog 13 #[.agg #[.slice ga t.l.length gc, .int .i64 t.n]] W fun e w' => ∃ v', e = .returned (.agg #[v', .int .i64 t.n]) ∧ RPq w' W.heap.size v' t.l ∧ Below W.heap.size W w') := fun W hb => back_any _ t.l t.n W (HP4.out.below hb).is (by have := HRT.out.ln; omega)
            have CM : Hid (∀ W u, From w4 W → RPq W w4.heap.size u t.l → Calls Tryd.prog 12 #[.agg #[u, .int .i64 t.n], .agg #[.slice gd t.l.length ge, .int .i64 t.n]] W fun e w' => e = .returned (.bool true) ∧ Below W.heap.size W w') := fun W u hb hu => by
              have := rsame_any u (.slice gd t.l.length ge) t.l t.l t.n t.n W hu.is (HR4.out.below hb).is (by have := HRT.out.ln; omega) (by have := HRT.out.ln; omega)
              rw [(saP_iff _ _).2 rfl, decide_eq_true rfl] at this
              exact this
            obtain ⟨tn, htn⟩ : ∃ tn, tn = t.l.length := ⟨_, rfl⟩
            rw [← htn] at CB CM HG4 HP4 HQ4 HR4
            have HTN : Hid (tn = t.l.length) := htn
            clear htn
            have FG : Hid (∀ W, From w4 W → W.cell? ⟨g, 0, none⟩ = some (.slice ga tn gc) ∧ W.cell? ⟨g, 1, none⟩ = some (.int .i64 t.n) ∧ W.cell? ⟨g', 0, none⟩ = some (.slice gd tn ge) ∧ W.cell? ⟨g', 1, none⟩ = some (.int .i64 t.n)) := fun W hb => by
              have q1 := blk_kept HG4.out hb (blk_lt HG4.out)
              have q2 := blk_kept HQ4.out hb (blk_lt HQ4.out)
              exact ⟨by simp [World.cell?, q1], by simp [World.cell?, q1], by simp [World.cell?, q2], by simp [World.cell?, q2]⟩
            have dsb : (sb != sb) = false := by cases sb <;> rfl
            go_wp2_with fail
            go_cut [88] (fun s88 wx => s88 = .bool false ∧ From w4 wx)
            case first =>
              refine wp_region_held_drew (S := From w4) (by kernel_rfl) (Below.drew (Below.refl _ _)) (fun _ => ?_)
              refine wpAnyH_name (fun u0 hu0 => ?_)
              have bu0 : Below w4.heap.size w4 u0 := by rw [hu0.out]; exact Below.drew (Below.refl _ _)
              refine wpAnyH_take (i := 0) (oi := { dst := some 79, op := Op.move (Operand.tmp 10), type := 4, pos := "law.go:94", after := #[], guard := none }) (v := ?vm1) rfl (by kernel_rfl) (by kernel_rfl) (by kernel_rfl) (fun _ _ _ h => h) (Or.inl ⟨by rfl, ?ym1⟩) bu0 ?rm1
              case ym1 => (intro w hSw; go_simp; try with_reducible rfl)
              try simp only [Act.put, List.setIfInBounds_toArray, List.set_cons_zero, List.set_cons_succ]
              refine wpAnyH_take (i := 1) (oi := { dst := some 80, op := Op.move (Operand.tmp 12), type := 4, pos := "law.go:94", after := #[], guard := none }) (v := ?vm2) rfl (by kernel_rfl) (by kernel_rfl) (by kernel_rfl) (fun _ _ _ h => h) (Or.inl ⟨by rfl, ?ym2⟩) bu0 ?rm2
              case ym2 => (intro w hSw; go_simp; try with_reducible rfl)
              try simp only [Act.put, List.setIfInBounds_toArray, List.set_cons_zero, List.set_cons_succ]
              refine wpAnyH_take (i := 2) (oi := { dst := some 81, op := Op.binOp BinOp.neq 4 (Operand.tmp 79) (Operand.tmp 80) 4, type := 4, pos := "law.go:94", after := #[{ on := 0, ground := Ground.data }, { on := 1, ground := Ground.data }], guard := none }) (v := .bool false) rfl (by kernel_rfl) (by kernel_rfl) (by kernel_rfl) (fun _ _ _ h => h) (Or.inl ⟨by rfl, ?ym3⟩) bu0 ?rm3
              case ym3 => (intro w hSw; go_simp; try with_reducible rfl)
              try simp only [Act.put, List.setIfInBounds_toArray, List.set_cons_zero, List.set_cons_succ]
              refine wpAnyH_take (i := 3) (oi := { dst := some 82, op := Op.move (Operand.tmp 81), type := 4, pos := "law.go:94", after := #[{ on := 2, ground := Ground.data }], guard := none }) (v := .bool false) rfl (by kernel_rfl) (by kernel_rfl) (by kernel_rfl) (fun _ _ _ h => h) (Or.inl ⟨by rfl, ?ym4⟩) bu0 ?rm4
              case ym4 => (intro w hSw; go_simp; try with_reducible rfl)
              try simp only [Act.put, List.setIfInBounds_toArray, List.set_cons_zero, List.set_cons_succ]
              refine wpAnyH_take (i := 4) (oi := { dst := some 83, op := Op.load 43 (Operand.tmp 9), type := 43, pos := "law.go:94", after := #[{ on := 3, ground := Ground.guard }], guard := some (3, false) }) (v := .agg #[.slice ga tn gc, .int .i64 t.n]) rfl (by kernel_rfl) (by kernel_rfl) (by kernel_rfl) (fun _ _ _ h => h) (Or.inl ⟨by rfl, ?ym5⟩) bu0 ?rm5
              case ym5 => (intro w hSw; obtain ⟨t0, t1, -, -⟩ := FG.out w hSw; go_simp; try with_reducible rfl)
              try simp only [Act.put, List.setIfInBounds_toArray, List.set_cons_zero, List.set_cons_succ]
              refine wpAnyH_take (i := 6) (oi := { dst := some 85, op := Op.load 46 (Operand.tmp 11), type := 46, pos := "law.go:94", after := #[{ on := 3, ground := Ground.guard }], guard := some (3, false) }) (v := .agg #[.slice gd tn ge, .int .i64 t.n]) rfl (by kernel_rfl) (by kernel_rfl) (by kernel_rfl) (fun _ _ _ h => h) (Or.inl ⟨by rfl, ?ym6⟩) bu0 ?rm6
              case ym6 => (intro w hSw; obtain ⟨-, -, t0, t1⟩ := FG.out w hSw; go_simp; try with_reducible rfl)
              try simp only [Act.put, List.setIfInBounds_toArray, List.set_cons_zero, List.set_cons_succ]
              refine wpAnyH_ready (rs := [5]) (by kernel_rfl) (by simp) ?_
              refine AllReadyH.cons (o := { dst := some 84, op := Op.call { callee := Callee.value (Operand.func 13), args := #[Operand.tmp 83], argTypes := #[43] }, type := 46, pos := "law.go:94", after := #[{ on := 4, ground := Ground.data }, { on := 3, ground := Ground.chain }, { on := 3, ground := Ground.guard }], guard := some (3, false) }) rfl (fun KK hKK => ?_) ?_
              · go_simp
                refine (CB.out _ bu0).mono ?_
                rintro e u7' ⟨v9, rfl, ou7, bu7'⟩
                obtain ⟨ta, tc, rfl, -, -, -⟩ := ou7.is.shape
                rw [← HTN.out] at ou7 ⊢
                (try go_wp2_with fail)
                refine hKK.out _ _ (bu0.trans (Below.mono (bu7') bu0.size)) (fun _ => ?_)
                clear hKK KK
                try simp only [Act.put, List.setIfInBounds_toArray, List.set_cons_zero, List.set_cons_succ]
                refine wpAnyH_name (fun u7 hu7 => ?_)
                have bu7 : Below w4.heap.size w4 u7 := by rw [hu7.out]; exact (bu0.trans (Below.mono (bu7') bu0.size))
                have Pu7 : RPq u7 w4.heap.size (.slice ta tn tc) t.l := by rw [hu7.out]; exact ou7.mono bu0.size
                refine wpAnyH_ready (rs := [7]) (by kernel_rfl) (by simp) ?_
                refine AllReadyH.cons (o := { dst := some 86, op := Op.call { callee := Callee.value (Operand.func 12), args := #[Operand.tmp 84, Operand.tmp 85], argTypes := #[46, 46] }, type := 4, pos := "law.go:94", after := #[{ on := 5, ground := Ground.data }, { on := 6, ground := Ground.data }, { on := 5, ground := Ground.chain }, { on := 3, ground := Ground.guard }], guard := some (3, false) }) rfl (fun KK hKK => ?_) ?_
                · go_simp
                  refine (CM.out _ _ bu7 Pu7).mono ?_
                  rintro e u8' ⟨rfl, bu8'⟩
                  (try go_wp2_with fail)
                  refine hKK.out _ _ (bu7.trans (Below.mono (bu8') bu7.size)) (fun _ => ?_)
                  clear hKK KK
                  try simp only [Act.put, List.setIfInBounds_toArray, List.set_cons_zero, List.set_cons_succ]
                  refine wpAnyH_name (fun u8 hu8 => ?_)
                  have bu8 : Below w4.heap.size w4 u8 := by rw [hu8.out]; exact (bu7.trans (Below.mono (bu8') bu7.size))
                  refine wpAnyH_take (i := 8) (oi := { dst := some 87, op := Op.unOp UnOp.not 4 (Operand.tmp 86), type := 4, pos := "law.go:94", after := #[{ on := 7, ground := Ground.data }, { on := 3, ground := Ground.guard }], guard := some (3, false) }) (v := ?vm9) rfl (by kernel_rfl) (by kernel_rfl) (by kernel_rfl) (fun _ _ _ h => h) (Or.inl ⟨by rfl, ?ym9⟩) bu8 ?rm9
                  case ym9 => (intro w hSw; go_simp; try with_reducible rfl)
                  try simp only [Act.put, List.setIfInBounds_toArray, List.set_cons_zero, List.set_cons_succ]
                  refine wpAnyH_take (i := 9) (oi := { dst := some 88, op := Op.pick (Operand.tmp 82) (Operand.const (Value.bool true)) (Operand.tmp 87), type := 4, pos := "law.go:94", after := #[{ on := 3, ground := Ground.data }, { on := 8, ground := Ground.data }], guard := none }) (v := ?vm10) rfl (by kernel_rfl) (by kernel_rfl) (by kernel_rfl) (fun _ _ _ h => h) (Or.inl ⟨by rfl, ?ym10⟩) bu8 ?rm10
                  case ym10 => (intro w hSw; go_simp; try with_reducible rfl)
                  try simp only [Act.put, List.setIfInBounds_toArray, List.set_cons_zero, List.set_cons_succ]
                  refine wpAnyH_done (by kernel_rfl) ?_ _
                  have HZ : Hid (From w4 u8) := bu8
                  clear FG CB CM
                  go_wp2_with fail
                  go_meet
                  exact ⟨rfl, HZ.out⟩
                exact AllReadyH.nil
              exact AllReadyH.nil
            case rest =>
              obtain ⟨rfl, hf⟩ := hcut
              obtain ⟨w5, hw5⟩ : ∃ w5, w5 = wc := ⟨_, rfl⟩
              subst hw5
              have PL5 : Hid (PL w L (j + 1) (.slice a6 (j + 1) c6) s (.slice va sn vc) s (.slice vd sn ve) w5) := PL4.out.kept hf
              have HG5 : Hid (w5.heap[g]? = some (.cells #[.slice ga tn gc, .int .i64 t.n] 43 (0, 0))) := blk_kept HG4.out hf (blk_lt HG4.out)
              have HP5 : Hid (RP w5 w.heap.size (.slice ga tn gc) t.l) := HP4.out.below hf
              have HQ5 : Hid (w5.heap[g']? = some (.cells #[.slice gd tn ge, .int .i64 t.n] 46 (0, 0))) := blk_kept HQ4.out hf (blk_lt HQ4.out)
              have HR5 : Hid (RPq w5 w.heap.size (.slice gd tn ge) t.l) := HR4.out.below hf
              clear hf FG CB CM HG4 HP4 HQ4 HR4 PL4 dsb
              have FS : Hid (∀ W, GB g g' (.slice ga tn gc) (.slice gd tn ge) t.n W → W.cell? ⟨g, 0, none⟩ = some (.slice ga tn gc) ∧ W.cell? ⟨g, 1, none⟩ = some (.int .i64 t.n) ∧ W.cell? ⟨g', 0, none⟩ = some (.slice gd tn ge) ∧ W.cell? ⟨g', 1, none⟩ = some (.int .i64 t.n)) := fun W hb => by
                obtain ⟨q1, q2⟩ := hb
                exact ⟨by simp [World.cell?, q1], by simp [World.cell?, q1], by simp [World.cell?, q2], by simp [World.cell?, q2]⟩
              have HNE : Hid (g ≠ w.heap.size ∧ g' ≠ w.heap.size ∧ g ≠ w.heap.size + 1 ∧ g' ≠ w.heap.size + 1) := by
                have x1 := HGW.out
                have x2 := HGX.out
                have x3 := HW2.out
                refine ⟨?_, ?_, ?_, ?_⟩ <;> omega
              have HGG : Hid (GB g g' (.slice ga tn gc) (.slice gd tn ge) t.n w5) := ⟨HG5.out, HQ5.out⟩
              clear HGW HGX HW2
              go_wp2_with fail
              refine wp_region_held_drew (S := fun W : World => GB g g' (.slice ga tn gc) (.slice gd tn ge) t.n W) (by kernel_rfl) (HGG.out) (fun _ => ?_)
              refine wpAnyH_name (fun u0 hu0 => ?_)
              have su0 : (fun W : World => GB g g' (.slice ga tn gc) (.slice gd tn ge) t.n W) u0 := by rw [hu0.out]; exact (HGG.out)
              have Vu0 : PL w L (j + 1) (.slice a6 (j + 1) c6) s (.slice va sn vc) s (.slice vd sn ve) u0 := by rw [hu0.out]; exact PL5.out.kept ((Below.refl _ _).drew)
              have Pu0 : RP u0 w.heap.size (.slice ga tn gc) t.l := by rw [hu0.out]; exact HP5.out.below ((Below.refl _ _).drew)
              have Qu0 : RPq u0 w.heap.size (.slice gd tn ge) t.l := by rw [hu0.out]; exact HR5.out.below ((Below.refl _ _).drew)
              refine wpAnyH_take (i := 0) (oi := { dst := some 89, op := Op.load 43 (Operand.tmp 9), type := 43, pos := "law.go:97", after := #[], guard := none }) (v := .agg #[.slice ga tn gc, .int .i64 t.n]) rfl (by kernel_rfl) (by kernel_rfl) (by kernel_rfl) (fun _ _ _ h => h) (Or.inl ⟨by rfl, ?ys1⟩) su0 ?rs1
              case ys1 => (intro w hSw; obtain ⟨t0, t1, -, -⟩ := FS.out w hSw; go_simp; try with_reducible rfl)
              try simp only [Act.put, List.setIfInBounds_toArray, List.set_cons_zero, List.set_cons_succ]
              refine wpAnyH_take (i := 1) (oi := { dst := some 90, op := Op.load 46 (Operand.tmp 11), type := 46, pos := "law.go:97", after := #[{ on := 2, ground := Ground.gcOnly Departure.lateStores }], guard := none }) (v := .agg #[.slice gd tn ge, .int .i64 t.n]) rfl (by kernel_rfl) (by kernel_rfl) (by kernel_rfl) (fun _ _ _ h => h) (Or.inl ⟨by rfl, ?ys2⟩) su0 ?rs2
              case ys2 => (intro w hSw; obtain ⟨-, -, t0, t1⟩ := FS.out w hSw; go_simp; try with_reducible rfl)
              try simp only [Act.put, List.setIfInBounds_toArray, List.set_cons_zero, List.set_cons_succ]
              refine wpAnyH_ready (rs := [2]) (by kernel_rfl) (by simp) ?_
              refine AllReadyH.cons (o := { dst := none, op := Op.store 43 (Operand.tmp 6) (Operand.tmp 89), type := 0, pos := "law.go:97", after := #[{ on := 0, ground := Ground.data }, { on := 0, ground := Ground.phase }, { on := 1, ground := Ground.textOnly Departure.lateStores }], guard := none }) rfl (fun KK hKK => ?_) ?_
              · refine wp_store_row 43 _ _ rfl w.heap.size #[.slice ga tn gc, .int .i64 t.n] rfl rfl 43 #[.slice va sn vc, .int .i64 s.n] Vu0.g1 sizeT rfl (st_ones _ _ _ _) ?_
                refine hKK.out _ _ (GB.set su0 _ HNE.out.1 HNE.out.2.1) (fun _ => ?_)
                clear hKK KK
                try simp only [Act.put]
                refine wpAnyH_name (fun u3 hu3 => ?_)
                have su3 : (fun W : World => GB g g' (.slice ga tn gc) (.slice gd tn ge) t.n W) u3 := by rw [hu3.out]; exact (GB.set su0 _ HNE.out.1 HNE.out.2.1)
                have Vu3 := Vu0.st1 Pu0 HRT.out
                have Pu3 := Pu0.setRow w.heap.size #[.slice ga tn gc, .int .i64 t.n] Vu0.g1
                have Qu3 := Qu0.setRow w.heap.size #[.slice ga tn gc, .int .i64 t.n] Vu0.g1
                rw [← hu3.out] at Vu3 Pu3 Qu3
                refine wpAnyH_ready (rs := [3]) (by kernel_rfl) (by simp) ?_
                refine AllReadyH.cons (o := { dst := none, op := Op.store 46 (Operand.tmp 7) (Operand.tmp 90), type := 0, pos := "law.go:97", after := #[{ on := 1, ground := Ground.data }, { on := 2, ground := Ground.chain }, { on := 0, ground := Ground.phase }, { on := 1, ground := Ground.phase }, { on := 2, ground := Ground.phase }], guard := none }) rfl (fun KK hKK => ?_) ?_
                · refine wp_store_row 46 _ _ rfl (w.heap.size + 1) #[.slice gd tn ge, .int .i64 t.n] rfl rfl 46 #[.slice vd sn ve, .int .i64 s.n] Vu3.g2 sizeTq rfl (st_ones _ _ _ _) ?_
                  refine hKK.out _ _ (GB.set su3 _ HNE.out.2.2.1 HNE.out.2.2.2) (fun _ => ?_)
                  clear hKK KK
                  try simp only [Act.put]
                  refine wpAnyH_name (fun u4 hu4 => ?_)
                  have su4 : (fun W : World => GB g g' (.slice ga tn gc) (.slice gd tn ge) t.n W) u4 := by rw [hu4.out]; exact (GB.set su3 _ HNE.out.2.2.1 HNE.out.2.2.2)
                  have Vu4 := Vu3.st2 Qu3
                  have Pu4 := Pu3.setRow (w.heap.size + 1) #[.slice gd tn ge, .int .i64 t.n] Vu3.g2
                  have Qu4 := Qu3.setRow (w.heap.size + 1) #[.slice gd tn ge, .int .i64 t.n] Vu3.g2
                  rw [← hu4.out] at Vu4 Pu4 Qu4
                  refine wpAnyH_done (by kernel_rfl) ?_ _
                  have HZ : Hid (PL w L (j + 1) (.slice a6 (j + 1) c6) t (.slice ga tn gc) t (.slice gd tn ge) u4) := Vu4
                  clear FS HNE HGG PL5 HG5 HP5 HQ5 HR5
                  go_wp2_with fail
                  go_roundw
                  case rel => exact ⟨j + 1, by omega, by go_num, _, _, _, HZ.out⟩
                  case measure => simp [intOf]; omega
                exact AllReadyH.nil
              exact AllReadyH.nil
    · obtain rfl : j = n := by omega
      have HTA : Hid (L.take j = L) := by unfold Hid; rw [HN.out]; exact List.take_length ..
      have hids : ∀ r ∈ L, r.x.i ≤ 2199023255552 := by have := HL0.out.ids; rw [HTA.out] at this; exact this
      have hra : RS wr (.slice a5 j c5) L := by have := HL0.out.a.is; rw [HTA.out] at this; exact this
      have hnl : L.length ≤ 200 := by rw [← HN.out]; exact hn
      have cp := play_any _ L wr hra (by omega) (fun r hr => by have := hids r hr; omega)
      have CR : Hid (∀ W, Below w.heap.size w W → Calls Tryd.prog 15 #[.slice a j c] W fun e w' => ∃ v', e = .returned (.tuple #[SVal v' (play st0 L).1, .int .i64 ((play st0 L).2 : Nat)]) ∧ RPq w' W.heap.size v' (play st0 L).1.l ∧ Below W.heap.size W w') := fun W hb => by
        have hr := HRS.out W hb
        exact rplay_any _ L W hr (by omega) hids
      have HPL : Hid ((play st0 L).1.l.length ≤ 1000) := by
        unfold Hid
        have := (play_ris L st0 ris0 HOK.out hids).ln
        omega
      have HSL : Hid (s.l.length ≤ 64) := HL0.out.ris.ln
      have HFO : Hid (((fnd s.l q).getD pa0).ok) := by
        unfold Hid
        cases hf9 : fnd s.l q with
        | none => exact pa0_ok
        | some z => exact HL0.out.ris.ok z (List.mem_of_find?_eq_some hf9)
      have CF : Hid (∀ W, PL w L j (.slice a5 j c5) s v1 s v2 W → Calls Tryd.prog 16 #[.agg #[v1, .int .i64 s.n], .string q] W fun e w' => e = .returned (.tuple #[((fnd s.l q).getD pa0).val, .bool (fnd s.l q).isSome]) ∧ Below W.heap.size W w') := fun W h => find_any v1 s.l s.n q W h.p1.is (by have := HSL.out; omega)
      have CFq : Hid (∀ W, PL w L j (.slice a5 j c5) s v1 s v2 W → Calls Tryd.prog 17 #[.agg #[v2, .int .i64 s.n], .string q] W fun e w' => e = .returned (.tuple #[((fnd s.l q).getD pa0).val, .bool (fnd s.l q).isSome]) ∧ Below W.heap.size W w') := fun W h => rfind_any v2 s.l s.n q W h.p2.is (by have := HSL.out; omega)
      clear hids hra hnl HRS HOK HTL HSL HB
      generalize play st0 L = R at *
      obtain ⟨⟨rl, rn⟩, rk⟩ := R
      simp only at cp CR HPL
      generalize (fnd s.l q).getD pa0 = y at *
      generalize (fnd s.l q).isSome = yb at *
      obtain ⟨va, vc, rfl, -, -, -⟩ := HL0.out.p1.is.shape
      obtain ⟨vd, ve, rfl, -, -, -⟩ := HL0.out.p2.is.shape
      generalize s.l.length = sn at *
      go_wp2_with fail
      refine cp.mono ?_
      rintro e w3 ⟨v3, rfl, p3, b3⟩
      have L3 : Hid (PL w L j (.slice a5 j c5) s (.slice va sn vc) s (.slice vd sn ve) w3) := HL0.out.kept b3
      obtain ⟨ta, tc, e3, -, -, -⟩ := p3.is.shape
      have P3 : Hid (RP w3 w.heap.size v3 rl) := p3.mono HL0.out.bel.size
      clear cp b3 p3 HL0
      subst e3
      obtain ⟨tn, htn⟩ : ∃ tn, tn = rl.length := ⟨_, rfl⟩
      rw [← htn] at P3 ⊢
      have HTN : Hid (tn = rl.length) := htn
      clear htn
      unfold SVal
      obtain ⟨W4, hW4⟩ : ∃ W4, W4 = w3.alloc (.cells #[.slice ta tn tc, .int .i64 rn] 43) := ⟨_, rfl⟩
      have b4 : Below w3.heap.size w3 W4 := by rw [hW4]; exact al_below _ _
      have g4 : Hid (W4.heap[w3.heap.size]? = some (.cells #[.slice ta tn tc, .int .i64 rn] 43 (0, 0))) := by unfold Hid; rw [hW4]; exact heap_alloc_new _ _
      have HE4 : Hid ((w3.alloc (.cells #[.slice none 0 0, .int .i64 0] 43)).setRow w3.heap.size #[.slice ta tn tc, .int .i64 rn] = W4) := by unfold Hid; rw [hW4]; exact World.setRow_alloc_new _ _ _ _
      have L4 : Hid (PL w L j (.slice a5 j c5) s (.slice va sn vc) s (.slice vd sn ve) W4) := L3.out.kept b4
      have P4 : Hid (RP W4 w.heap.size (.slice ta tn tc) rl) := P3.out.below b4
      clear hW4 b4 P3 L3
      go_wp2_with (refine wpList_store_row rfl 43 _ _ rfl w3.heap.size #[.slice ta tn tc, .int .i64 rn] rfl rfl 43 #[.slice none 0 0, .int .i64 0] (new_st w3) sizeT rfl (st_ones _ _ _ _) (Hid.out ?_))
      unfold Hid
      rw [HE4.out]
      clear HE4
      have cr := CR.out W4 L4.out.bel
      clear CR
      go_wp2_with fail
      refine cr.mono ?_
      rintro e w5 ⟨v5, rfl, p5, b5⟩
      have L5 : Hid (PL w L j (.slice a5 j c5) s (.slice va sn vc) s (.slice vd sn ve) w5) := L4.out.kept b5
      have P5 : Hid (RP w5 w.heap.size (.slice ta tn tc) rl) := P4.out.below b5
      have g5 : Hid (w5.heap[w3.heap.size]? = some (.cells #[.slice ta tn tc, .int .i64 rn] 43 (0, 0))) := blk_kept g4.out b5 (blk_lt g4.out)
      obtain ⟨td, te, e5, -, -, -⟩ := p5.is.shape
      have Q5 : Hid (RPq w5 w.heap.size v5 rl) := p5.mono L4.out.bel.size
      clear cr b5 p5 L4 P4 g4
      subst e5
      rw [← HTN.out] at Q5 ⊢
      unfold SVal
      obtain ⟨W6, hW6⟩ : ∃ W6, W6 = w5.alloc (.cells #[.slice td tn te, .int .i64 rn] 46) := ⟨_, rfl⟩
      have b6 : Below w5.heap.size w5 W6 := by rw [hW6]; exact al_below _ _
      have q6 : Hid (W6.heap[w5.heap.size]? = some (.cells #[.slice td tn te, .int .i64 rn] 46 (0, 0))) := by unfold Hid; rw [hW6]; exact heap_alloc_new _ _
      have HE6 : Hid ((w5.alloc (.cells #[.slice none 0 0, .int .i64 0] 46)).setRow w5.heap.size #[.slice td tn te, .int .i64 rn] = W6) := by unfold Hid; rw [hW6]; exact World.setRow_alloc_new _ _ _ _
      have L6 : Hid (PL w L j (.slice a5 j c5) s (.slice va sn vc) s (.slice vd sn ve) W6) := L5.out.kept b6
      have P6 : Hid (RP W6 w.heap.size (.slice ta tn tc) rl) := P5.out.below b6
      have Q6 : Hid (RPq W6 w.heap.size (.slice td tn te) rl) := Q5.out.below b6
      have g6 : Hid (W6.heap[w3.heap.size]? = some (.cells #[.slice ta tn tc, .int .i64 rn] 43 (0, 0))) := blk_kept g5.out b6 (blk_lt g5.out)
      clear hW6 b6 P5 L5 Q5 g5
      go_wp2_with (refine wpList_store_row rfl 46 _ _ rfl w5.heap.size #[.slice td tn te, .int .i64 rn] rfl rfl 46 #[.slice none 0 0, .int .i64 0] (new_stq w5) sizeTq rfl (st_ones _ _ _ _) (Hid.out ?_))
      unfold Hid
      rw [HE6.out]
      clear HE6
      have cf := CF.out W6 L6.out
      have c0 := blk_c0 L6.out.g1
      have c1 := blk_c1 L6.out.g1
      unfold Pa.val at cf
      clear CF
      go_wp2_with fail
      refine cf.mono ?_
      rintro e w7 ⟨rfl, b7⟩
      have L7 : Hid (PL w L j (.slice a5 j c5) s (.slice va sn vc) s (.slice vd sn ve) w7) := L6.out.kept b7
      have P7 : Hid (RP w7 w.heap.size (.slice ta tn tc) rl) := P6.out.below b7
      have Q7 : Hid (RPq w7 w.heap.size (.slice td tn te) rl) := Q6.out.below b7
      have g7 : Hid (w7.heap[w3.heap.size]? = some (.cells #[.slice ta tn tc, .int .i64 rn] 43 (0, 0))) := blk_kept g6.out b7 (blk_lt g6.out)
      have q7 : Hid (w7.heap[w5.heap.size]? = some (.cells #[.slice td tn te, .int .i64 rn] 46 (0, 0))) := blk_kept q6.out b7 (blk_lt q6.out)
      clear cf b7 c0 c1 L6 P6 Q6 g6 q6
      have ZP : Hid ((Tryd.prog.info? 58).map (·.size) = some y.cells.length) := Pa.infoL y HFO.out
      have ZPq : Hid ((Tryd.prog.info? 61).map (·.size) = some y.cells.length) := Pa.infoLq y HFO.out
      have HIy : Hid ((Tryd.prog.info? 58).map (·.size) = some y.cells.toArray.size) := Pa.infoA y HFO.out
      have HIq : Hid ((Tryd.prog.info? 61).map (·.size) = some y.cells.toArray.size) := Pa.infoAq y HFO.out
      have HEy : Hid (pzc.size = y.cells.toArray.size) := pzc_size.trans (Pa.size y HFO.out).symm
      have H1y : Hid (y.cells.toArray.all (·.oneCell') = true) := Pa.ones y
      obtain ⟨W8, hW8⟩ : ∃ W8, W8 = w7.alloc (.cells y.cells.toArray 58) := ⟨_, rfl⟩
      have b8 : Below w7.heap.size w7 W8 := by rw [hW8]; exact al_below _ _
      have e8 := alloc_pa w7 y
      rw [← hW8] at e8
      have HE8 : Hid ((w7.alloc (.cells #[.int .i64 0, .string ⟨#[]⟩, .int .u8 0, .int .u8 0, .int .u8 0, .int .u8 0, .int .u8 0, .int .u8 0, .int .u8 0, .int .u8 0, .int .u8 0, .int .u8 0, .int .u8 0, .int .u8 0, .int .u8 0, .int .u8 0, .int .u8 0, .int .u8 0, .int .u8 0, .int .u8 0, .int .u8 0, .int .u8 0, .int .u8 0, .int .u8 0, .int .u8 0, .int .u8 0, .int .u8 0, .int .u8 0, .int .u8 0, .int .u8 0, .int .u8 0, .int .u8 0, .int .u8 0, .int .u8 0, .int .i64 0, .int .i64 0] 58)).setRow w7.heap.size y.cells.toArray = W8) := e8
      have y8 : Hid (W8.heap[w7.heap.size]? = some (.cells y.cells.toArray 58 (0, 0))) := by unfold Hid; rw [hW8]; exact heap_alloc_new _ _
      have L8 : Hid (PL w L j (.slice a5 j c5) s (.slice va sn vc) s (.slice vd sn ve) W8) := L7.out.kept b8
      have P8 : Hid (RP W8 w.heap.size (.slice ta tn tc) rl) := P7.out.below b8
      have Q8 : Hid (RPq W8 w.heap.size (.slice td tn te) rl) := Q7.out.below b8
      have g8 : Hid (W8.heap[w3.heap.size]? = some (.cells #[.slice ta tn tc, .int .i64 rn] 43 (0, 0))) := blk_kept g7.out b8 (blk_lt g7.out)
      have q8 : Hid (W8.heap[w5.heap.size]? = some (.cells #[.slice td tn te, .int .i64 rn] 46 (0, 0))) := blk_kept q7.out b8 (blk_lt q7.out)
      clear hW8 b8 e8 L7 P7 Q7 g7 q7
      go_wp2_with (refine wpList_store_row rfl 58 _ _ rfl w7.heap.size y.cells.toArray rfl rfl 58 pzc (new_pa w7) HIy.out HEy.out H1y.out (Hid.out ?_))
      unfold Hid
      rw [HE8.out]
      clear HE8
      have cf := CFq.out W8 L8.out
      have c0 := blk_c0 L8.out.g2
      have c1 := blk_c1 L8.out.g2
      unfold Pa.val at cf
      clear CFq
      go_wp2_with fail
      refine cf.mono ?_
      rintro e w9 ⟨rfl, b9⟩
      have L9 : Hid (Below w.heap.size w w9) := (L8.out.kept b9).bel
      have P9 : Hid (RP w9 w.heap.size (.slice ta tn tc) rl) := P8.out.below b9
      have Q9 : Hid (RPq w9 w.heap.size (.slice td tn te) rl) := Q8.out.below b9
      have g9 : Hid (w9.heap[w3.heap.size]? = some (.cells #[.slice ta tn tc, .int .i64 rn] 43 (0, 0))) := blk_kept g8.out b9 (blk_lt g8.out)
      have q9 : Hid (w9.heap[w5.heap.size]? = some (.cells #[.slice td tn te, .int .i64 rn] 46 (0, 0))) := blk_kept q8.out b9 (blk_lt q8.out)
      have y9 : Hid (w9.heap[w7.heap.size]? = some (.cells y.cells.toArray 58 (0, 0))) := blk_kept y8.out b9 (blk_lt y8.out)
      clear cf b9 c0 c1 L8 P8 Q8 g8 q8 y8
      obtain ⟨Wa, hWa⟩ : ∃ Wa, Wa = w9.alloc (.cells y.cells.toArray 61) := ⟨_, rfl⟩
      have ba : Below w9.heap.size w9 Wa := by rw [hWa]; exact al_below _ _
      have ea := alloc_pq w9 y
      rw [← hWa] at ea
      have HEa : Hid ((w9.alloc (.cells #[.int .i64 0, .string ⟨#[]⟩, .int .u8 0, .int .u8 0, .int .u8 0, .int .u8 0, .int .u8 0, .int .u8 0, .int .u8 0, .int .u8 0, .int .u8 0, .int .u8 0, .int .u8 0, .int .u8 0, .int .u8 0, .int .u8 0, .int .u8 0, .int .u8 0, .int .u8 0, .int .u8 0, .int .u8 0, .int .u8 0, .int .u8 0, .int .u8 0, .int .u8 0, .int .u8 0, .int .u8 0, .int .u8 0, .int .u8 0, .int .u8 0, .int .u8 0, .int .u8 0, .int .u8 0, .int .u8 0, .int .i64 0, .int .i64 0] 61)).setRow w9.heap.size y.cells.toArray = Wa) := ea
      have za : Wa.heap[w9.heap.size]? = some (.cells y.cells.toArray 61 (0, 0)) := by rw [hWa]; exact heap_alloc_new _ _
      have BA : Hid (Below w.heap.size w Wa) := L9.out.trans (ba.mono L9.out.size)
      have PA : Hid (RP Wa w.heap.size (.slice ta tn tc) rl) := P9.out.below ba
      have QA : Hid (RPq Wa w.heap.size (.slice td tn te) rl) := Q9.out.below ba
      have FC : Hid (∀ W, From Wa W → (W.cell? ⟨w3.heap.size, 0, none⟩ = some (.slice ta tn tc) ∧ W.cell? ⟨w3.heap.size, 1, none⟩ = some (.int .i64 rn)) ∧ W.cell? ⟨w5.heap.size, 0, none⟩ = some (.slice td tn te) ∧ W.cell? ⟨w5.heap.size, 1, none⟩ = some (.int .i64 rn)) := fun W hb => by
        have h1 := blk_kept (blk_kept g9.out ba (blk_lt g9.out)) hb (Nat.lt_of_lt_of_le (blk_lt g9.out) ba.size)
        have h2 := blk_kept (blk_kept q9.out ba (blk_lt q9.out)) hb (Nat.lt_of_lt_of_le (blk_lt q9.out) ba.size)
        exact ⟨⟨blk_c0 h1, blk_c1 h1⟩, blk_c0 h2, blk_c1 h2⟩
      have FY : Hid (∀ W, From Wa W → W.rangeAt w7.heap.size 0 y.cells ∧ W.rangeAt w9.heap.size 0 y.cells) := fun W hb => by
        have h1 := blk_kept (blk_kept y9.out ba (blk_lt y9.out)) hb (Nat.lt_of_lt_of_le (blk_lt y9.out) ba.size)
        exact ⟨blk_range h1, blk_range (blk_kept za hb (blk_lt za))⟩
      have CB : Hid (∀ W, From Wa W → Calls Tryd.prog 13 #[.agg #[.slice ta tn tc, .int .i64 rn]] W fun e w' => ∃ v', e = .returned (.agg #[v', .int .i64 rn]) ∧ RPq w' W.heap.size v' rl ∧ Below W.heap.size W w') := fun W hb => back_any _ rl rn W (PA.out.below hb).is HPL.out
      have CM : Hid (∀ W u, From Wa W → RPq W Wa.heap.size u rl → Calls Tryd.prog 12 #[.agg #[u, .int .i64 rn], .agg #[.slice td tn te, .int .i64 rn]] W fun e w' => e = .returned (.bool true) ∧ Below W.heap.size W w') := fun W u hb hu => by
        have := rsame_any u (.slice td tn te) rl rl rn rn W hu.is (QA.out.below hb).is (by have := HPL.out; omega) (by have := HPL.out; omega)
        rw [(saP_iff _ _).2 rfl, decide_eq_true rfl] at this
        exact this
      have CA : Hid (∀ W, From Wa W → Calls Tryd.prog 5 #[] W fun e w' => e = .returned (.bool true) ∧ Below W.heap.size W w') := fun W hb => HAW.out W (BA.out.trans (Below.mono hb BA.out.size))
      have E1 : Hid (∀ W, (binOp .eql 61 (.agg y.cells.toArray) (.agg y.cells.toArray)).run Tryd.prog W = .ok (.bool true) W) := fun W => by
        have := eql_runq y y HFO.out HFO.out W
        rw [(sPa_iff y y).2 rfl] at this
        exact this
      have E2 : Hid (∀ (a b : Operand) W, (eqGuard .eql 61 a b (.agg y.cells.toArray) (.agg y.cells.toArray)).run Tryd.prog W = .ok () W) := fun a b W => eqg_runq .eql y y a b W
      clear hWa ba ea za L9 P9 Q9 g9 q9 y9 PA QA HAW
      go_wp2_with (refine wpList_store_row rfl 61 _ _ rfl w9.heap.size y.cells.toArray rfl rfl 61 pzc (new_pq w9) HIq.out HEy.out H1y.out (Hid.out ?_))
      unfold Hid
      rw [HEa.out]
      clear HEa
      go_wp2_with fail
      refine wp_region_held_drew (S := From Wa) (by kernel_rfl) (Below.drew (Below.refl _ _)) (fun _ => ?_)
      refine wpAnyH_name (fun u0 hu0 => ?_)
      have bu0 : Below Wa.heap.size Wa u0 := by rw [hu0.out]; exact Below.drew (Below.refl _ _)
      refine wpAnyH_take (i := 0) (oi := { dst := some 113, op := Op.load 43 (Operand.tmp 13), type := 43, pos := "law.go:103", after := #[], guard := none }) (v := .agg #[.slice ta tn tc, .int .i64 rn]) rfl (by kernel_rfl) (by kernel_rfl) (by kernel_rfl) (fun _ _ _ h => h) (Or.inl ⟨by rfl, ?yf1⟩) bu0 ?rf1
      case yf1 => (intro w hSw; obtain ⟨⟨t0, t1⟩, -⟩ := FC.out w hSw; go_simp; try with_reducible rfl)
      try simp only [Act.put, List.setIfInBounds_toArray, List.set_cons_zero, List.set_cons_succ]
      refine wpAnyH_take (i := 2) (oi := { dst := some 115, op := Op.load 46 (Operand.tmp 15), type := 46, pos := "law.go:103", after := #[], guard := none }) (v := .agg #[.slice td tn te, .int .i64 rn]) rfl (by kernel_rfl) (by kernel_rfl) (by kernel_rfl) (fun _ _ _ h => h) (Or.inl ⟨by rfl, ?yf2⟩) bu0 ?rf2
      case yf2 => (intro w hSw; obtain ⟨-, t0, t1⟩ := FC.out w hSw; go_simp; try with_reducible rfl)
      try simp only [Act.put, List.setIfInBounds_toArray, List.set_cons_zero, List.set_cons_succ]
      refine wpAnyH_ready (rs := [1]) (by kernel_rfl) (by simp) ?_
      refine AllReadyH.cons (o := { dst := some 114, op := Op.call { callee := Callee.value (Operand.func 13), args := #[Operand.tmp 113], argTypes := #[43] }, type := 46, pos := "law.go:103", after := #[{ on := 0, ground := Ground.data }], guard := none }) rfl (fun KK hKK => ?_) ?_
      · go_simp
        refine (CB.out _ bu0).mono ?_
        rintro e u3' ⟨v8, rfl, ou3, bu3'⟩
        obtain ⟨ua, uc, rfl, -, -, -⟩ := ou3.is.shape
        rw [← HTN.out] at ou3 ⊢
        (try go_wp2_with fail)
        refine hKK.out _ _ (bu0.trans (Below.mono (bu3') bu0.size)) (fun _ => ?_)
        clear hKK KK
        try simp only [Act.put, List.setIfInBounds_toArray, List.set_cons_zero, List.set_cons_succ]
        refine wpAnyH_name (fun u3 hu3 => ?_)
        have bu3 : Below Wa.heap.size Wa u3 := by rw [hu3.out]; exact (bu0.trans (Below.mono (bu3') bu0.size))
        have Pu3 : RPq u3 Wa.heap.size (.slice ua tn uc) rl := by rw [hu3.out]; exact ou3.mono bu0.size
        refine wpAnyH_ready (rs := [3]) (by kernel_rfl) (by simp) ?_
        refine AllReadyH.cons (o := { dst := some 116, op := Op.call { callee := Callee.value (Operand.func 12), args := #[Operand.tmp 114, Operand.tmp 115], argTypes := #[46, 46] }, type := 4, pos := "law.go:103", after := #[{ on := 1, ground := Ground.data }, { on := 2, ground := Ground.data }, { on := 1, ground := Ground.chain }], guard := none }) rfl (fun KK hKK => ?_) ?_
        · go_simp
          refine (CM.out _ _ bu3 Pu3).mono ?_
          rintro e u4' ⟨rfl, bu4'⟩
          (try go_wp2_with fail)
          refine hKK.out _ _ (bu3.trans (Below.mono (bu4') bu3.size)) (fun _ => ?_)
          clear hKK KK
          try simp only [Act.put, List.setIfInBounds_toArray, List.set_cons_zero, List.set_cons_succ]
          refine wpAnyH_name (fun u4 hu4 => ?_)
          have bu4 : Below Wa.heap.size Wa u4 := by rw [hu4.out]; exact (bu3.trans (Below.mono (bu4') bu3.size))
          refine wpAnyH_take (i := 4) (oi := { dst := some 117, op := Op.move (Operand.tmp 116), type := 4, pos := "law.go:103", after := #[{ on := 3, ground := Ground.data }, { on := 3, ground := Ground.chain }], guard := none }) (v := .bool true) rfl (by kernel_rfl) (by kernel_rfl) (by kernel_rfl) (fun _ _ _ h => h) (Or.inl ⟨by rfl, ?yf5⟩) bu4 ?rf5
          case yf5 => (intro w hSw; go_simp; try with_reducible rfl)
          try simp only [Act.put, List.setIfInBounds_toArray, List.set_cons_zero, List.set_cons_succ]
          refine wpAnyH_take (i := 5) (oi := { dst := some 118, op := Op.move (Operand.tmp 14), type := 3, pos := "law.go:103", after := #[{ on := 4, ground := Ground.guard }], guard := some (4, true) }) (v := ?vf6) rfl (by kernel_rfl) (by kernel_rfl) (by kernel_rfl) (fun _ _ _ h => h) (Or.inl ⟨by rfl, ?yf6⟩) bu4 ?rf6
          case yf6 => (intro w hSw; go_simp; try with_reducible rfl)
          try simp only [Act.put, List.setIfInBounds_toArray, List.set_cons_zero, List.set_cons_succ]
          refine wpAnyH_take (i := 6) (oi := { dst := some 119, op := Op.move (Operand.tmp 16), type := 3, pos := "law.go:103", after := #[{ on := 4, ground := Ground.guard }], guard := some (4, true) }) (v := ?vf7) rfl (by kernel_rfl) (by kernel_rfl) (by kernel_rfl) (fun _ _ _ h => h) (Or.inl ⟨by rfl, ?yf7⟩) bu4 ?rf7
          case yf7 => (intro w hSw; go_simp; try with_reducible rfl)
          try simp only [Act.put, List.setIfInBounds_toArray, List.set_cons_zero, List.set_cons_succ]
          refine wpAnyH_take (i := 7) (oi := { dst := some 120, op := Op.binOp BinOp.eql 3 (Operand.tmp 118) (Operand.tmp 119) 3, type := 4, pos := "law.go:103", after := #[{ on := 5, ground := Ground.data }, { on := 6, ground := Ground.data }, { on := 4, ground := Ground.guard }], guard := some (4, true) }) (v := .bool true) rfl (by kernel_rfl) (by kernel_rfl) (by kernel_rfl) (fun _ _ _ h => h) (Or.inl ⟨by rfl, ?yf8⟩) bu4 ?rf8
          case yf8 => (intro w hSw; go_simp; try with_reducible rfl)
          try simp only [Act.put, List.setIfInBounds_toArray, List.set_cons_zero, List.set_cons_succ]
          refine wpAnyH_take (i := 8) (oi := { dst := some 121, op := Op.pick (Operand.tmp 117) (Operand.tmp 120) (Operand.const (Value.bool false)), type := 4, pos := "law.go:103", after := #[{ on := 4, ground := Ground.data }, { on := 7, ground := Ground.data }], guard := none }) (v := .bool true) rfl (by kernel_rfl) (by kernel_rfl) (by kernel_rfl) (fun _ _ _ h => h) (Or.inl ⟨by rfl, ?yf9⟩) bu4 ?rf9
          case yf9 => (intro w hSw; go_simp; try with_reducible rfl)
          try simp only [Act.put, List.setIfInBounds_toArray, List.set_cons_zero, List.set_cons_succ]
          refine wpAnyH_take (i := 9) (oi := { dst := some 122, op := Op.move (Operand.tmp 121), type := 4, pos := "law.go:103", after := #[{ on := 8, ground := Ground.data }, { on := 4, ground := Ground.chain }], guard := none }) (v := .bool true) rfl (by kernel_rfl) (by kernel_rfl) (by kernel_rfl) (fun _ _ _ h => h) (Or.inl ⟨by rfl, ?yf10⟩) bu4 ?rf10
          case yf10 => (intro w hSw; go_simp; try with_reducible rfl)
          try simp only [Act.put, List.setIfInBounds_toArray, List.set_cons_zero, List.set_cons_succ]
          refine wpAnyH_take (i := 10) (oi := { dst := some 123, op := Op.load 58 (Operand.tmp 17), type := 58, pos := "law.go:103", after := #[{ on := 9, ground := Ground.guard }], guard := some (9, true) }) (v := .agg y.cells.toArray) rfl (by kernel_rfl) (by kernel_rfl) (by kernel_rfl) (fun _ _ _ h => h) (yieldsIf_load_mid (by rfl) 58 _ rfl w7.heap.size 0 rfl y.cells _ (fun w hw => (FY.out w hw).1) Tryd.underlying58 rfl ZP.out) bu4 ?_
          try simp only [Act.put, List.setIfInBounds_toArray, List.set_cons_zero, List.set_cons_succ]
          refine wpAnyH_take (i := 11) (oi := { dst := some 124, op := Op.load 61 (Operand.tmp 19), type := 61, pos := "law.go:103", after := #[{ on := 9, ground := Ground.guard }], guard := some (9, true) }) (v := .agg y.cells.toArray) rfl (by kernel_rfl) (by kernel_rfl) (by kernel_rfl) (fun _ _ _ h => h) (yieldsIf_load_mid (by rfl) 61 _ rfl w9.heap.size 0 rfl y.cells _ (fun w hw => (FY.out w hw).2) Tryd.underlying61 rfl ZPq.out) bu4 ?_
          try simp only [Act.put, List.setIfInBounds_toArray, List.set_cons_zero, List.set_cons_succ]
          refine wpAnyH_take (i := 12) (oi := { dst := some 125, op := Op.binOp BinOp.eql 61 (Operand.tmp 123) (Operand.tmp 124) 61, type := 4, pos := "law.go:103", after := #[{ on := 10, ground := Ground.data }, { on := 11, ground := Ground.data }, { on := 9, ground := Ground.guard }], guard := some (9, true) }) (v := .bool true) rfl (by kernel_rfl) (by kernel_rfl) (by kernel_rfl) (fun _ _ _ h => h) (yields_eqiq (by rfl) .eql _ _ _ rfl (.agg y.cells.toArray) (.agg y.cells.toArray) true rfl rfl (fun w => E2.out _ _ w) (fun w => E1.out w)) bu4 ?_
          try simp only [Act.put, List.setIfInBounds_toArray, List.set_cons_zero, List.set_cons_succ]
          refine wpAnyH_take (i := 13) (oi := { dst := some 126, op := Op.pick (Operand.tmp 122) (Operand.tmp 125) (Operand.const (Value.bool false)), type := 4, pos := "law.go:103", after := #[{ on := 9, ground := Ground.data }, { on := 12, ground := Ground.data }], guard := none }) (v := .bool true) rfl (by kernel_rfl) (by kernel_rfl) (by kernel_rfl) (fun _ _ _ h => h) (Or.inl ⟨by rfl, ?yf14⟩) bu4 ?rf14
          case yf14 => (intro w hSw; go_simp; try with_reducible rfl)
          try simp only [Act.put, List.setIfInBounds_toArray, List.set_cons_zero, List.set_cons_succ]
          refine wpAnyH_take (i := 14) (oi := { dst := some 127, op := Op.move (Operand.tmp 126), type := 4, pos := "law.go:103", after := #[{ on := 13, ground := Ground.data }, { on := 9, ground := Ground.chain }], guard := none }) (v := .bool true) rfl (by kernel_rfl) (by kernel_rfl) (by kernel_rfl) (fun _ _ _ h => h) (Or.inl ⟨by rfl, ?yf15⟩) bu4 ?rf15
          case yf15 => (intro w hSw; go_simp; try with_reducible rfl)
          try simp only [Act.put, List.setIfInBounds_toArray, List.set_cons_zero, List.set_cons_succ]
          refine wpAnyH_take (i := 15) (oi := { dst := some 128, op := Op.move (Operand.tmp 18), type := 4, pos := "law.go:103", after := #[{ on := 14, ground := Ground.guard }], guard := some (14, true) }) (v := ?vf16) rfl (by kernel_rfl) (by kernel_rfl) (by kernel_rfl) (fun _ _ _ h => h) (Or.inl ⟨by rfl, ?yf16⟩) bu4 ?rf16
          case yf16 => (intro w hSw; go_simp; try with_reducible rfl)
          try simp only [Act.put, List.setIfInBounds_toArray, List.set_cons_zero, List.set_cons_succ]
          refine wpAnyH_take (i := 16) (oi := { dst := some 129, op := Op.move (Operand.tmp 20), type := 4, pos := "law.go:103", after := #[{ on := 14, ground := Ground.guard }], guard := some (14, true) }) (v := ?vf17) rfl (by kernel_rfl) (by kernel_rfl) (by kernel_rfl) (fun _ _ _ h => h) (Or.inl ⟨by rfl, ?yf17⟩) bu4 ?rf17
          case yf17 => (intro w hSw; go_simp; try with_reducible rfl)
          try simp only [Act.put, List.setIfInBounds_toArray, List.set_cons_zero, List.set_cons_succ]
          refine wpAnyH_take (i := 17) (oi := { dst := some 130, op := Op.binOp BinOp.eql 4 (Operand.tmp 128) (Operand.tmp 129) 4, type := 4, pos := "law.go:103", after := #[{ on := 15, ground := Ground.data }, { on := 16, ground := Ground.data }, { on := 14, ground := Ground.guard }], guard := some (14, true) }) (v := .bool true) rfl (by kernel_rfl) (by kernel_rfl) (by kernel_rfl) (fun _ _ _ h => h) (Or.inl ⟨by rfl, ?yf18⟩) bu4 ?rf18
          case yf18 => (intro w hSw; go_simp; try with_reducible rfl)
          try simp only [Act.put, List.setIfInBounds_toArray, List.set_cons_zero, List.set_cons_succ]
          refine wpAnyH_take (i := 18) (oi := { dst := some 131, op := Op.pick (Operand.tmp 127) (Operand.tmp 130) (Operand.const (Value.bool false)), type := 4, pos := "law.go:103", after := #[{ on := 14, ground := Ground.data }, { on := 17, ground := Ground.data }], guard := none }) (v := .bool true) rfl (by kernel_rfl) (by kernel_rfl) (by kernel_rfl) (fun _ _ _ h => h) (Or.inl ⟨by rfl, ?yf19⟩) bu4 ?rf19
          case yf19 => (intro w hSw; go_simp; try with_reducible rfl)
          try simp only [Act.put, List.setIfInBounds_toArray, List.set_cons_zero, List.set_cons_succ]
          refine wpAnyH_take (i := 19) (oi := { dst := some 132, op := Op.move (Operand.tmp 131), type := 4, pos := "law.go:103", after := #[{ on := 18, ground := Ground.data }, { on := 14, ground := Ground.chain }], guard := none }) (v := .bool true) rfl (by kernel_rfl) (by kernel_rfl) (by kernel_rfl) (fun _ _ _ h => h) (Or.inl ⟨by rfl, ?yf20⟩) bu4 ?rf20
          case yf20 => (intro w hSw; go_simp; try with_reducible rfl)
          try simp only [Act.put, List.setIfInBounds_toArray, List.set_cons_zero, List.set_cons_succ]
          refine wpAnyH_ready (rs := [20]) (by kernel_rfl) (by simp) ?_
          refine AllReadyH.cons (o := { dst := some 133, op := Op.call { callee := Callee.value (Operand.func 5), args := #[], argTypes := #[] }, type := 4, pos := "law.go:103", after := #[{ on := 19, ground := Ground.chain }, { on := 19, ground := Ground.guard }], guard := some (19, true) }) rfl (fun KK hKK => ?_) ?_
          · go_simp
            refine (CA.out _ bu4).mono ?_
            rintro e u21' ⟨rfl, bu21'⟩
            (try go_wp2_with fail)
            refine hKK.out _ _ (bu4.trans (Below.mono (bu21') bu4.size)) (fun _ => ?_)
            clear hKK KK
            try simp only [Act.put, List.setIfInBounds_toArray, List.set_cons_zero, List.set_cons_succ]
            refine wpAnyH_name (fun u21 hu21 => ?_)
            have bu21 : Below Wa.heap.size Wa u21 := by rw [hu21.out]; exact (bu4.trans (Below.mono (bu21') bu4.size))
            refine wpAnyH_take (i := 21) (oi := { dst := some 134, op := Op.pick (Operand.tmp 132) (Operand.tmp 133) (Operand.const (Value.bool false)), type := 4, pos := "law.go:103", after := #[{ on := 19, ground := Ground.data }, { on := 20, ground := Ground.data }], guard := none }) (v := ?vf22) rfl (by kernel_rfl) (by kernel_rfl) (by kernel_rfl) (fun _ _ _ h => h) (Or.inl ⟨by rfl, ?yf22⟩) bu21 ?rf22
            case yf22 => (intro w hSw; go_simp; try with_reducible rfl)
            try simp only [Act.put, List.setIfInBounds_toArray, List.set_cons_zero, List.set_cons_succ]
            refine wpAnyH_take (i := 22) (oi := { dst := some 4, op := Op.assign (Operand.tmp 134), type := 4, pos := "law.go:103", after := #[{ on := 21, ground := Ground.data }, { on := 20, ground := Ground.chain }, { on := 0, ground := Ground.phase }, { on := 1, ground := Ground.phase }, { on := 2, ground := Ground.phase }, { on := 3, ground := Ground.phase }, { on := 4, ground := Ground.phase }, { on := 5, ground := Ground.phase }, { on := 6, ground := Ground.phase }, { on := 7, ground := Ground.phase }, { on := 8, ground := Ground.phase }, { on := 9, ground := Ground.phase }, { on := 10, ground := Ground.phase }, { on := 11, ground := Ground.phase }, { on := 12, ground := Ground.phase }, { on := 13, ground := Ground.phase }, { on := 14, ground := Ground.phase }, { on := 15, ground := Ground.phase }, { on := 16, ground := Ground.phase }, { on := 17, ground := Ground.phase }, { on := 18, ground := Ground.phase }, { on := 19, ground := Ground.phase }, { on := 20, ground := Ground.phase }, { on := 21, ground := Ground.phase }], guard := none }) (v := ?vf23) rfl (by kernel_rfl) (by kernel_rfl) (by kernel_rfl) (fun _ _ _ h => h) (Or.inl ⟨by rfl, ?yf23⟩) bu21 ?rf23
            case yf23 => (intro w hSw; go_simp; try with_reducible rfl)
            try simp only [Act.put, List.setIfInBounds_toArray, List.set_cons_zero, List.set_cons_succ]
            refine wpAnyH_done (by kernel_rfl) ?_ _
            have HZ : Hid (Below w.heap.size w u21) := BA.out.trans (Below.mono bu21 BA.out.size)
            clear FC FY CB CM CA E1 E2
            go_wp2
            go_ret
            exact ⟨rfl, HZ.out⟩
          exact AllReadyH.nil
        exact AllReadyH.nil
      exact AllReadyH.nil

theorem contract (H : Type) (enc : TypeId × Value → H) (W : World) (base : Nat) (args : Array Value) (ds gs : List (DataW H)) (before : List MemPlace)
    (hval : ∀ (j : Nat) t v, Tryd.f4.params[j]? = some t → args[j]? = some v → Value.okWide Tryd.prog W .any base t v)
    (hW : DataW.Whole enc Tryd.prog Tryd.f4.params.toList Rows.recordPlaysSpec.vars false W args.toList ds gs before) (hL : laidMetH Tryd.prog Rows.recordPlaysRow.laid W) (hsh : W.ShapedOpen Tryd.prog)
    (hsz0 : (DataW.weightsEach Tryd.prog (Tryd.f4.params.toList ++ Rows.recordPlaysSpec.plain.varTypes Tryd.prog) (ds ++ gs)).all (· ≤ reachBytes) = true) :
    Calls Tryd.prog 4 args W fun e W' => ∃ v, e = .returned v ∧ Rows.recordPlaysSpec.post enc Tryd.prog Tryd.f4 false true false false W args v W' := by
  have hW' := hW
  obtain ⟨p, q, hA0, hV, rfl, hfz, hnd⟩ := hW
  have hA : DataW.TrodAll enc Tryd.prog W 0 (fun _ => true) true Tryd.f4.params.toList args.toList ds p := hA0
  rw [Tryd.params4] at hA hval hsz0
  obtain ⟨v0, vs0, d0, ds0, p0, q0, hargs, rfl, rfl, h0, r0⟩ := trodAll_cons hA
  obtain ⟨v1, vs1, d1, ds1, p1, q1, rfl, rfl, rfl, h1, r1⟩ := trodAll_cons r0
  obtain ⟨rfl, rfl, rfl⟩ := trodAll_nil r1
  obtain rfl : args = #[v0, v1] := by cases args; simp_all
  obtain ⟨rfl, rfl⟩ := trodVars_none hV
  have k0 := h0
  have lt0 : ∀ x ∈ p0, x.block < W.heap.size := by obtain ⟨m, hm⟩ := k0; exact DataW.trod_lt m _ _ _ hm
  obtain ⟨L0, w0⟩ := recs_in (hval 0 39 v0 rfl rfl) h0
  obtain ⟨a1, rfl, rfl, rfl, w1⟩ := open_string Tryd.underlying9 (hval 1 9 v1 rfl rfl) h1
  clear hA0
  refine (walk v0 L0 a1 W (tb_of hL hsh) w0 w1).mono fun e W' ⟨he, bel⟩ => ?_
  subst he
  exact ⟨_, rfl, _, _, _, [], _, [], hW', trodAll_mk1 (shut_bool Tryd.underlying4 _), (trodAll_cons_mk (Below.trod laidOut (by kernel_rfl) (of_decide_eq_true (by kernel_rfl)) k0 bel lt0) (trodAll_cons_mk (shut_string Tryd.underlying9 w1) trodAll_mk0)), rfl, bel.frame _, fun h => by cases h⟩

theorem laid_met (os : Os) : laidMet Tryd.prog Rows.recordPlaysRow.laid (({ World.holding Tryd.prog os ⟨#[], #[], []⟩ with heap := ((((((World.holding Tryd.prog os ⟨#[], #[], []⟩).heap.modify 0 (fun
      | .cells _ t frozen => .cells #[.int .i64 1, .int .i64 2, .int .i64 4, .int .i64 8] t frozen
      | o => o)).modify 1 (fun
      | .cells _ t frozen => .cells halfCells t frozen
      | o => o)).modify 2 (fun
      | .cells _ t frozen => .cells #[.int .i64 0] t frozen
      | o => o)).modify 3 (fun
      | .cells _ t frozen => .cells firstCells t frozen
      | o => o)).modify 4 (fun
      | .cells _ t frozen => .cells rangeCells t frozen
      | o => o)) } : World).forCall (fun _ _ => 0) ⟨#[], #[.slice none 0 0, .string ⟨#[]⟩], []⟩).memory :=
  laidMet_of_run' 8 (by kernel_rfl) (by kernel_rfl)
theorem reads (os : Os) {H : Type} (enc : TypeId × Value → H) : ∃ places, DataW.whole enc Tryd.prog (({ World.holding Tryd.prog os ⟨#[], #[], []⟩ with heap := ((((((World.holding Tryd.prog os ⟨#[], #[], []⟩).heap.modify 0 (fun
      | .cells _ t frozen => .cells #[.int .i64 1, .int .i64 2, .int .i64 4, .int .i64 8] t frozen
      | o => o)).modify 1 (fun
      | .cells _ t frozen => .cells halfCells t frozen
      | o => o)).modify 2 (fun
      | .cells _ t frozen => .cells #[.int .i64 0] t frozen
      | o => o)).modify 3 (fun
      | .cells _ t frozen => .cells firstCells t frozen
      | o => o)).modify 4 (fun
      | .cells _ t frozen => .cells rangeCells t frozen
      | o => o)) } : World).forCall (fun _ _ => 0) ⟨#[], #[.slice none 0 0, .string ⟨#[]⟩], []⟩).memory Tryd.f4.params.toList Rows.recordPlaysSpec.vars false #[Value.slice none 0 0, .string ⟨#[]⟩].toList 8 = some ([.nil, .lit (.string [])], [], places) :=
  ⟨[], by kernel_rfl⟩

set_option maxRecDepth 100000 in
theorem lifted (os : Os) (started : os.Started) (H : Type) (enc : TypeId × Value → H) (F : Stop.Interp) :
    ReturnsInHanded {} Tryd.checked os 4 .any ((OpenSpec.ofChange Rows.recordPlaysSpec).preRow enc Tryd.prog Tryd.f4 Rows.recordPlaysRow.domain false Rows.recordPlaysRow.laid) (((OpenSpec.ofChange Rows.recordPlaysSpec).at F).post enc Tryd.prog Tryd.f4 false true false false) := by
  obtain ⟨places, hx⟩ := reads os enc
  refine returnsInHanded_of_row (C := Tryd.checked) (s := OpenSpec.ofChange Rows.recordPlaysSpec) own started (by kernel_rfl) Tryd.func4
    (witness_row_at (enc := enc) (C := Tryd.checked) false ({ World.holding Tryd.prog os ⟨#[], #[], []⟩ with heap := ((((((World.holding Tryd.prog os ⟨#[], #[], []⟩).heap.modify 0 (fun
      | .cells _ t frozen => .cells #[.int .i64 1, .int .i64 2, .int .i64 4, .int .i64 8] t frozen
      | o => o)).modify 1 (fun
      | .cells _ t frozen => .cells halfCells t frozen
      | o => o)).modify 2 (fun
      | .cells _ t frozen => .cells #[.int .i64 0] t frozen
      | o => o)).modify 3 (fun
      | .cells _ t frozen => .cells firstCells t frozen
      | o => o)).modify 4 (fun
      | .cells _ t frozen => .cells rangeCells t frozen
      | o => o)) } : World) #[.slice none 0 0, .string ⟨#[]⟩] rfl (by kernel_rfl) (by kernel_rfl) (by kernel_rfl)
      (OpenSpec.preRow_of_cond 8 hx (by kernel_rfl) (fun k hk => by cases hk) (by kernel_rfl) (laid_met os))) ?_
  intro W base args ds gs before hval hW _ _ hsz hL hsh _
  exact contract H enc W base args ds gs before hval hW hL hsh hsz

theorem said : Rows.RecordPlaysSaid :=
  OpenClaim.holds_of_cond 4 Tryd.f4 rfl rfl rfl rfl rfl rfl rfl ⟨rfl, rfl, rfl, rfl, rfl⟩ rfl rfl rfl rfl rfl (by kernel_rfl) Tryd.func4 (by kernel_rfl)
    (of_decide_eq_true (by kernel_rfl)) (by unfold Func.isWrapper; first | (rw [if_pos (by decide +kernel)]; kernel_rfl) | (rw [if_neg (by decide +kernel)]; exact ⟨rfl, rfl⟩))
    (fun os started H enc _ F => by rw [OpenClaim.pre_eq_preRow]; exact lifted os started H enc F)

theorem plain (f : FuncId) (fn : Func) (hf : Tryd.pinned.checked.prog.funcNamed "sumpter/sumpterlaw15.RecordPlays" = some f) (hfn : Tryd.pinned.checked.prog.funcs[f]? = some fn) :
    false = Tryd.pinned.checked.prog.looks [] ∧ ∀ (j : Nat) t, fn.params[j]? = some t → Tryd.pinned.checked.prog.wantsStandIn t = false := by
  obtain rfl : f = 4 := Option.some.inj ((show Tryd.prog.funcNamed "sumpter/sumpterlaw15.RecordPlays" = some 4 by kernel_rfl).symm.trans hf) |>.symm
  obtain rfl : fn = Tryd.f4 := (Option.some.inj (Tryd.func4.symm.trans hfn)).symm
  refine ⟨by kernel_rfl, fun j t ht => ?_⟩
  rw [Tryd.params4] at ht
  have hm : t ∈ [39, 9] := by simpa using Array.mem_of_getElem? ht
  have hall : ([39, 9].all fun u => !Tryd.prog.wantsStandIn u) = true := by kernel_rfl
  exact (show Tryd.prog.wantsStandIn t = false by simpa using List.all_eq_true.1 hall t hm)
end Go.Proofs.YtcenchnmibdebaaDoor.recordPlays

namespace Go.Proofs.YtcenchnmibdebaaDoor
/-- The card of RecordPlays. -/
theorem recordPlays_card : Rows.RecordPlaysCardSaid :=
  Claim7.holds_tied_plain_at .later [] _ _ _ _ recordPlays.said (fun _ h => by cases h) (by kernel_rfl) (fun _ h => by cases h) recordPlays_row_tie rfl ⟨rfl, rfl⟩ (by kernel_rfl) rfl recordPlays.plain (by kernel_rfl)
#print axioms recordPlays_card
end Go.Proofs.YtcenchnmibdebaaDoor
