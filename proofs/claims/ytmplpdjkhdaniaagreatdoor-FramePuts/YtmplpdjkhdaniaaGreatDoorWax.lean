/-
  Parts that grow in a variable.
  A region in the body of a range over a function, walked as any other.
-/
import Derived.Test.YtmplpdjkhdaniaaGreatDoorWau
import Derived.RangeFuncCalls
import Derived.Deep.RegionHeld
import Derived.OrdersIn
import Derived.TacticsIn
namespace Go.Proofs.YtmplpdjkhdaniaaGreatDoor
open Go.RowKit Go.Shelf
set_option maxRecDepth 100000

theorem Ow.keep {W W' : World} {B : Nat} {v : Value} {X : List Int} (h : Ow W B v X) (hk : ∀ (k : Nat) (cs : Array Value), v.ownBlock = some k → W.heap[k]? = some (.cells cs 5 (0, 0)) → W'.heap[k]? = some (.cells cs 5 (0, 0))) : Ow W' B v X := ⟨rs_keep h.1 hk, h.2⟩
/-- Parts, by the values in their row. -/
def PV (w : World) (B : Nat) (v : Value) (V : List Value) (ZZ : List (List Int)) : Prop := w.ownsRow B 34 1 v ZZ.length V ∧ ∀ i, i < ZZ.length → ∃ u, V[i]? = some u ∧ Ow w B u (ZZ.getD i [])
theorem PV.lp {w : World} {B : Nat} {v : Value} {V : List Value} {ZZ : List (List Int)} (h : PV w B v V ZZ) : LP w B v ZZ := ⟨V, h.1, h.2⟩
theorem PV.keep {W W' : World} {B : Nat} {v : Value} {V : List Value} {ZZ : List (List Int)} (h : PV W B v V ZZ) (hk : ∀ (k : Nat) (cs : Array Value) (t : TypeId), (t = 34 ∨ t = 5) → W.heap[k]? = some (.cells cs t (0, 0)) → W'.heap[k]? = some (.cells cs t (0, 0))) : PV W' B v V ZZ :=
  ⟨rs_keep h.1 (fun k cs _ hh => hk k cs _ (.inl rfl) hh), fun i hi => by
    obtain ⟨u, h1, h2⟩ := h.2 i hi
    exact ⟨u, h1, h2.keep (fun k cs _ hh => hk k cs _ (.inr rfl) hh)⟩⟩
theorem PV.below {W W' : World} {B : Nat} {v : Value} {V : List Value} {ZZ : List (List Int)} (h : PV W B v V ZZ) (hb : Below W.heap.size W W') : PV W' B v V ZZ := h.keep fun _ _ _ _ hh => blk_kept hh hb (blk_lt hh)
theorem PV.two {w : World} {B : Nat} {u1 u2 : Value} {X1 X2 : List Int} (h1 : Ow w B u1 X1) (h2 : Ow w B u2 X2) (hB : B ≤ w.heap.size) : PV (w.alloc (.cells #[u1, u2] 34)) B (.slice (some ⟨w.heap.size, 0, none⟩) 2 2) [u1, u2] [X1, X2] := by
  refine ⟨⟨rfl, .inr ⟨w.heap.size, 2, #[u1, u2], rfl, hB, heap_alloc_new _ _, Nat.le_refl _, by unfold maxLen; omega, rfl, rfl⟩⟩, fun i hi => ?_⟩
  rcases (show i = 0 ∨ i = 1 by simp at hi; omega) with rfl | rfl
  · exact ⟨u1, rfl, h1.below (al_below _ _)⟩
  · exact ⟨u2, rfl, h2.below (al_below _ _)⟩
/-- A variable that holds parts. -/
def PB (W : World) (k N : Nat) (vv : Value) (V : List Value) (ZZ : List (List Int)) : Prop := W.heap[k]? = some (.cells #[vv] 96 (0, 0)) ∧ PV W N vv V ZZ
theorem PB.below {W W' : World} {k N : Nat} {vv : Value} {V : List Value} {ZZ : List (List Int)} (h : PB W k N vv V ZZ) (hb : Below W.heap.size W W') : PB W' k N vv V ZZ := ⟨blk_kept h.1 hb (blk_lt h.1), h.2.below hb⟩
theorem PB.cell {W : World} {k N : Nat} {vv : Value} {V : List Value} {ZZ : List (List Int)} (h : PB W k N vv V ZZ) : W.cell? ⟨k, 0, none⟩ = some vv := by have := h.1; simp [World.cell?, this]
/-- What a part that is laid behind keeps. -/
structure Kq (N k : Nat) (W W' : World) : Prop where
  oth : KeepsOthers W W'
  os : W'.os = W.os
  tape : W'.tape = W.tape
  output : W'.output = W.output
  low : ∀ j, j < N → W'.heap[j]? = W.heap[j]?
  cel : ∀ (j : Nat) (cs : Array Value) (t : TypeId) (fr : Nat × Nat), j ≠ k → t ≠ 34 → W.heap[j]? = some (.cells cs t fr) → W'.heap[j]? = some (.cells cs t fr)
theorem Kq.refl (N k : Nat) (W : World) : Kq N k W W := ⟨KeepsOthers.refl _, rfl, rfl, rfl, fun _ _ => rfl, fun _ _ _ _ _ _ h => h⟩
theorem Kq.trans {N k : Nat} {A B C : World} (h : Kq N k A B) (h' : Kq N k B C) : Kq N k A C := ⟨h.oth.trans h'.oth, h'.os.trans h.os, h'.tape.trans h.tape, h'.output.trans h.output, fun j hj => (h'.low j hj).trans (h.low j hj), fun j cs t fr a b c => h'.cel j cs t fr a b (h.cel j cs t fr a b c)⟩
theorem Kq.of {N k : Nat} {A B : World} (h : Below A.heap.size A B) (hN : N ≤ A.heap.size) : Kq N k A B := ⟨keeps_below h, h.os, h.tape, h.output, fun j hj => h.block j (by omega), fun j cs t fr _ _ hh => blk_kept hh h (blk_lt hh)⟩
theorem Kq.bel {N k n : Nat} {w A B : World} (h : Kq N k A B) (hn : n ≤ N) (hb : Below n w A) : Below n w B := hb.trans ⟨h.os, h.tape, h.output, h.oth.size, fun j hj => h.low j (by omega)⟩
theorem Kq.kt {N k n b : Nat} {A B : World} {X : Nat → Prop} (h : Kq N k A B) (hX : ∀ j, j < n → ¬ X j → j < N ∨ j = b) (hbk : b ≠ k) {cs : Array Value} {t : TypeId} {fr : Nat × Nat} (ht : t ≠ 34) (hb : A.heap[b]? = some (.cells cs t fr)) : Kt n X A B := fun j o hj hx ho _ => by
  rcases hX j hj hx with q | rfl
  · exact (h.low j q).trans ho
  · rw [hb] at ho
    cases ho
    exact h.cel _ _ _ _ hbk ht hb
theorem pb_step {W w4 : World} {k N : Nat} {vv v' u : Value} {V : List Value} {ZZ : List (List Int)} {X : List Int} (h : PB W k N vv V ZZ) (hx : Ow W N u X) (hN : N ≤ W.heap.size) (hk : N ≤ k)
    (ho : w4.ownsRow N 34 1 v' (ZZ.length + 1) (V ++ [u])) (hg : (W.alloc (.cells #[u] 34)).grownBy w4 vv.ownBlock) :
    (w4.cell? ⟨k, 0, none⟩ = some vv ∧ w4.frozen? ⟨k, 0, none⟩ = false) ∧ PB (w4.setCell ⟨k, 0, none⟩ v') k N v' (V ++ [u]) (ZZ ++ [X]) ∧ Kq N k W (w4.setCell ⟨k, 0, none⟩ v') ∧ Kq N k W w4 := by
  have hal := al_below W (.cells #[u] 34)
  have hge := own_base h.2.1
  have hrow : ∀ j o, vv.ownBlock = some j → W.heap[j]? = some o → ∃ cs, o = .cells cs 34 (0, 0) := fun j o e hj => by
    obtain ⟨q1, q2⟩ := h.2.1
    rcases q2 with ⟨rfl, _⟩ | ⟨g, cap, cur, rfl, _, hh, _⟩
    · cases e
    · cases e
      rw [hh] at hj
      cases hj
      exact ⟨_, rfl⟩
  have hcel : ∀ (j : Nat) (cs : Array Value) (t : TypeId) (fr : Nat × Nat), t ≠ 34 → W.heap[j]? = some (.cells cs t fr) → w4.heap[j]? = some (.cells cs t fr) := fun j cs t fr ht hj => (hg.block j (by have := hal.size; have := blk_lt hj; omega) (fun e => by
    obtain ⟨cs', e'⟩ := hrow j _ e.symm hj
    cases e'
    exact ht rfl)).trans ((hal.block j (blk_lt hj)).trans hj)
  have hb1 : w4.heap[k]? = some (.cells #[vv] 96 (0, 0)) := hcel _ _ _ _ (by decide) h.1
  have hke : KeepsOthers W w4 := ⟨Nat.le_trans hal.size hg.size, fun j o hj hc => by
    refine (hg.block j (by have := hal.size; have := blk_lt hj; omega) (fun e => ?_)).trans ((hal.block j (blk_lt hj)).trans hj)
    obtain ⟨cs, rfl⟩ := hrow j o e.symm hj
    cases hc⟩
  have hset : ∀ (j : Nat) (cs : Array Value) (t : TypeId), t ≠ 96 → w4.heap[j]? = some (.cells cs t (0, 0)) → (w4.setCell ⟨k, 0, none⟩ v').heap[j]? = some (.cells cs t (0, 0)) := fun j cs t ht hj => by
    rw [Below.heap_setCell _ _ _ _ (fun e => by
      have e' : j = k := e
      rw [e', hb1] at hj
      cases hj
      exact ht rfl)]
    exact hj
  have hVl : V.length = ZZ.length := by have := h.2.1.1; simpa using this
  have ap : ∀ {y : Value} {Y : List Int}, Ow W N y Y → Ow w4 N y Y := fun hy => ⟨own_apart (own_below h.2.1 hal) (own_below hy.1 hal) (by decide) hg, hy.2⟩
  have hpv : PV w4 N v' (V ++ [u]) (ZZ ++ [X]) := by
    refine ⟨by rw [List.length_append]; exact ho, fun i hi => ?_⟩
    rw [List.length_append, List.length_singleton] at hi
    rcases Nat.lt_or_ge i ZZ.length with h' | h'
    · obtain ⟨z, hz, oz⟩ := h.2.2 i h'
      refine ⟨z, by rw [List.getElem?_append_left (by omega)]; exact hz, ?_⟩
      have e : (ZZ ++ [X]).getD i [] = ZZ.getD i [] := by simp [List.getD, List.getElem?_append_left h']
      rw [e]
      exact ap oz
    · obtain rfl : i = ZZ.length := by omega
      refine ⟨u, by rw [List.getElem?_append_right (by omega), hVl]; simp, ?_⟩
      have e : (ZZ ++ [X]).getD ZZ.length [] = X := by simp [List.getD]
      rw [e]
      exact ap hx
  have hkq : Kq N k W w4 := ⟨hke, hg.os.trans hal.os, hg.tape.trans hal.tape, hg.output.trans hal.output, fun j hj => (hg.block j (by have := hal.size; omega) (fun e => by have := hge j e.symm; omega)).trans (hal.block j (by omega)), fun j cs t fr _ ht hh => hcel j cs t fr ht hh⟩
  refine ⟨⟨by simp [World.cell?, hb1], by simp [World.frozen?, hb1]⟩, ⟨set_one hb1, hpv.keep (fun j cs t ht hj => hset j cs t (by rcases ht with rfl | rfl <;> decide) hj)⟩, hkq.trans ?_, hkq⟩
  refine ⟨KeepsOthers.setCell _ _ _, rfl, rfl, rfl, fun j hj => Below.heap_setCell _ _ _ _ (show j ≠ k by omega), fun j cs t fr hj _ hh => ?_⟩
  rw [Below.heap_setCell _ _ _ _ hj]
  exact hh
/-- The parts behind what came. -/
def prtA (l : List Sp) (y : Nat × Sp) : List (List Int) := (if y.1 < l.length - 1 then [nB ((atS l (y.1 + 1)).1 - y.2.2 - 2)] else []) ++ [nB (y.2.2 - y.2.1)]
def prsA (l : List Sp) (L : List (Nat × Sp)) : List (List Int) := [nB (atS l (l.length - 1)).2, nB ((l.length - 1 : Nat) : Int)] ++ (L.map (prtA l)).flatten
theorem prsA_snoc (l : List Sp) (L : List (Nat × Sp)) (y : Nat × Sp) : prsA l (L ++ [y]) = prsA l L ++ prtA l y := by unfold prsA; rw [List.map_append, List.flatten_append]; simp
theorem prsA_bwl (l : List Sp) : prsA l (bwl l) = prs l l.length := by
  unfold bwl
  suffices H : ∀ k, prsA l ((List.range k).map fun k => (l.length - (k + 1), atS l (l.length - (k + 1)))) = prs l k from H _
  intro k
  induction k with
  | zero => rfl
  | succ k ih =>
    rw [List.range_succ, List.map_append, List.map_singleton, prsA_snoc, ih]
    rfl
theorem prsA_len (l : List Sp) (L : List (Nat × Sp)) : (prsA l L).length ≤ 2 + 2 * L.length := by
  unfold prsA
  rw [List.length_append]
  suffices H : (L.map (prtA l)).flatten.length ≤ 2 * L.length by simp only [List.length_cons, List.length_nil]; omega
  induction L with
  | nil => simp
  | cons y L ih =>
    have : (prtA l y).length ≤ 2 := by unfold prtA; rw [List.length_append]; split <;> simp
    rw [List.map_cons, List.flatten_cons, List.length_append, List.length_cons]
    omega
theorem wid_kq {N k : Nat} {A B : World} (h : Kq N k A B) (hN : 1 < N) (hw : Fi.Wid A) : Fi.Wid B := hw.below (B := N) ⟨h.os, h.tape, h.output, h.oth.size, h.low⟩ hN
theorem Kq.drew (N k : Nat) (W : World) : Kq N k W W.drew := ⟨KeepsOthers.drew W, rfl, rfl, rfl, fun _ _ => rfl, fun _ _ _ _ _ _ h => h⟩
theorem one_cell {W : World} {u : Value} {t : TypeId} : ∀ j y, [u][j]? = some y → (W.alloc (.cells #[u] t)).cell? ((⟨W.heap.size, 0, none⟩ : Addr).add j) = some y := fun j y hj => by
  rw [Addr.add_lit, Nat.zero_add, World.cell?_alloc_at _ _ _ _ rfl]
  cases j with
  | zero => simpa using hj
  | succ j => simp at hj
theorem own_keeps {W W' : World} {row : Option Nat} {B : Nat} (hg : W.grownBy W' row) (hr : ∀ k, row = some k → B ≤ k ∧ ∃ o, W.heap[k]? = some o ∧ o.isCells = false) {k : Nat} {cs : Array Value} {t : TypeId} {fr : Nat × Nat} (h : W.heap[k]? = some (.cells cs t fr)) : W'.heap[k]? = some (.cells cs t fr) :=
  (hg.block k (blk_lt h) (fun e => by
    obtain ⟨_, o, ho, hc⟩ := hr k e.symm
    rw [h] at ho
    cases ho
    cases hc)).trans h
end Go.Proofs.YtmplpdjkhdaniaaGreatDoor
namespace Go.Proofs.YtmplpdjkhdaniaaGreatDoor
open Go.RowKit Go.Shelf
set_option maxRecDepth 100000

theorem oper_round {P : Program} (lp n : Nat) {o : Oper} {a : Act} {w : World} {K : Act → World → Prop} {Q : Exit → Act → World → Prop} (hd : ∀ c, o.op ≠ .defer c) (h : o.wp P a w K Q) : o.wpIn (Fence.wide.inRound lp) n P a w K Q := by
  unfold Oper.wp at h
  unfold Oper.wpIn
  refine ⟨fun _ _ => trivial, ?_⟩
  have e : Oper.semAt (Fence.wide.inRound lp).round a.eval o = execOp a.eval o := Oper.semAt_some lp a.eval o hd
  rw [e]
  generalize (execOp a.eval o).run P w = r at *
  cases r with
  | ok x w' =>
    cases x <;> simp only [Oper.upon, Oper.uponIn] at h ⊢ <;>
      first
        | exact h
        | exact ⟨fun hh => (by cases hh), CallsIn.inRound lp (callsIn_wide.2 h)⟩
        | exact ⟨fun hh => (by cases hh), fun c cs _ => (by
            obtain ⟨v, w', q1, q2⟩ := h c cs
            exact ⟨v, w', q1, stepsIn_wide.2 q2⟩)⟩
  | halt x w' => cases x <;> simp only [Oper.upon, Oper.uponIn] at h ⊢ <;> exact h
def noDefer (ops : Array Oper) : Bool := ops.toList.all fun o => match o.op with
  | .defer _ => false
  | _ => true
theorem noDefer_spec {ops : Array Oper} (h : noDefer ops = true) (i : Nat) (o : Oper) (ho : ops[i]? = some o) : ∀ c, o.op ≠ .defer c := fun c e => by
  unfold noDefer at h
  rw [List.all_eq_true] at h
  have := h o (by
    obtain ⟨hi, e⟩ := Array.getElem?_eq_some_iff.1 ho
    rw [← e]
    simp)
  rw [e] at this
  cases this
theorem any_round {P : Program} (lp n : Nat) {ops : Array Oper} {Q : Exit → Act → World → Prop} {md : Region.Mode} (hd : noDefer ops = true) (hQ : ¬ LetsOut Q) : ∀ (fuel : Nat) (listed : Array Bool) (a : Act) (w : World), wpAny P md ops Q fuel listed a w → wpAnyIn (Fence.wide.inRound lp) n P md ops Q fuel listed a w
  | 0, _, _, _, h => h
  | fuel + 1, listed, a, w, h => ⟨h.1, fun i hi => by
      have h2 := h.2 i hi
      unfold wpOp at h2
      unfold wpOpIn
      cases ho : ops[i]? with
      | none =>
        rw [ho] at h2
        exact any_round lp n hd hQ fuel _ _ _ h2
      | some o =>
        rw [ho] at h2
        simp only at h2 ⊢
        by_cases hw : Region.wanted o (yielded ops a.tmps) = true
        · rw [if_pos hw] at h2 ⊢
          rcases h2 with h2 | h2
          · exact oper_round lp n (noDefer_spec hd i o ho) (Oper.wp_mono (fun a' w' q => any_round lp n hd hQ fuel _ _ _ q) h2)
          · exact absurd h2.2 hQ
        · rw [if_neg hw] at h2 ⊢
          exact ⟨fun _ _ => trivial, any_round lp n hd hQ fuel _ _ _ h2⟩⟩
/-- A region in a round, where what holds at each step is told. -/
theorem region_round {P : Program} (lp n : Nat) {S : World → Prop} {id : Nat} {ops : Array Oper} {Q : Exit → Act → World → Prop} {a : Act} {w : World} (hQ : ¬ LetsOut Q) (hd : noDefer ops = true) (hm : P.follows .mixedOrders = true) (hS : S w.drew)
    (h : S w.drew → wpAnyH P .any ops Q S ops.size (Array.replicate ops.size false) a w.drew) : (Code.region id ops true).wpIn (Fence.wide.inRound lp) n P Q a w :=
  wpIn_region_any hm (any_round lp n hd hQ _ _ _ _ (wpAny_of_held _ _ _ _ (h hS)))
end Go.Proofs.YtmplpdjkhdaniaaGreatDoor
